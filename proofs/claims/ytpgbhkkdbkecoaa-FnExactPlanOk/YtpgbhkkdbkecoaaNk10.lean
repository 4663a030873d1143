/- Texts put together: TreF -/
import Derived.Test.YtpgbhkkdbkecoaaNk08
import Derived.Test.YtpgbhkkdbkecoaaNk02
import Derived.Test.YtpgbhkkdbkecoaaNk03
import Derived.Test.YtpgbhkkdbkecoaaNk09
/- TreF -/
namespace Go.Proofs.Ytpgbhkkdbkecoaa
open Go.RowKit Go.Deep
set_option maxRecDepth 100000

/-- A yes or no. -/
def Tells (P : Prop) (w : World) (e : Ending) (w' : World) : Prop := ∃ q : Bool, e = .returned (.bool q) ∧ (q = true ↔ P) ∧ Below w.heap.size w w'
theorem Tells.of {P : Prop} {w w' : World} {b : Bool} (h : b = true ↔ P) (hb : Below w.heap.size w w') : Tells P w (.returned (.bool b)) w' := ⟨b, rfl, h, hb⟩
theorem Tells.no {P : Prop} {w w' : World} (h : ¬ P) (hb : Below w.heap.size w w') : Tells P w (.returned (.bool false)) w' := ⟨false, rfl, ⟨fun e => (by cases e), fun hp => absurd hp h⟩, hb⟩
theorem Tells.yes {P : Prop} {w w' : World} (h : P) (hb : Below w.heap.size w w') : Tells P w (.returned (.bool true)) w' := ⟨true, rfl, ⟨fun _ => h, fun _ => rfl⟩, hb⟩

/-- What is zero. -/
def zeroT (x : TD) : Prop := x.k = 0 ∧ x.bs = [] ∧ x.n = 0 ∧ x.s = 0
def zeroI (x : IB) : Prop := x.v.b = [] ∧ zeroT x.t.td
def zeroP (x : PB) : Prop := zeroI x.s ∧ zeroI x.p ∧ zeroI x.o
/-- An item that may stand where terms of kinds up to m may. -/
def itOk (x : IB) (m : Int) : Prop := (x.v.b ≠ [] ∧ nameOk x.v.b = true ∧ zeroT x.t.td) ∨ (x.v.b = [] ∧ x.t.td.ok = true ∧ x.t.t.k ≤ m)
def ptOk (x : PB) : Prop := itOk x.s 1 ∧ itOk x.p 0 ∧ itOk x.o 3
/-- How many Kids an expression may have. -/
def kOk (k : Int) (n : Nat) : Prop := ((k = 0 ∨ k = 1 ∨ k = 4) ∧ n = 0) ∨ ((k = 3 ∨ k = 7) ∧ n = 1) ∨ (k = 2 ∧ n = 2) ∨ (k = 5 ∧ n = 3) ∨ (k = 6 ∧ 1 ≤ n ∧ n ≤ 4)
/-- What an expression's own cells must be. -/
def nodeOk (d : EN) : Prop := kOk d.k d.n ∧ ((d.k = 0 ∨ d.k = 4) → nameOk d.v.b = true) ∧ (¬ (d.k = 0 ∨ d.k = 4) → d.v.b = []) ∧ (d.k = 1 → d.t.td.ok = true) ∧ (d.k ≠ 1 → zeroT d.t.td) ∧ (0 ≤ d.op ∧ d.op ≤ 7) ∧ (d.k ≠ 2 → d.op = 0)
def sumN : Nat → (Nat → Nat) → Nat
  | 0, _ => 0
  | n + 1, f => sumN n f + f n
def eOk (lim : Int) : ET → Int → Prop
  | .nil, _ => False
  | .mk d kid, deep => deep ≤ lim ∧ nodeOk d ∧ ∀ i, i < d.n → eOk lim (kid i) (deep + 1)
def esz : ET → Nat
  | .nil => 0
  | .mk d kid => 1 + sumN d.n (fun i => esz (kid i))
def zeroE (e : ET) : Prop := e.d.k = 0 ∧ e.d.op = 0 ∧ e.d.v.b = [] ∧ zeroT e.d.t.td ∧ e.d.n = 0
theorem nil_len {b : List Int} {n : Nat} (h : b.length = n) : b = [] ↔ n = 0 := by
  rw [← h]
  exact List.length_eq_zero_iff.symm
theorem name_pos {b : List Int} (h : nameOk b = true) : b ≠ [] := by
  rintro rfl
  simp [nameOk] at h
theorem sumN_mono {n m : Nat} {f : Nat → Nat} (h : n ≤ m) : sumN n f ≤ sumN m f := by
  induction m with
  | zero => rw [show n = 0 by omega]; exact Nat.le_refl _
  | succ m ih =>
    by_cases e : n = m + 1
    · rw [e]; exact Nat.le_refl _
    · have := ih (by omega)
      show sumN n f ≤ sumN m f + f m
      omega
theorem sumN_congr {n : Nat} {f g : Nat → Nat} (h : ∀ i, i < n → f i = g i) : sumN n f = sumN n g := by
  induction n with
  | zero => rfl
  | succ n ih =>
    show sumN n f + f n = sumN n g + g n
    rw [ih (fun i hi => h i (by omega)), h n (by omega)]
theorem itOk_same {x y : IB} (h : x.same y) (m : Int) : itOk x m ↔ itOk y m := by
  have hk : x.t.t.k = y.t.t.k := congrArg TD.k h.2
  unfold itOk
  rw [h.1, h.2, hk]
theorem ptOk_same {x y : PB} (h : x.same y) : ptOk x ↔ ptOk y := by
  unfold ptOk
  rw [itOk_same h.1, itOk_same h.2.1, itOk_same h.2.2]
theorem zeroP_same {x y : PB} (h : x.same y) : zeroP x ↔ zeroP y := by
  unfold zeroP zeroI
  rw [h.1.1, h.1.2, h.2.1.1, h.2.1.2, h.2.2.1, h.2.2.2]
theorem eOk_same {lim : Int} {e : ET} : ∀ {e' : ET} {deep : Int}, e.same e' → (eOk lim e deep ↔ eOk lim e' deep) := by
  induction e with
  | nil => exact fun h => False.elim h
  | mk d kid ih =>
    intro e' deep h
    cases e' with
    | nil => exact False.elim h
    | mk d' kid' =>
    obtain ⟨h0, h1, h2, h3, h4, h5⟩ := h
    show (deep ≤ lim ∧ nodeOk d ∧ ∀ i, i < d.n → eOk lim (kid i) (deep + 1)) ↔ (deep ≤ lim ∧ nodeOk d' ∧ ∀ i, i < d'.n → eOk lim (kid' i) (deep + 1))
    have e1 : nodeOk d ↔ nodeOk d' := by
      unfold nodeOk
      rw [h0, h1, h2, h3, h4]
    rw [e1, ← h4]
    refine and_congr_right fun _ => and_congr_right fun _ => ⟨fun H i hi => (ih i (h5 i hi)).1 (H i hi), fun H i hi => (ih i (h5 i hi)).2 (H i hi)⟩
theorem esz_same {e : ET} : ∀ {e' : ET}, e.same e' → esz e = esz e' := by
  induction e with
  | nil => exact fun h => False.elim h
  | mk d kid ih =>
    intro e' h
    cases e' with
    | nil => exact False.elim h
    | mk d' kid' =>
    obtain ⟨_, _, _, _, h4, h5⟩ := h
    show 1 + sumN d.n _ = 1 + sumN d'.n _
    rw [← h4, sumN_congr fun i hi => ih i (h5 i hi)]
theorem zeroE_same {e e' : ET} (h : e.same e') : zeroE e ↔ zeroE e' := by
  cases e with
  | nil => exact False.elim h
  | mk d kid =>
  cases e' with
  | nil => exact False.elim h
  | mk d' kid' =>
  obtain ⟨h0, h1, h2, h3, h4, _⟩ := h
  show (d.k = 0 ∧ d.op = 0 ∧ d.v.b = [] ∧ zeroT d.t.td ∧ d.n = 0) ↔ (d'.k = 0 ∧ d'.op = 0 ∧ d'.v.b = [] ∧ zeroT d'.t.td ∧ d'.n = 0)
  rw [h0, h1, h2, h3, h4]

/-- The model's small functions. -/
theorem l4zeroTerm_any (x : TB) (w : World) (h : BsF 0 w x.sl) :
    Calls Try.prog 73 #[.agg #[.int .i64 x.t.k, .slice x.t.a x.t.len x.t.cap, .int .i64 x.t.n, .int .i64 x.t.s]] w (Tells (zeroT x.td) w) := by
  have HL : Hid (x.b = [] ↔ x.t.len = 0) := nil_len h.1.1
  clear h
  by_cases h0 : x.t.k = 0
  rotate_left
  · go_enter Try.func73, Try.ntmps73
    go_wp2
    go_ret
    exact Tells.no (P := zeroT x.td) (fun hp => h0 hp.1) (bl_a _)
  by_cases h1 : x.t.len = 0
  rotate_left
  · go_enter Try.func73, Try.ntmps73
    go_wp2
    go_ret
    exact Tells.no (P := zeroT x.td) (fun hp => h1 (HL.out.1 hp.2.1)) (bl_a _)
  by_cases h2 : x.t.n = 0
  rotate_left
  · go_enter Try.func73, Try.ntmps73
    go_wp2
    go_ret
    exact Tells.no (P := zeroT x.td) (fun hp => h2 hp.2.2.1) (bl_a _)
  by_cases h3 : x.t.s = 0
  rotate_left
  · have h3' : (x.t.s == 0) = false := by simp [h3]
    go_enter Try.func73, Try.ntmps73
    go_wp2
    go_ret
    exact Tells.no (P := zeroT x.td) (fun hp => h3 hp.2.2.2) (bl_a _)
  · have HP : Hid (zeroT x.td) := ⟨h0, HL.out.2 h1, h2, h3⟩
    go_enter Try.func73, Try.ntmps73
    go_wp2
    go_ret
    exact Tells.yes HP.out (bl_a _)
theorem l4var_any (x : SL) (w : World) (h : BsF 0 w x) : Calls Try.prog 48 #[.slice x.a x.len x.cap] w (Tells (nameOk x.b = true) w) := by
  have T := specTermOk_any 0 0 0 x.a x.len x.cap x.b w h.1 (by omega) (by omega)
  have e : termOk 0 x.b 0 0 = nameOk x.b := by simp [termOk]
  rw [e] at T
  clear h
  go_enter Try.func48, Try.ntmps48
  go_wp2_with fail
  refine T.mono ?_
  rintro e w1 ⟨rfl, o1, rfl⟩
  clear T
  go_wp2_with fail
  go_ret
  exact Tells.of Iff.rfl (bl_a _)
theorem l4zeroItem_any (x : IB) (w : World) (h : x.lies 0 w) : Calls Try.prog 81 #[.agg #[.slice x.v.a x.v.len x.v.cap, .int .i64 x.t.t.k, .slice x.t.t.a x.t.t.len x.t.t.cap, .int .i64 x.t.t.n, .int .i64 x.t.t.s]] w (Tells (zeroI x) w) := by
  have HL : Hid (x.v.b = [] ↔ x.v.len = 0) := nil_len h.1.1.1
  have HZ : Hid (∀ o, Calls Try.prog 73 #[.agg #[.int .i64 x.t.t.k, .slice x.t.t.a x.t.t.len x.t.t.cap, .int .i64 x.t.t.n, .int .i64 x.t.t.s]] (w.alloc o) (Tells (zeroT x.t.td) (w.alloc o))) := fun o => l4zeroTerm_any x.t (w.alloc o) (h.2.1.upper (Upper.of_below (bl_a o)))
  clear h
  by_cases h0 : x.v.len = 0
  · have Z := HZ.out
    go_enter Try.func81, Try.ntmps81
    go_wp2_with fail
    refine (Z _).mono ?_
    rintro e w1 ⟨q1, rfl, hq1, hb1⟩
    have HQ : Hid (q1 = true ↔ zeroI x) := (show (q1 = true ↔ zeroI x) from hq1.trans ⟨fun h => ⟨HL.out.2 h0, h⟩, fun h => h.2⟩)
    have HB : Hid (Below w.heap.size w w1) := bl_trans (bl_a _) hb1
    clear Z hq1 hb1
    go_wp2_with fail
    go_ret
    exact Tells.of HQ.out HB.out
  · go_enter Try.func81, Try.ntmps81
    go_wp2_with fail
    go_ret
    exact Tells.no (P := zeroI x) (fun hp => h0 (HL.out.1 hp.1)) (bl_a _)
set_option maxHeartbeats 1000000 in
theorem l4zeroPat_any (x : PB) (w : World) (h : x.lies 0 w) : Calls Try.prog 62 #[.agg #[.slice x.s.v.a x.s.v.len x.s.v.cap, .int .i64 x.s.t.t.k, .slice x.s.t.t.a x.s.t.t.len x.s.t.t.cap, .int .i64 x.s.t.t.n, .int .i64 x.s.t.t.s, .slice x.p.v.a x.p.v.len x.p.v.cap, .int .i64 x.p.t.t.k, .slice x.p.t.t.a x.p.t.t.len x.p.t.t.cap, .int .i64 x.p.t.t.n, .int .i64 x.p.t.t.s, .slice x.o.v.a x.o.v.len x.o.v.cap, .int .i64 x.o.t.t.k, .slice x.o.t.t.a x.o.t.t.len x.o.t.t.cap, .int .i64 x.o.t.t.n, .int .i64 x.o.t.t.s]] w (Tells (zeroP x) w) := by
  have HZ1 : Hid (∀ W, Below w.heap.size w W → Calls Try.prog 81 #[.agg #[.slice x.s.v.a x.s.v.len x.s.v.cap, .int .i64 x.s.t.t.k, .slice x.s.t.t.a x.s.t.t.len x.s.t.t.cap, .int .i64 x.s.t.t.n, .int .i64 x.s.t.t.s]] W (Tells (zeroI x.s) W)) := fun W hb => l4zeroItem_any x.s W (h.1.upper (Upper.of_below hb))
  have HZ2 : Hid (∀ W, Below w.heap.size w W → Calls Try.prog 81 #[.agg #[.slice x.p.v.a x.p.v.len x.p.v.cap, .int .i64 x.p.t.t.k, .slice x.p.t.t.a x.p.t.t.len x.p.t.t.cap, .int .i64 x.p.t.t.n, .int .i64 x.p.t.t.s]] W (Tells (zeroI x.p) W)) := fun W hb => l4zeroItem_any x.p W (h.2.1.upper (Upper.of_below hb))
  have HZ3 : Hid (∀ W, Below w.heap.size w W → Calls Try.prog 81 #[.agg #[.slice x.o.v.a x.o.v.len x.o.v.cap, .int .i64 x.o.t.t.k, .slice x.o.t.t.a x.o.t.t.len x.o.t.t.cap, .int .i64 x.o.t.t.n, .int .i64 x.o.t.t.s]] W (Tells (zeroI x.o) W)) := fun W hb => l4zeroItem_any x.o W (h.2.2.upper (Upper.of_below hb))
  clear h
  go_enter Try.func62, Try.ntmps62
  have Z1 := HZ1.out
  go_wp2_with fail
  refine (Z1 _ (bl_a _)).mono ?_
  rintro e w1 ⟨q1, rfl, hq1, hb1⟩
  have HX1 : Hid (Box w1 w.heap.size [.slice x.s.v.a x.s.v.len x.s.v.cap, .int .i64 x.s.t.t.k, .slice x.s.t.t.a x.s.t.t.len x.s.t.t.cap, .int .i64 x.s.t.t.n, .int .i64 x.s.t.t.s, .slice x.p.v.a x.p.v.len x.p.v.cap, .int .i64 x.p.t.t.k, .slice x.p.t.t.a x.p.t.t.len x.p.t.t.cap, .int .i64 x.p.t.t.n, .int .i64 x.p.t.t.s, .slice x.o.v.a x.o.v.len x.o.v.cap, .int .i64 x.o.t.t.k, .slice x.o.t.t.a x.o.t.t.len x.o.t.t.cap, .int .i64 x.o.t.t.n, .int .i64 x.o.t.t.s]) := (Box.new w #[.slice x.s.v.a x.s.v.len x.s.v.cap, .int .i64 x.s.t.t.k, .slice x.s.t.t.a x.s.t.t.len x.s.t.t.cap, .int .i64 x.s.t.t.n, .int .i64 x.s.t.t.s, .slice x.p.v.a x.p.v.len x.p.v.cap, .int .i64 x.p.t.t.k, .slice x.p.t.t.a x.p.t.t.len x.p.t.t.cap, .int .i64 x.p.t.t.n, .int .i64 x.p.t.t.s, .slice x.o.v.a x.o.v.len x.o.v.cap, .int .i64 x.o.t.t.k, .slice x.o.t.t.a x.o.t.t.len x.o.t.t.cap, .int .i64 x.o.t.t.n, .int .i64 x.o.t.t.s] 59 _).below hb1
  have HB1 : Hid (Below w.heap.size w w1) := bl_trans (bl_a _) hb1
  have HQ1 : Hid (q1 = true ↔ zeroI x.s) := hq1
  clear hb1 Z1 hq1
  cases q1 with
  | false =>
    have HF1 : Hid (¬ zeroP x) := fun hp => by have := HQ1.out.2 hp.1; cases this
    clear HQ1
    go_wp2_with fail
    go_ret
    exact Tells.no (P := zeroP x) HF1.out HB1.out
  | true =>
    have HT1 : Hid (zeroI x.s) := HQ1.out.1 rfl
    clear HQ1
    have c5 := HX1.out.2 5 _ rfl
    have c6 := HX1.out.2 6 _ rfl
    have c7 := HX1.out.2 7 _ rfl
    have c8 := HX1.out.2 8 _ rfl
    have c9 := HX1.out.2 9 _ rfl
    have Z2 := HZ2.out
    go_wp2_with fail
    refine (Z2 _ HB1.out).mono ?_
    rintro e w2 ⟨q2, rfl, hq2, hb2⟩
    have HX2 : Hid (Box w2 w.heap.size [.slice x.s.v.a x.s.v.len x.s.v.cap, .int .i64 x.s.t.t.k, .slice x.s.t.t.a x.s.t.t.len x.s.t.t.cap, .int .i64 x.s.t.t.n, .int .i64 x.s.t.t.s, .slice x.p.v.a x.p.v.len x.p.v.cap, .int .i64 x.p.t.t.k, .slice x.p.t.t.a x.p.t.t.len x.p.t.t.cap, .int .i64 x.p.t.t.n, .int .i64 x.p.t.t.s, .slice x.o.v.a x.o.v.len x.o.v.cap, .int .i64 x.o.t.t.k, .slice x.o.t.t.a x.o.t.t.len x.o.t.t.cap, .int .i64 x.o.t.t.n, .int .i64 x.o.t.t.s]) := HX1.out.below hb2
    have HB2 : Hid (Below w.heap.size w w2) := bl_trans HB1.out hb2
    have HQ2 : Hid (q2 = true ↔ zeroI x.p) := hq2
    clear hb2 Z2 hq2 c5 c6 c7 c8 c9
    cases q2 with
    | false =>
      have HF2 : Hid (¬ zeroP x) := fun hp => by have := HQ2.out.2 hp.2.1; cases this
      clear HQ2
      go_wp2_with fail
      go_ret
      exact Tells.no (P := zeroP x) HF2.out HB2.out
    | true =>
      have HT2 : Hid (zeroI x.p) := HQ2.out.1 rfl
      clear HQ2
      have c10 := HX2.out.2 10 _ rfl
      have c11 := HX2.out.2 11 _ rfl
      have c12 := HX2.out.2 12 _ rfl
      have c13 := HX2.out.2 13 _ rfl
      have c14 := HX2.out.2 14 _ rfl
      have Z3 := HZ3.out
      go_wp2_with fail
      refine (Z3 _ HB2.out).mono ?_
      rintro e w3 ⟨q3, rfl, hq3, hb3⟩
      have HB3 : Hid (Below w.heap.size w w3) := bl_trans HB2.out hb3
      have HQ3 : Hid (q3 = true ↔ zeroI x.o) := hq3
      clear hb3 Z3 hq3 c10 c11 c12 c13 c14
      go_wp2_with fail
      go_ret
      exact Tells.of (P := zeroP x) ⟨fun h => ⟨HT1.out, HT2.out, HQ3.out.1 h⟩, fun h => HQ3.out.2 h.2.2⟩ HB3.out
set_option maxHeartbeats 1000000 in
theorem l4item_any (x : IB) (m : Int) (w : World) (h : x.lies 0 w) : Calls Try.prog 74 #[.agg #[.slice x.v.a x.v.len x.v.cap, .int .i64 x.t.t.k, .slice x.t.t.a x.t.t.len x.t.t.cap, .int .i64 x.t.t.n, .int .i64 x.t.t.s], .int .i64 m] w (Tells (itOk x m) w) := by
  have HL : Hid (x.v.b = [] ↔ x.v.len = 0) := nil_len h.1.1.1
  have HZ : Hid (∀ W, Below w.heap.size w W → Calls Try.prog 73 #[.agg #[.int .i64 x.t.t.k, .slice x.t.t.a x.t.t.len x.t.t.cap, .int .i64 x.t.t.n, .int .i64 x.t.t.s]] W (Tells (zeroT x.t.td) W)) := fun W hb => l4zeroTerm_any x.t W (h.2.1.upper (Upper.of_below hb))
  have HV : Hid (∀ W, Below w.heap.size w W → Calls Try.prog 48 #[.slice x.v.a x.v.len x.v.cap] W (Tells (nameOk x.v.b = true) W)) := fun W hb => l4var_any x.v W (h.1.upper (Upper.of_below hb))
  have HT : Hid (∀ W, Below w.heap.size w W → Calls Try.prog 50 #[.agg #[.int .i64 x.t.t.k, .slice x.t.t.a x.t.t.len x.t.t.cap, .int .i64 x.t.t.n, .int .i64 x.t.t.s]] W (Tells (x.t.td.ok = true) W)) := fun W hb => (specTermOk_any x.t.t.k x.t.t.n x.t.t.s x.t.t.a x.t.t.len x.t.t.cap x.t.b W (h.2.1.upper (Upper.of_below hb)).1 h.2.2.1 h.2.2.2.1).mono fun e w' ⟨h1, o, h2⟩ => by
    subst h1 h2
    exact Tells.of Iff.rfl (bl_a _)
  clear h
  by_cases h0' : x.v.len = 0
  · have h0 : Hid (x.v.len = 0) := h0'
    have h0z : ¬ (0 : Int) < (x.v.len : Int) := by omega
    clear h0'
    have Z := HT.out
    go_enter Try.func74, Try.ntmps74
    go_wp2_with fail
    refine (Z _ (bl_a _)).mono ?_
    rintro e w1 ⟨q1, rfl, hq1, hb1⟩
    have HQ1 : Hid (q1 = true ↔ x.t.td.ok = true) := hq1
    have c1 : w1.cell? ⟨w.heap.size, 1, none⟩ = some (.int .i64 x.t.t.k) := ((Box.new w #[.slice x.v.a x.v.len x.v.cap, .int .i64 x.t.t.k, .slice x.t.t.a x.t.t.len x.t.t.cap, .int .i64 x.t.t.n, .int .i64 x.t.t.s] 57 _).below hb1).2 1 _ rfl
    have HB : Hid (Below w.heap.size w w1) := bl_trans (bl_a _) hb1
    clear Z hq1 hb1
    cases q1 with
    | false =>
      have HF : Hid (¬ itOk x m) := fun hp => by
        rcases hp with hp | hp
        · exact hp.1 (HL.out.2 h0.out)
        · have := HQ1.out.2 hp.2.1
          cases this
      clear HQ1
      go_wp2_with fail
      go_ret
      exact Tells.no HF.out HB.out
    | true =>
      have HE : Hid ((decide (x.t.t.k ≤ m)) = true ↔ itOk x m) := by
        show (_ ↔ _)
        rw [decide_eq_true_iff]
        exact ⟨fun h => .inr ⟨HL.out.2 h0.out, HQ1.out.1 rfl, h⟩, fun h => by
          rcases h with h | h
          · exact absurd (HL.out.2 h0.out) h.1
          · exact h.2.2⟩
      clear HQ1
      go_wp2_with fail
      go_ret
      exact Tells.of HE.out HB.out
  · have h0z : (0 : Int) < (x.v.len : Int) := by omega
    have h0 : Hid (¬ x.v.len = 0) := h0'
    clear h0'
    have Z := HV.out
    go_enter Try.func74, Try.ntmps74
    go_wp2_with fail
    refine (Z _ (bl_a _)).mono ?_
    rintro e w1 ⟨q1, rfl, hq1, hb1⟩
    have HQ1 : Hid (q1 = true ↔ nameOk x.v.b = true) := hq1
    have HX1 : Hid (Box w1 w.heap.size [.slice x.v.a x.v.len x.v.cap, .int .i64 x.t.t.k, .slice x.t.t.a x.t.t.len x.t.t.cap, .int .i64 x.t.t.n, .int .i64 x.t.t.s]) := (Box.new w #[.slice x.v.a x.v.len x.v.cap, .int .i64 x.t.t.k, .slice x.t.t.a x.t.t.len x.t.t.cap, .int .i64 x.t.t.n, .int .i64 x.t.t.s] 57 _).below hb1
    have HB : Hid (Below w.heap.size w w1) := bl_trans (bl_a _) hb1
    clear Z hq1 hb1
    cases q1 with
    | false =>
      have HF : Hid (¬ itOk x m) := fun hp => by
        rcases hp with hp | hp
        · have := HQ1.out.2 hp.2.1
          cases this
        · exact h0.out (HL.out.1 hp.1)
      clear HQ1
      go_wp2_with fail
      go_ret
      exact Tells.no HF.out HB.out
    | true =>
      have HT1 : Hid (nameOk x.v.b = true) := HQ1.out.1 rfl
      clear HQ1
      have c1 := HX1.out.2 1 _ rfl
      have c2 := HX1.out.2 2 _ rfl
      have c3 := HX1.out.2 3 _ rfl
      have c4 := HX1.out.2 4 _ rfl
      have Z := HZ.out
      go_wp2_with fail
      refine (Z _ HB.out).mono ?_
      rintro e w2 ⟨q2, rfl, hq2, hb2⟩
      have HE : Hid (q2 = true ↔ itOk x m) := (show (q2 = true ↔ itOk x m) from hq2.trans ⟨fun h => .inl ⟨fun e => h0.out (HL.out.1 e), HT1.out, h⟩, fun h => by
        rcases h with h | h
        · exact h.2.2
        · exact absurd (HL.out.1 h.1) h0.out⟩)
      have HB2 : Hid (Below w.heap.size w w2) := bl_trans HB.out hb2
      clear Z hq2 hb2 c1 c2 c3 c4
      go_wp2_with fail
      go_ret
      exact Tells.of HE.out HB2.out
set_option maxHeartbeats 1000000 in
theorem l4pat_any (x : PB) (w : World) (h : x.lies 0 w) : Calls Try.prog 49 #[.agg #[.slice x.s.v.a x.s.v.len x.s.v.cap, .int .i64 x.s.t.t.k, .slice x.s.t.t.a x.s.t.t.len x.s.t.t.cap, .int .i64 x.s.t.t.n, .int .i64 x.s.t.t.s, .slice x.p.v.a x.p.v.len x.p.v.cap, .int .i64 x.p.t.t.k, .slice x.p.t.t.a x.p.t.t.len x.p.t.t.cap, .int .i64 x.p.t.t.n, .int .i64 x.p.t.t.s, .slice x.o.v.a x.o.v.len x.o.v.cap, .int .i64 x.o.t.t.k, .slice x.o.t.t.a x.o.t.t.len x.o.t.t.cap, .int .i64 x.o.t.t.n, .int .i64 x.o.t.t.s]] w (Tells (ptOk x) w) := by
  have HZ1 : Hid (∀ W, Below w.heap.size w W → Calls Try.prog 74 #[.agg #[.slice x.s.v.a x.s.v.len x.s.v.cap, .int .i64 x.s.t.t.k, .slice x.s.t.t.a x.s.t.t.len x.s.t.t.cap, .int .i64 x.s.t.t.n, .int .i64 x.s.t.t.s], .int .i64 1] W (Tells (itOk x.s 1) W)) := fun W hb => l4item_any x.s 1 W (h.1.upper (Upper.of_below hb))
  have HZ2 : Hid (∀ W, Below w.heap.size w W → Calls Try.prog 74 #[.agg #[.slice x.p.v.a x.p.v.len x.p.v.cap, .int .i64 x.p.t.t.k, .slice x.p.t.t.a x.p.t.t.len x.p.t.t.cap, .int .i64 x.p.t.t.n, .int .i64 x.p.t.t.s], .int .i64 0] W (Tells (itOk x.p 0) W)) := fun W hb => l4item_any x.p 0 W (h.2.1.upper (Upper.of_below hb))
  have HZ3 : Hid (∀ W, Below w.heap.size w W → Calls Try.prog 74 #[.agg #[.slice x.o.v.a x.o.v.len x.o.v.cap, .int .i64 x.o.t.t.k, .slice x.o.t.t.a x.o.t.t.len x.o.t.t.cap, .int .i64 x.o.t.t.n, .int .i64 x.o.t.t.s], .int .i64 3] W (Tells (itOk x.o 3) W)) := fun W hb => l4item_any x.o 3 W (h.2.2.upper (Upper.of_below hb))
  clear h
  go_enter Try.func49, Try.ntmps49
  have Z1 := HZ1.out
  go_wp2_with fail
  refine (Z1 _ (bl_a _)).mono ?_
  rintro e w1 ⟨q1, rfl, hq1, hb1⟩
  have HX1 : Hid (Box w1 w.heap.size [.slice x.s.v.a x.s.v.len x.s.v.cap, .int .i64 x.s.t.t.k, .slice x.s.t.t.a x.s.t.t.len x.s.t.t.cap, .int .i64 x.s.t.t.n, .int .i64 x.s.t.t.s, .slice x.p.v.a x.p.v.len x.p.v.cap, .int .i64 x.p.t.t.k, .slice x.p.t.t.a x.p.t.t.len x.p.t.t.cap, .int .i64 x.p.t.t.n, .int .i64 x.p.t.t.s, .slice x.o.v.a x.o.v.len x.o.v.cap, .int .i64 x.o.t.t.k, .slice x.o.t.t.a x.o.t.t.len x.o.t.t.cap, .int .i64 x.o.t.t.n, .int .i64 x.o.t.t.s]) := (Box.new w #[.slice x.s.v.a x.s.v.len x.s.v.cap, .int .i64 x.s.t.t.k, .slice x.s.t.t.a x.s.t.t.len x.s.t.t.cap, .int .i64 x.s.t.t.n, .int .i64 x.s.t.t.s, .slice x.p.v.a x.p.v.len x.p.v.cap, .int .i64 x.p.t.t.k, .slice x.p.t.t.a x.p.t.t.len x.p.t.t.cap, .int .i64 x.p.t.t.n, .int .i64 x.p.t.t.s, .slice x.o.v.a x.o.v.len x.o.v.cap, .int .i64 x.o.t.t.k, .slice x.o.t.t.a x.o.t.t.len x.o.t.t.cap, .int .i64 x.o.t.t.n, .int .i64 x.o.t.t.s] 59 _).below hb1
  have HB1 : Hid (Below w.heap.size w w1) := bl_trans (bl_a _) hb1
  have HQ1 : Hid (q1 = true ↔ itOk x.s 1) := hq1
  clear hb1 Z1 hq1
  cases q1 with
  | false =>
    have HF1 : Hid (¬ ptOk x) := fun hp => by have := HQ1.out.2 hp.1; cases this
    clear HQ1
    go_wp2_with fail
    go_ret
    exact Tells.no (P := ptOk x) HF1.out HB1.out
  | true =>
    have HT1 : Hid (itOk x.s 1) := HQ1.out.1 rfl
    clear HQ1
    have c5 := HX1.out.2 5 _ rfl
    have c6 := HX1.out.2 6 _ rfl
    have c7 := HX1.out.2 7 _ rfl
    have c8 := HX1.out.2 8 _ rfl
    have c9 := HX1.out.2 9 _ rfl
    have Z2 := HZ2.out
    go_wp2_with fail
    refine (Z2 _ HB1.out).mono ?_
    rintro e w2 ⟨q2, rfl, hq2, hb2⟩
    have HX2 : Hid (Box w2 w.heap.size [.slice x.s.v.a x.s.v.len x.s.v.cap, .int .i64 x.s.t.t.k, .slice x.s.t.t.a x.s.t.t.len x.s.t.t.cap, .int .i64 x.s.t.t.n, .int .i64 x.s.t.t.s, .slice x.p.v.a x.p.v.len x.p.v.cap, .int .i64 x.p.t.t.k, .slice x.p.t.t.a x.p.t.t.len x.p.t.t.cap, .int .i64 x.p.t.t.n, .int .i64 x.p.t.t.s, .slice x.o.v.a x.o.v.len x.o.v.cap, .int .i64 x.o.t.t.k, .slice x.o.t.t.a x.o.t.t.len x.o.t.t.cap, .int .i64 x.o.t.t.n, .int .i64 x.o.t.t.s]) := HX1.out.below hb2
    have HB2 : Hid (Below w.heap.size w w2) := bl_trans HB1.out hb2
    have HQ2 : Hid (q2 = true ↔ itOk x.p 0) := hq2
    clear hb2 Z2 hq2 c5 c6 c7 c8 c9
    cases q2 with
    | false =>
      have HF2 : Hid (¬ ptOk x) := fun hp => by have := HQ2.out.2 hp.2.1; cases this
      clear HQ2
      go_wp2_with fail
      go_ret
      exact Tells.no (P := ptOk x) HF2.out HB2.out
    | true =>
      have HT2 : Hid (itOk x.p 0) := HQ2.out.1 rfl
      clear HQ2
      have c10 := HX2.out.2 10 _ rfl
      have c11 := HX2.out.2 11 _ rfl
      have c12 := HX2.out.2 12 _ rfl
      have c13 := HX2.out.2 13 _ rfl
      have c14 := HX2.out.2 14 _ rfl
      have Z3 := HZ3.out
      go_wp2_with fail
      refine (Z3 _ HB2.out).mono ?_
      rintro e w3 ⟨q3, rfl, hq3, hb3⟩
      have HB3 : Hid (Below w.heap.size w w3) := bl_trans HB2.out hb3
      have HQ3 : Hid (q3 = true ↔ itOk x.o 3) := hq3
      clear hb3 Z3 hq3 c10 c11 c12 c13 c14
      go_wp2_with fail
      go_ret
      exact Tells.of (P := ptOk x) ⟨fun h => ⟨HT1.out, HT2.out, HQ3.out.1 h⟩, fun h => HQ3.out.2 h.2.2⟩ HB3.out
def kidsN (k : Int) (n : Nat) : Int := if k = 0 ∨ k = 1 ∨ k = 4 then 0 else if k = 3 ∨ k = 7 then 1 else if k = 2 then 2 else if k = 5 then 3 else if k = 6 ∧ 1 ≤ n ∧ n ≤ 4 then n else -1
theorem kidsN_ok (k : Int) (n : Nat) : kidsN k n = n ↔ kOk k n := by
  unfold kidsN kOk
  repeat' split
  all_goals omega
theorem l4kids_any (d : EN) (w : World) : Calls Try.prog 70 #[.agg #[.int .i64 d.k, .int .i64 d.op, .slice d.v.a d.v.len d.v.cap, .int .i64 d.t.t.k, .slice d.t.t.a d.t.t.len d.t.t.cap, .int .i64 d.t.t.n, .int .i64 d.t.t.s, .slice d.ka d.n d.kc]] w fun e w' => e = .returned (.int .i64 (kidsN d.k d.n)) ∧ ∃ o, w' = w.alloc o := by
  go_enter Try.func70, Try.ntmps70
  go_wp2
  all_goals go_ret
  all_goals refine ⟨?_, _, rfl⟩
  all_goals (unfold kidsN; simp_all <;> omega)

theorem l4zeroExpr_any (e : ET) (w : World) (h : e.lies 0 w) : Calls Try.prog 47 #[.agg #[.int .i64 e.d.k, .int .i64 e.d.op, .slice e.d.v.a e.d.v.len e.d.v.cap, .int .i64 e.d.t.t.k, .slice e.d.t.t.a e.d.t.t.len e.d.t.t.cap, .int .i64 e.d.t.t.n, .int .i64 e.d.t.t.s, .slice e.d.ka e.d.n e.d.kc]] w (Tells (zeroE e) w) := by
  cases e with
  | nil => exact False.elim h
  | mk d kid =>
  obtain ⟨hv, ht, _⟩ := h
  show Calls Try.prog 47 #[.agg #[.int .i64 d.k, .int .i64 d.op, .slice d.v.a d.v.len d.v.cap, .int .i64 d.t.t.k, .slice d.t.t.a d.t.t.len d.t.t.cap, .int .i64 d.t.t.n, .int .i64 d.t.t.s, .slice d.ka d.n d.kc]] w (Tells (d.k = 0 ∧ d.op = 0 ∧ d.v.b = [] ∧ zeroT d.t.td ∧ d.n = 0) w)
  have HL : Hid (d.v.b = [] ↔ d.v.len = 0) := nil_len hv.1.1
  have HZ : Hid (∀ W, Below w.heap.size w W → Calls Try.prog 73 #[.agg #[.int .i64 d.t.t.k, .slice d.t.t.a d.t.t.len d.t.t.cap, .int .i64 d.t.t.n, .int .i64 d.t.t.s]] W (Tells (zeroT d.t.td) W)) := fun W hb => l4zeroTerm_any d.t W (ht.upper (Upper.of_below hb))
  obtain ⟨P, hP⟩ : ∃ P, P = (d.k = 0 ∧ d.op = 0 ∧ d.v.b = [] ∧ zeroT d.t.td ∧ d.n = 0) := ⟨_, rfl⟩
  have HP : Hid (P ↔ (d.k = 0 ∧ d.op = 0 ∧ d.v.b = [] ∧ zeroT d.t.td ∧ d.n = 0)) := (show (P ↔ _) by rw [hP])
  rw [← hP]
  clear hv ht hP
  by_cases h0 : d.k = 0
  rotate_left
  · go_enter Try.func47, Try.ntmps47
    go_wp2
    go_ret
    exact Tells.no (fun hp => h0 (HP.out.1 hp).1) (bl_a _)
  by_cases h1 : d.op = 0
  rotate_left
  · go_enter Try.func47, Try.ntmps47
    go_wp2
    go_ret
    exact Tells.no (fun hp => h1 (HP.out.1 hp).2.1) (bl_a _)
  by_cases h2 : d.v.len = 0
  rotate_left
  · go_enter Try.func47, Try.ntmps47
    go_wp2
    go_ret
    exact Tells.no (fun hp => h2 (HL.out.1 (HP.out.1 hp).2.2.1)) (bl_a _)
  have H3 : Hid (d.k = 0 ∧ d.op = 0 ∧ d.v.b = []) := ⟨h0, h1, HL.out.2 h2⟩
  have Z := HZ.out
  go_enter Try.func47, Try.ntmps47
  go_wp2_with fail
  refine (Z _ (bl_a _)).mono ?_
  rintro e w1 ⟨q1, rfl, hq1, hb1⟩
  have HQ : Hid (q1 = true ↔ zeroT d.t.td) := hq1
  have HX : w1.cell? ⟨w.heap.size, 7, none⟩ = some (.slice d.ka d.n d.kc) := (hb1.cell (p := ⟨w.heap.size, 7, none⟩) (by simp)).trans (by simp [go_sem])
  have HB : Hid (Below w.heap.size w w1) := bl_trans (bl_a _) hb1
  clear Z hq1 hb1
  cases q1 with
  | false =>
    have HF : Hid (¬ P) := fun hp => by have := HQ.out.2 (HP.out.1 hp).2.2.2.1; cases this
    clear HQ
    go_wp2_with fail
    go_ret
    exact Tells.no HF.out HB.out
  | true =>
    by_cases h5 : d.n = 0
    · have HY : Hid P := HP.out.2 ⟨H3.out.1, H3.out.2.1, H3.out.2.2, HQ.out.1 rfl, h5⟩
      go_wp2_with fail
      go_ret
      exact Tells.yes HY.out HB.out
    · have h5' : ((d.n : Int) == 0) = false := by simp; omega
      have HF : Hid (¬ P) := fun hp => h5 (HP.out.1 hp).2.2.2.2
      clear HQ
      go_wp2_with fail
      go_ret
      exact Tells.no HF.out HB.out
end Go.Proofs.Ytpgbhkkdbkecoaa
