/- Texts put together: CalE Hdn TvA TvB -/
import Derived.Test.YtidhcbjhggdncaaMk04
import Derived.Test.YtidhcbjhggdncaaMk02
import Derived.Deep.CutRange
import Derived.Below
import Derived.Test.YtidhcbjhggdncaaMk03
/- CalE -/
namespace Go.Proofs.Ytidhcbjhggdncaa
open Go.RowKit Go.Deep

theorem Own2.set {w : World} {g : Nat} {u0 u1 : Value} (h : Own2 w g u0 u1) (a b : Value) : Own2 ((w.setCell ⟨g, 0, none⟩ a).setCell ⟨g, 1, none⟩ b) g a b := by
  obtain ⟨hl, h0, h1, f0, f1⟩ := h
  refine ⟨by simpa using hl, ?_, ?_, ?_, ?_⟩ <;> simp [go_sem, h0, h1, f0, f1]
theorem KS_of {w w' : World} {b1 b2 : Nat} {v0 v1 v2 v3 u0 u1 u2 u3 : Value} (hA : At4 w b1 v0 v1 v2 v3) (hX : At4 w b2 u0 u1 u2 u3) (hb : Below w.heap.size w w') :
    w'.cell? ⟨b1, 0, none⟩ = some v0 ∧ w'.cell? ⟨b1, 1, none⟩ = some v1 ∧ w'.cell? ⟨b1, 2, none⟩ = some v2 ∧ w'.cell? ⟨b1, 3, none⟩ = some v3 ∧ w'.cell? ⟨b2, 0, none⟩ = some u0 ∧ w'.cell? ⟨b2, 1, none⟩ = some u1 ∧ w'.cell? ⟨b2, 2, none⟩ = some u2 ∧ w'.cell? ⟨b2, 3, none⟩ = some u3 := by
  obtain ⟨_, h0, h1, h2, h3⟩ := hA.below hb
  obtain ⟨_, k0, k1, k2, k3⟩ := hX.below hb
  exact ⟨h0, h1, h2, h3, k0, k1, k2, k3⟩
set_option maxHeartbeats 1000000 in
theorem implCalc_any (op k n s k' n' s' : Int) (a a' : Option Addr) (len cap len' cap' : Nat) (bs bs' : List Int) (w : World)
    (hB : Bs w a len bs) (hB' : Bs w a' len' bs') (h1 : -9223372036854775808 ≤ n) (h2 : n ≤ 9223372036854775807) (h3 : -9223372036854775808 ≤ s) (h4 : s ≤ 9223372036854775807) (h1' : -9223372036854775808 ≤ n') (h2' : n' ≤ 9223372036854775807) (h3' : -9223372036854775808 ≤ s') (h4' : s' ≤ 9223372036854775807) :
    Calls Try.prog 72 #[.int .i64 op, .agg #[.int .i64 k, .slice a len cap, .int .i64 n, .int .i64 s], .agg #[.int .i64 k', .slice a' len' cap', .int .i64 n', .int .i64 s']] w fun e w' =>
      e = .returned (resV (calcQ op k bs n s k' bs' n' s')) ∧ Below w.heap.size w w' := by
  have I1 := fun w hB => isNumber_any k n s a len cap bs w hB h1 h2 h3 h4
  have I2 := fun w hB => isNumber_any k' n' s' a' len' cap' bs' w hB h1' h2' h3' h4'
  by_cases e1 : isNum k bs n s = true
  · by_cases e2 : isNum k' bs' n' s' = true
    · obtain ⟨rfl, _, b1, b2, b3, b4⟩ := isNum_bounds e1
      obtain ⟨rfl, _, b1', b2', b3', b4'⟩ := isNum_bounds e2
      obtain ⟨t, rfl⟩ : ∃ t : Nat, s = t := ⟨s.toNat, by omega⟩
      obtain ⟨t', rfl⟩ : ∃ t : Nat, s' = t := ⟨s'.toNat, by omega⟩
      have ec : Hid (calcQ op 3 bs n t 3 bs' n' t' = calcP op n t n' t') := by
        show _ = _
        simp [calcQ, e1, e2]
      simp only [e1, e2] at I1 I2
      have Ca := fun w => calc_any op n n' t t' w b3 b4 b3' b4' (by omega) (by omega)
      go_enter Try.func72, Try.ntmps72
      go_wp2_with fail
      refine (I1 _ (hB.below (bl_alloc (bl_alloc (bl_a _) _) _))).mono ?_
      rintro e w1 ⟨rfl, hb1⟩
      have hA1 := (At4.new w _ _ _ _ _).below (bl_trans (bl_alloc (bl_a _) _) hb1)
      have hX1 := (At4.at (w.alloc _) (w.heap.size + 1) _ _ _ _ _ (by simp)).below (bl_trans (bl_a _) hb1)
      have hR1 := (Own4.at ((w.alloc _).alloc _) (w.heap.size + 1 + 1) _ _ _ _ _ (by simp)).below hb1
      have hw1 := bl_trans (bl_alloc (bl_alloc (bl_a _) _) _) hb1
      clear hb1
      obtain ⟨x0, x1, x2, x3, x4⟩ := id hX1
      go_wp2_with fail
      refine (I2 _ (hB'.below hw1)).mono ?_
      rintro e w2 ⟨rfl, hb2⟩
      have hA2 := hA1.below hb2
      have hX2 := hX1.below hb2
      have hR2 := hR1.below hb2
      have hw2 := bl_trans hw1 hb2
      clear hb2 hA1 hX1 hR1 hw1 x0 x1 x2 x3 x4 I1 I2
      obtain ⟨y0, y1, y2, y3, y4⟩ := id hA2
      obtain ⟨x0, x1, x2, x3, x4⟩ := id hX2
      go_wp2_with fail
      go_cut [8, 9] from 10 to 34 (fun s8 s9 wx => ∃ (N S : Int) (fits : Bool) (g : Nat), s8 = .pointer (some ⟨g, 0, none⟩) ∧ s9 = .bool fits ∧ (fits = true → ∃ t1 : Nat, S = t1 ∧ t1 ≤ 12 ∧ -9223372036854775808 ≤ N ∧ N ≤ 9223372036854775807 ∧ calcP op n t n' t' = norm t1 N) ∧ (fits = false → calcP op n t n' t' = (0, 7)) ∧ Below w2.heap.size w2 wx ∧ Own2 wx g (.int .i64 N) (.int .i64 S) ∧ w2.heap.size ≤ g)
      case first =>
        go_region_held3 (fun w' => w'.cell? ⟨w.heap.size, 0, none⟩ = some (.int .i64 3) ∧ w'.cell? ⟨w.heap.size, 1, none⟩ = some (.slice a len cap) ∧ w'.cell? ⟨w.heap.size, 2, none⟩ = some (.int .i64 n) ∧ w'.cell? ⟨w.heap.size, 3, none⟩ = some (.int .i64 t) ∧ w'.cell? ⟨w.heap.size + 1, 0, none⟩ = some (.int .i64 3) ∧ w'.cell? ⟨w.heap.size + 1, 1, none⟩ = some (.slice a' len' cap') ∧ w'.cell? ⟨w.heap.size + 1, 2, none⟩ = some (.int .i64 n') ∧ w'.cell? ⟨w.heap.size + 1, 3, none⟩ = some (.int .i64 t')) ((refine KS_of hA2 hX2 ?_; (repeat (first | with_reducible assumption | with_reducible exact Below.refl _ _ | with_reducible apply bl_alloc | with_reducible apply Below.drew | with_reducible apply below_drewN | with_reducible refine bl_set ?_ (by dsimp only; omega) _))))
          (first
            | (go_at_call 69; refine (decimal_any _ _ _ _ _ _ _).mono ?_; rintro e w4 ⟨rfl, o1, o2, rfl⟩)
            | (go_at_call 78; refine (Ca _).mono ?_; rintro e w3 ⟨hC, hb3⟩; obtain ⟨N, S, fits, he, hT, hF⟩ := hC; subst he; have hall := fun (b i : Nat) h => hb3.cell (p := ⟨b, i, none⟩) h; have hallf := fun (b i : Nat) h => hb3.frozen (p := ⟨b, i, none⟩) h; have hd3 : Below w2.heap.size w2 w3 := bl_trans (by (repeat (first | with_reducible assumption | with_reducible exact Below.refl _ _ | with_reducible apply bl_alloc | with_reducible apply Below.drew | with_reducible apply below_drewN | with_reducible refine bl_set ?_ (by dsimp only; omega) _))) hb3; have hs3 := hd3.size))
        all_goals
          go_wp2_with fail
          go_meet
        · exact ⟨N, S, fits, _, rfl, rfl, hT, hF, bl_alloc hd3 _, Own2.at w3 _ _ _ _ rfl, hs3⟩
        · exact ⟨N, S, fits, _, rfl, rfl, hT, hF, bl_set (bl_set hd3 (by dsimp only; omega) _) (by dsimp only; omega) _, Own2.set (Own2.below (v0 := .int .i64 0) (v1 := .int .i64 0) (by refine ⟨?_, ?_, ?_, ?_, ?_⟩ <;> simp [go_sem]) hb3) _ _, by omega⟩
        · exact ⟨N, S, fits, _, rfl, rfl, hT, hF, bl_set (bl_set hd3 (by dsimp only; omega) _) (by dsimp only; omega) _, Own2.set (Own2.below (v0 := .int .i64 0) (v1 := .int .i64 0) (by refine ⟨?_, ?_, ?_, ?_, ?_⟩ <;> simp [go_sem] <;> omega) hb3) _ _, by omega⟩
        · exact ⟨N, S, fits, _, rfl, rfl, hT, hF, bl_set (bl_set hd3 (by dsimp only; omega) _) (by dsimp only; omega) _, Own2.set (Own2.below (v0 := .int .i64 0) (v1 := .int .i64 0) (by refine ⟨?_, ?_, ?_, ?_, ?_⟩ <;> simp [go_sem] <;> omega) hb3) _ _, by omega⟩
      case rest =>
        obtain ⟨N, S, fits, g, rfl, rfl, hT, hF, hd3, hO, hgl⟩ := hcut
        have hR3 := hR2.below hd3
        have hw3 := bl_trans hw2 hd3
        have lt2 := hR2.1.1
        obtain ⟨g0, g1, g2, g3, g4⟩ := id hO
        cases fits
        · have ef := hF rfl
          have EF : Hid (resV (calcQ op 3 bs n t 3 bs' n' t') = .tuple #[.agg #[.int .i64 0, .slice none 0 0, .int .i64 0, .int .i64 0], .bool false]) := by
            show _ = _
            rw [ec.out, ef, resV_none]
          obtain ⟨⟨r0, r1, r2, r3, r4⟩, f0, f1, f2, f3⟩ := id hR3
          clear Ca hA2 hX2 hB hB' y0 y1 y2 y3 y4 x0 x1 x2 x3 x4 hT hF ef
          go_wp2
          refine bodyPost_ret (v := .tuple #[.agg #[.int .i64 0, .slice none 0 0, .int .i64 0, .int .i64 0], .bool false]) (by simp [results, Try.results72, go_sem, *]) rfl ⟨by rw [EF.out], ?_⟩
          repeat (first | with_reducible exact hw3 | with_reducible refine bl_set ?_ (by dsimp only; omega) _)
        · obtain ⟨m, rfl, hm, n1, n2, ep⟩ := hT rfl
          have EF : Hid (resV (calcQ op 3 bs n t 3 bs' n' t') = .tuple #[.agg #[.int .i64 (tK (norm m N)), .slice none 0 0, .int .i64 (tN (norm m N)), .int .i64 (tS (norm m N))], .bool (numOk (norm m N).1 (norm m N).2)]) := by
            show _ = _
            rw [ec.out, ep]
            rfl
          have Te := fun w => term_any N m w n1 n2 hm
          generalize tK (norm m N) = z1 at *
          generalize tN (norm m N) = z2 at *
          generalize tS (norm m N) = z3 at *
          generalize numOk (norm m N).1 (norm m N).2 = z4 at *
          clear Ca hA2 hX2 hB hB' y0 y1 y2 y3 y4 x0 x1 x2 x3 x4 hT hF ep
          go_wp2_with fail
          refine (Te _).mono ?_
          rintro e w6 ⟨rfl, o1, o2, o3, o4, o5, rfl⟩
          have hb6 : Below wc.heap.size wc (((((wc.alloc o1).alloc o2).alloc o3).alloc o4).alloc o5) := bl_alloc (bl_alloc (bl_alloc (bl_alloc (bl_a _) _) _) _) _
          have hR6 := hR3.below hb6
          have hw6 := bl_trans hw3 hb6
          generalize ((((wc.alloc o1).alloc o2).alloc o3).alloc o4).alloc o5 = w6 at hR6 hw6 ⊢
          obtain ⟨⟨r0, r1, r2, r3, r4⟩, f0, f1, f2, f3⟩ := id hR6
          clear hb6 Te g0 g1 g2 g3 g4
          go_wp2
          refine bodyPost_ret (v := .tuple #[.agg #[.int .i64 z1, .slice none 0 0, .int .i64 z2, .int .i64 z3], .bool z4]) (by simp [results, Try.results72, go_sem, *]) rfl ⟨by rw [EF.out], ?_⟩
          repeat (first | with_reducible exact hw6 | with_reducible refine bl_set ?_ (by dsimp only; omega) _)
    · have e2' : isNum k' bs' n' s' = false := by simpa using e2
      have ec : calcQ op k bs n s k' bs' n' s' = (0, 7) := by simp [calcQ, e2']
      rw [ec, resV_none]
      simp only [e1, e2'] at I1 I2
      clear ec e2
      go_enter Try.func72, Try.ntmps72
      go_wp2_with fail
      refine (I1 _ (hB.below (bl_alloc (bl_alloc (bl_a _) _) _))).mono ?_
      rintro e w1 ⟨rfl, hb1⟩
      have hX1 := (At4.at (w.alloc _) (w.heap.size + 1) _ _ _ _ _ (by simp)).below (bl_trans (bl_a _) hb1)
      have hR1 := (Own4.at ((w.alloc _).alloc _) (w.heap.size + 1 + 1) _ _ _ _ _ (by simp)).below hb1
      have hw1 := bl_trans (bl_alloc (bl_alloc (bl_a _) _) _) hb1
      clear hb1
      obtain ⟨x0, x1, x2, x3, x4⟩ := id hX1
      go_wp2_with fail
      refine (I2 _ (hB'.below hw1)).mono ?_
      rintro e w2 ⟨rfl, hb2⟩
      have hR2 := hR1.below hb2
      have hw2 := bl_trans hw1 hb2
      clear hb2 hX1 hR1 hw1 x0 x1 x2 x3 x4 I1 I2
      obtain ⟨⟨r0, r1, r2, r3, r4⟩, f0, f1, f2, f3⟩ := id hR2
      go_wp2
      refine bodyPost_ret (v := .tuple #[.agg #[.int .i64 0, .slice none 0 0, .int .i64 0, .int .i64 0], .bool false]) (by simp [results, Try.results72, go_sem, *]) rfl ⟨rfl, ?_⟩
      repeat (first | with_reducible exact hw2 | with_reducible refine bl_set ?_ (by dsimp only; omega) _)
  · have e1' : isNum k bs n s = false := by simpa using e1
    have ec : calcQ op k bs n s k' bs' n' s' = (0, 7) := by simp [calcQ, e1']
    rw [ec, resV_none]
    simp only [e1'] at I1
    clear ec e1
    · skip
      go_enter Try.func72, Try.ntmps72
      go_wp2_with fail
      refine (I1 _ (hB.below (bl_alloc (bl_alloc (bl_a _) _) _))).mono ?_
      rintro e w1 ⟨rfl, hb1⟩
      have hX1 := (At4.at (w.alloc _) (w.heap.size + 1) _ _ _ _ _ (by simp)).below (bl_trans (bl_a _) hb1)
      have hR1 := (Own4.at ((w.alloc _).alloc _) (w.heap.size + 1 + 1) _ _ _ _ _ (by simp)).below hb1
      have hw1 := bl_trans (bl_alloc (bl_alloc (bl_a _) _) _) hb1
      clear hb1
      obtain ⟨x0, x1, x2, x3, x4⟩ := id hX1
      clear I1 I2
      obtain ⟨⟨r0, r1, r2, r3, r4⟩, f0, f1, f2, f3⟩ := id hR1
      go_wp2
      refine bodyPost_ret (v := .tuple #[.agg #[.int .i64 0, .slice none 0 0, .int .i64 0, .int .i64 0], .bool false]) (by simp [results, Try.results72, go_sem, *]) rfl ⟨rfl, ?_⟩
      repeat (first | with_reducible exact hw1 | with_reducible refine bl_set ?_ (by dsimp only; omega) _)
end Go.Proofs.Ytidhcbjhggdncaa

/- Hdn -/
namespace Go.Proofs.Ytidhcbjhggdncaa
open Go.RowKit
theorem hid {p : Prop} (h : p) : Hid p := h
end Go.Proofs.Ytidhcbjhggdncaa

/- TvA -/
namespace Go.Proofs.Ytidhcbjhggdncaa
open Go.RowKit Go.Deep
set_option maxRecDepth 100000

/-- The zero term. -/
def zT : TD := ⟨0, [], 0, 0⟩
/-- No, nothing, yes: 0, 1, 2. -/
def truT (d : TD) : Int := if d.k = 3 then (if d.n = 0 then 0 else 2) else if d.k = 2 then (if d.bs.length = 0 then 0 else 2) else 1
def tru : Option TD → Int
  | none => 1
  | some d => truT d
def ansB (b : Bool) : Int := if b then 2 else 0
def ans (t : Int) : Option TD := if t = 2 then some ⟨3, [], 1, 0⟩ else if t = 0 then some ⟨3, [], 0, 0⟩ else none
def calcT (p : Int × Int) : Option TD := if numOk p.1 p.2 then some ⟨tK p, [], tN p, tS p⟩ else none
def lessV (x y : TD) : Option TD := if x.k = y.k ∧ (x.k = 3 ∨ x.k = 2) then ans (ansB (decide (x.cT y < 0))) else none
def twoV (op : Int) (x y : TD) : Option TD := if op ≤ 3 then calcT (calcQ op x.k x.bs x.n x.s y.k y.bs y.n y.s) else if op = 4 then lessV x y else ans (ansB (decide (x.cT y = 0)))
def opV (op : Int) (a b : Option TD) : Option TD := if op = 6 then ans (min (tru a) (tru b)) else if op = 7 then ans (max (tru a) (tru b)) else a.bind fun x => b.bind fun y => twoV op x y
def firstV : Nat → (Nat → Option TD) → Option TD
  | 0, _ => none
  | n + 1, f => (firstV n f).or (f n)
def lenV (o : Option TD) : Option TD := o.bind fun t => if t.k = 2 then some ⟨3, [], t.bs.length, 0⟩ else none
def ifV (c : Int) (a b : Option TD) : Option TD := if c = 2 then a else if c = 0 then b else none
/-- The value of an expression, where C says what a variable is. -/
def val (C : List Int → Option TD) : ET → Option TD
  | .nil => none
  | .mk d kid =>
    if d.k = 0 then C d.v.b
    else if d.k = 1 then some d.t.td
    else if d.k = 3 then ans (2 - tru (val C (kid 0)))
    else if d.k = 4 then ans (ansB (C d.v.b).isSome)
    else if d.k = 5 then ifV (tru (val C (kid 0))) (val C (kid 1)) (val C (kid 2))
    else if d.k = 6 then firstV d.n (fun i => val C (kid i))
    else if d.k = 7 then lenV (val C (kid 0))
    else opV d.op (val C (kid 0)) (val C (kid 1))
theorem tru_range (o : Option TD) : tru o = 0 ∨ tru o = 1 ∨ tru o = 2 := by
  cases o with
  | none => exact .inr (.inl rfl)
  | some d =>
    show truT d = 0 ∨ truT d = 1 ∨ truT d = 2
    unfold truT
    split
    · split <;> simp
    · split
      · split <;> simp
      · simp
/-- A term that a value is: its text lies where it lay ahead of the call. -/
structure VT (w0 : World) (o : Option TD) (t : TB) : Prop where
  bs : BsF 0 w0 t.sl
  ft : t.t.fits
  td : t.td = o.getD zT
/-- What a function answers that gives a value, or none. -/
def ValR (w0 : World) (o : Option TD) (w : World) (e : Ending) (w' : World) : Prop := ∃ t : TB, e = .returned (.tuple #[.agg #[.int .i64 t.t.k, .slice t.t.a t.t.len t.t.cap, .int .i64 t.t.n, .int .i64 t.t.s], .bool o.isSome]) ∧ VT w0 o t ∧ Below w.heap.size w w'
/-- A term without a text. -/
def tB0 (k n s : Int) : TB := ⟨⟨k, none, 0, 0, n, s⟩, []⟩
theorem VT.of {w0 : World} {o : Option TD} {k n s : Int} (h : ⟨k, [], n, s⟩ = o.getD zT) (h1 : -9223372036854775808 ≤ n) (h2 : n ≤ 9223372036854775807) (h3 : -9223372036854775808 ≤ s) (h4 : s ≤ 9223372036854775807) : VT w0 o (tB0 k n s) :=
  ⟨⟨⟨rfl, Nat.zero_le _, by simp [tB0, TB.sl], .inl rfl⟩, .inl rfl⟩, ⟨h1, h2, h3, h4⟩, h⟩
theorem VT.no {w0 : World} : VT w0 none (tB0 0 0 0) := VT.of rfl (by decide) (by decide) (by decide) (by decide)
theorem opposite_any (t : Int) (w : World) (h : t = 0 ∨ t = 1 ∨ t = 2) : Calls Try.prog 32 #[.int .i64 t] w fun e w' => e = .returned (.int .i64 (2 - t)) ∧ w' = w := by
  have h1 : -9223372036854775808 ≤ 2 - t := by omega
  have h2 : 2 - t ≤ 9223372036854775807 := by omega
  go_in
  go_wp2
  go_ret
  exact ⟨by go_num, rfl⟩
theorem answer_any (b : Bool) (w : World) : Calls Try.prog 34 #[.bool b] w fun e w' => e = .returned (.int .i64 (ansB b)) ∧ w' = w := by
  cases b with
  | true =>
    go_in
    go_wp2
    go_ret
    exact ⟨rfl, rfl⟩
  | false =>
    go_in
    go_wp2
    go_ret
    exact ⟨rfl, rfl⟩
theorem truthTerm_any (t : Int) (w0 w : World) (h : t = 0 ∨ t = 1 ∨ t = 2) : Calls Try.prog 33 #[.int .i64 t] w (ValR w0 (ans t) w) := by
  rcases h with rfl | rfl | rfl
  · go_in
    go_wp2
    simp [bodyPost, results, Try.results33, go_sem]
    exact ⟨tB0 3 0 0, rfl, VT.of rfl (by decide) (by decide) (by decide) (by decide), bl_a _⟩
  · go_in
    go_wp2
    simp [bodyPost, results, Try.results33, go_sem]
    exact ⟨tB0 0 0 0, rfl, VT.no, bl_a _⟩
  · go_in
    go_wp2
    simp [bodyPost, results, Try.results33, go_sem]
    exact ⟨tB0 3 1 0, rfl, VT.of rfl (by decide) (by decide) (by decide) (by decide), bl_a _⟩
end Go.Proofs.Ytidhcbjhggdncaa

/- TvB -/
namespace Go.Proofs.Ytidhcbjhggdncaa
open Go.RowKit Go.Deep
set_option maxRecDepth 100000

set_option maxHeartbeats 1000000 in
theorem truthOf_any (t : TB) (w : World) (hl : t.b.length = t.t.len) : Calls Try.prog 58 #[.agg #[.int .i64 t.t.k, .slice t.t.a t.t.len t.t.cap, .int .i64 t.t.n, .int .i64 t.t.s]] w fun e w' => e = .returned (.int .i64 (truT t.td)) ∧ Below w.heap.size w w' := by
  by_cases k3 : t.t.k = 3
  · by_cases n0 : t.t.n = 0
    · have E : Hid (truT t.td = ansB false) := (show (if t.t.k = 3 then (if t.t.n = 0 then (0 : Int) else 2) else _) = _ by rw [if_pos k3, if_pos n0]; rfl)
      have A := answer_any false
      have z3 : (t.t.k == 3) = true := by simp [k3]
      have zn : (t.t.n != 0) = false := by simp [n0]
      clear k3 n0
      go_in
      go_wp2_with fail
      refine (A _).mono ?_
      rintro e w1 ⟨rfl, rfl⟩
      go_wp2
      go_ret
      exact ⟨congrArg (fun z => Ending.returned (Value.int .i64 z)) E.out.symm, bl_a _⟩
    · have E : Hid (truT t.td = ansB true) := (show (if t.t.k = 3 then (if t.t.n = 0 then (0 : Int) else 2) else _) = _ by rw [if_pos k3, if_neg n0]; rfl)
      have A := answer_any true
      have z3 : (t.t.k == 3) = true := by simp [k3]
      have zn : (t.t.n != 0) = true := by simp [n0]
      clear k3 n0
      go_in
      go_wp2_with fail
      refine (A _).mono ?_
      rintro e w1 ⟨rfl, rfl⟩
      go_wp2
      go_ret
      exact ⟨congrArg (fun z => Ending.returned (Value.int .i64 z)) E.out.symm, bl_a _⟩
  by_cases k2 : t.t.k = 2
  · have E : Hid (truT t.td = ansB (decide (0 < t.t.len))) := (show (if t.t.k = 3 then _ else if t.t.k = 2 then (if t.b.length = 0 then (0 : Int) else 2) else _) = _ by
      rw [if_neg k3, if_pos k2, hl]
      by_cases h : t.t.len = 0
      · rw [if_pos h, h]; rfl
      · rw [if_neg h, decide_eq_true (by omega)]; rfl)
    have A := answer_any (decide (0 < t.t.len))
    have z3 : (t.t.k == 3) = false := by simp [k3]
    have z2 : (t.t.k == 2) = true := by simp [k2]
    clear k3 k2 hl
    go_in
    go_wp2_with fail
    refine (A _).mono ?_
    rintro e w1 ⟨rfl, rfl⟩
    go_wp2
    go_ret
    exact ⟨congrArg (fun z => Ending.returned (Value.int .i64 z)) E.out.symm, bl_a _⟩
  · have E : Hid (truT t.td = 1) := (show (if t.t.k = 3 then _ else if t.t.k = 2 then _ else (1 : Int)) = _ by rw [if_neg k3, if_neg k2])
    have z3 : (t.t.k == 3) = false := by simp [k3]
    have z2 : (t.t.k == 2) = false := by simp [k2]
    clear k3 k2 hl
    go_in
    go_wp2
    go_ret
    exact ⟨congrArg (fun z => Ending.returned (Value.int .i64 z)) E.out.symm, bl_a _⟩
theorem implCompare_td (x y : TB) (w : World) (hx : BsF 0 w x.sl) (hy : BsF 0 w y.sl) (fx : x.t.fits) (fy : y.t.fits) : Calls Try.prog 80 #[.agg #[.int .i64 x.t.k, .slice x.t.a x.t.len x.t.cap, .int .i64 x.t.n, .int .i64 x.t.s], .agg #[.int .i64 y.t.k, .slice y.t.a y.t.len y.t.cap, .int .i64 y.t.n, .int .i64 y.t.s]] w fun e w' => e = .returned (.int .i64 (x.td.cT y.td)) ∧ Below w.heap.size w w' :=
  implCompare_any x.t.k x.t.n x.t.s y.t.k y.t.n y.t.s x.t.a y.t.a x.t.len x.t.cap y.t.len y.t.cap x.b y.b w hx.1 hy.1 fx.1 fx.2.1 fx.2.2.1 fx.2.2.2 fy.1 fy.2.1 fy.2.2.1 fy.2.2.2
set_option maxHeartbeats 1000000 in
theorem isSame_td (x y : TB) (w : World) (hx : BsF 0 w x.sl) (hy : BsF 0 w y.sl) (fx : x.t.fits) (fy : y.t.fits) : Calls Try.prog 74 #[.agg #[.int .i64 x.t.k, .slice x.t.a x.t.len x.t.cap, .int .i64 x.t.n, .int .i64 x.t.s], .agg #[.int .i64 y.t.k, .slice y.t.a y.t.len y.t.cap, .int .i64 y.t.n, .int .i64 y.t.s]] w fun e w' => e = .returned (.bool (decide (x.td.cT y.td = 0))) ∧ Below w.heap.size w w' := by
  have C := fun o1 o2 => implCompare_td x y ((w.alloc o1).alloc o2) (hx.upper (Upper.of_below (bl_alloc (bl_a o1) o2))) (hy.upper (Upper.of_below (bl_alloc (bl_a o1) o2))) fx fy
  clear hx hy fx fy
  generalize x.td.cT y.td = r at *
  go_in
  go_wp2_with fail
  refine (C _ _).mono ?_
  rintro e w1 ⟨rfl, G⟩
  have HG := hid (bl_trans (bl_alloc (bl_a _) _) G)
  clear C G
  by_cases hr : r = 0
  · subst hr
    go_wp2
    go_ret
    exact ⟨rfl, HG.out⟩
  · have hb : (r == 0) = false := beq_eq_false_iff_ne.2 hr
    go_wp2
    go_ret
    exact ⟨by simp [hr], HG.out⟩
theorem ansB_r (b : Bool) : ansB b = 0 ∨ ansB b = 1 ∨ ansB b = 2 := by cases b <;> simp [ansB]
/-- Within a function of two terms: they lie in boxes, the answer's box is open. -/
structure T2 (w W : World) (x y : TB) : Prop where
  bl : Below w.heap.size w W
  x : At4 W w.heap.size (.int .i64 x.t.k) (.slice x.t.a x.t.len x.t.cap) (.int .i64 x.t.n) (.int .i64 x.t.s)
  y : At4 W (w.heap.size + 1) (.int .i64 y.t.k) (.slice y.t.a y.t.len y.t.cap) (.int .i64 y.t.n) (.int .i64 y.t.s)
  r : Own4 W (w.heap.size + 1 + 1) (.int .i64 0) (.slice none 0 0) (.int .i64 0) (.int .i64 0)
theorem T2.below {w W W' : World} {x y : TB} (h : T2 w W x y) (hb : Below W.heap.size W W') : T2 w W' x y := ⟨bl_trans h.bl hb, h.x.below hb, h.y.below hb, h.r.below hb⟩
theorem T2.new (w : World) (x y : TB) (t : TypeId) : T2 w (((w.alloc (.cells #[.int .i64 x.t.k, .slice x.t.a x.t.len x.t.cap, .int .i64 x.t.n, .int .i64 x.t.s] t)).alloc (.cells #[.int .i64 y.t.k, .slice y.t.a y.t.len y.t.cap, .int .i64 y.t.n, .int .i64 y.t.s] t)).alloc (.cells #[.int .i64 0, .slice none 0 0, .int .i64 0, .int .i64 0] t)) x y :=
  ⟨bl_alloc (bl_alloc (bl_a _) _) _, (At4.new w _ _ _ _ _).below (bl_alloc (bl_a _) _), (At4.at (w.alloc _) (w.heap.size + 1) _ _ _ _ _ (by simp)).below (bl_a _), Own4.at ((w.alloc _).alloc _) (w.heap.size + 1 + 1) _ _ _ _ _ (by simp)⟩
set_option maxHeartbeats 2000000 in
theorem less_any (x y : TB) (w : World) (hx : BsF 0 w x.sl) (hy : BsF 0 w y.sl) (fx : x.t.fits) (fy : y.t.fits) : Calls Try.prog 73 #[.agg #[.int .i64 x.t.k, .slice x.t.a x.t.len x.t.cap, .int .i64 x.t.n, .int .i64 x.t.s], .agg #[.int .i64 y.t.k, .slice y.t.a y.t.len y.t.cap, .int .i64 y.t.n, .int .i64 y.t.s]] w (ValR w (lessV x.td y.td) w) := by
  have HC : Hid (∀ W, Below w.heap.size w W → Calls Try.prog 80 #[.agg #[.int .i64 x.t.k, .slice x.t.a x.t.len x.t.cap, .int .i64 x.t.n, .int .i64 x.t.s], .agg #[.int .i64 y.t.k, .slice y.t.a y.t.len y.t.cap, .int .i64 y.t.n, .int .i64 y.t.s]] W fun e w' => e = .returned (.int .i64 (x.td.cT y.td)) ∧ Below W.heap.size W w') := fun W hb => implCompare_td x y W (hx.upper (Upper.of_below hb)) (hy.upper (Upper.of_below hb)) fx fy
  have HT := hid (T2.new w x y 24)
  by_cases hk : x.t.k = y.t.k ∧ (x.t.k = 3 ∨ x.t.k = 2)
  rotate_left
  · have E : Hid (lessV x.td y.td = none) := (show (if x.t.k = y.t.k ∧ (x.t.k = 3 ∨ x.t.k = 2) then _ else none) = _ by rw [if_neg hk])
    by_cases e1 : x.t.k = y.t.k
    · have z1 : (x.t.k != y.t.k) = false := by simp [e1]
      have z2 : (x.t.k != 3) = true := by simp; exact fun h => hk ⟨e1, .inl h⟩
      have z3 : (x.t.k != 2) = true := by simp; exact fun h => hk ⟨e1, .inr h⟩
      clear hk e1 hx hy fx fy HC
      go_in
      go_upto_region 1 with fail
      generalize (((w.alloc _).alloc _).alloc _) = W1 at *
      obtain ⟨_, x0, _, _, _⟩ := HT.out.x
      obtain ⟨_, y0, _, _, _⟩ := HT.out.y
      have hw := HT.out.bl
      obtain ⟨⟨r0, r1, r2, r3, r4⟩, f0, f1, f2, f3⟩ := id HT.out.r
      go_wp2
      refine bodyPost_ret (v := .tuple #[.agg #[.int .i64 0, .slice none 0 0, .int .i64 0, .int .i64 0], .bool false]) (by simp [results, Try.results73, go_sem, *]) rfl ⟨tB0 0 0 0, by rw [E.out]; rfl, by rw [E.out]; exact VT.no, ?_⟩
      repeat (first | with_reducible exact hw | with_reducible refine bl_set ?_ (by dsimp only; omega) _)
    · have z1 : (x.t.k != y.t.k) = true := by simp; exact e1
      clear hk e1 hx hy fx fy HC
      go_in
      go_upto_region 1 with fail
      generalize (((w.alloc _).alloc _).alloc _) = W1 at *
      obtain ⟨_, x0, _, _, _⟩ := HT.out.x
      obtain ⟨_, y0, _, _, _⟩ := HT.out.y
      have hw := HT.out.bl
      obtain ⟨⟨r0, r1, r2, r3, r4⟩, f0, f1, f2, f3⟩ := id HT.out.r
      go_wp2
      refine bodyPost_ret (v := .tuple #[.agg #[.int .i64 0, .slice none 0 0, .int .i64 0, .int .i64 0], .bool false]) (by simp [results, Try.results73, go_sem, *]) rfl ⟨tB0 0 0 0, by rw [E.out]; rfl, by rw [E.out]; exact VT.no, ?_⟩
      repeat (first | with_reducible exact hw | with_reducible refine bl_set ?_ (by dsimp only; omega) _)
  have E : Hid (lessV x.td y.td = ans (ansB (decide (x.td.cT y.td < 0)))) := (show (if x.t.k = y.t.k ∧ (x.t.k = 3 ∨ x.t.k = 2) then _ else none) = _ by rw [if_pos hk])
  have z1 : (x.t.k != y.t.k) = false := by simp [hk.1]
  have z4 : (if (x.t.k != 3) = true then (x.t.k != 2) else false) = false := by rcases hk.2 with h | h <;> simp [h]
  obtain ⟨r, hr⟩ : ∃ r, r = x.td.cT y.td := ⟨_, rfl⟩
  rw [← hr] at HC E
  have HK := hid hk.2
  clear hk hx hy fx fy hr
  go_in
  go_upto_region 1 with fail
  generalize (((w.alloc _).alloc _).alloc _) = W1 at *
  obtain ⟨_, x0, x1, x2, x3⟩ := HT.out.x
  obtain ⟨_, y0, y1, y2, y3⟩ := HT.out.y
  have HW : Hid (W1 = W1) := rfl
  rcases HK.out with k3 | k3
  · have z2 : (x.t.k != 3) = false := by simp [k3]
    clear k3 HK z4
    go_wp2_with fail
    refine (HC.out _ HT.out.bl).mono ?_
    rintro e w2 ⟨rfl, hb2⟩
    have HT2 := hid (HT.out.below hb2)
    clear hb2 HT HC x0 x1 x2 x3 y0 y1 y2 y3
    have HA := hid (answer_any (decide (r < 0)) w2)
    go_wp2_with fail
    refine HA.out.mono ?_
    rintro e w3 ⟨rfl, rfl⟩
    have HTT := hid (truthTerm_any (ansB (decide (r < 0))) w w3 (ansB_r _))
    go_wp2_with fail
    refine HTT.out.mono ?_
    rintro e w4 ⟨t, rfl, hV, hb4⟩
    have HT4 := hid (HT2.out.below hb4)
    have HV := hid hV
    obtain ⟨q, hq⟩ : ∃ q, q = (ans (ansB (decide (r < 0)))).isSome := ⟨_, rfl⟩
    rw [← hq]
    have HQ := hid hq
    have hw := HT4.out.bl
    have HB2 := hid HT2.out.bl
    clear hV hb4 hq HTT HA HT2
    obtain ⟨⟨r0, r1, r2, r3, r4⟩, f0, f1, f2, f3⟩ := id HT4.out.r
    go_wp2
    refine bodyPost_ret (v := .tuple #[.agg #[.int .i64 t.t.k, .slice t.t.a t.t.len t.t.cap, .int .i64 t.t.n, .int .i64 t.t.s], .bool q]) (by simp [results, Try.results73, go_sem, *]) rfl ⟨t, by rw [E.out, HQ.out], by rw [E.out]; exact HV.out, ?_⟩
    repeat (first | with_reducible exact hw | with_reducible refine bl_set ?_ (by dsimp only; omega) _)
  · have z2 : (x.t.k != 3) = true := by simp [k3]
    have z3 : (x.t.k != 2) = false := by simp [k3]
    clear k3 HK z4
    go_wp2_with fail
    refine (HC.out _ HT.out.bl).mono ?_
    rintro e w2 ⟨rfl, hb2⟩
    have HT2 := hid (HT.out.below hb2)
    clear hb2 HT HC x0 x1 x2 x3 y0 y1 y2 y3
    have HA := hid (answer_any (decide (r < 0)) w2)
    go_wp2_with fail
    refine HA.out.mono ?_
    rintro e w3 ⟨rfl, rfl⟩
    have HTT := hid (truthTerm_any (ansB (decide (r < 0))) w w3 (ansB_r _))
    go_wp2_with fail
    refine HTT.out.mono ?_
    rintro e w4 ⟨t, rfl, hV, hb4⟩
    have HT4 := hid (HT2.out.below hb4)
    have HV := hid hV
    obtain ⟨q, hq⟩ : ∃ q, q = (ans (ansB (decide (r < 0)))).isSome := ⟨_, rfl⟩
    rw [← hq]
    have HQ := hid hq
    have hw := HT4.out.bl
    have HB2 := hid HT2.out.bl
    clear hV hb4 hq HTT HA HT2
    obtain ⟨⟨r0, r1, r2, r3, r4⟩, f0, f1, f2, f3⟩ := id HT4.out.r
    go_wp2
    refine bodyPost_ret (v := .tuple #[.agg #[.int .i64 t.t.k, .slice t.t.a t.t.len t.t.cap, .int .i64 t.t.n, .int .i64 t.t.s], .bool q]) (by simp [results, Try.results73, go_sem, *]) rfl ⟨t, by rw [E.out, HQ.out], by rw [E.out]; exact HV.out, ?_⟩
    repeat (first | with_reducible exact hw | with_reducible refine bl_set ?_ (by dsimp only; omega) _)
end Go.Proofs.Ytidhcbjhggdncaa
