import Derived.Test.YtoloadogihbdeaaGreatMk15
import Derived.Test.YtoloadogihbdeaaGreatMk11
import Derived.Deep.CutRange
namespace Go.Proofs.YtoloadogihbdeaaGreat
open Go.RowKit Go.Deep
set_option maxHeartbeats 40000000
theorem ldr {P : Program} {ops : Array Oper} {rest : List Oper} {op : Oper} {a : Act} {w : World} {Q : Exit → Act → World → Prop} {ty : TypeId} {x : Operand} {b o : Nat} {cs : List Value} {d : TypeDesc} (hgd : op.guard = none) (ho : op.op = .load ty x) (hx : a.eval x = .pointer (some ⟨b, o, none⟩)) (hu : P.underlying ty = some d) (hc : w.rangeAt b o cs) (hd : d.isRow = true)
  (h : wpList P ops Q rest (a.put op.dst (.agg cs.toArray)) w) (hi : (P.info? ty).map (·.size) = some cs.length := by kernel_rfl) : wpList P ops Q (op :: rest) a w := wpList_load_mid hgd ty x ho b o hx cs d hc hu hd hi h
set_option maxRecDepth 100000
theorem isVar_any (x : IB) (w : World) (h : x.lies 0 w) : Calls Tryz.prog 179 #[.agg x.ar] w (Tells (x.v.b ≠ []) w) := by
 have HL := iH (nil_len h.1.1.1)
 clear h
 go_in
 go_wp2
 go_ret
 refine Tells.of ?_ (bl_a _)
 have h1 := HL.o
 constructor
 · intro h2 h3
   have h4 := h1.1 h3
   simp at h2
   omega
 intro h2
 simp
 apply Nat.pos_of_ne_zero
 exact fun h3 => h2 (h1.2 h3)
theorem ok_kind {x : TD} (h : x.ok = true) : 0 ≤ x.k ∧ x.k ≤ 3 := by
 unfold TD.ok termOk at h
 by_cases h0 : x.k = 0
 · omega
 by_cases h1 : x.k = 1
 · omega
 by_cases h2 : x.k = 2
 · omega
 by_cases h3 : x.k = 3
 · omega
 rw [if_neg h0, if_neg h1, if_neg h2, if_neg h3] at h
 cases h
theorem itemOkS (x : IB) (w : World) (h : x.lies 0 w) : Calls Tryz.prog 164 #[.agg x.ar, .func (.func 165) #[] #[]] w (Tells (itOk x 1) w) := by
 have HIV := iH (fun W (hb : Bl w W) => isVar_any x W ⟨h.1.upper (uB hb), h.2.1.upper (uB hb), h.2.2⟩)
 have HIN := iH (fun W (hb : Bl w W) => isName_any x.v.a x.v.len x.v.cap x.v.b W (h.1.upper (uB hb)).1)
 have HZ := iH (fun W (hb : Bl w W) => isZeroT_any x.t W (h.2.1.upper (uB hb)))
 have HMS : Hd (∀ W, Bl w W → Cl 165 #[.agg #[.int .i64 x.t.t.k, .slice x.t.t.a x.t.t.len x.t.t.cap, .int .i64 x.t.t.n, .int .i64 x.t.t.s]] W (Tells (x.t.td.ok = true ∧ x.t.t.k ≤ 1) W)) := fun W hb => (isSubject_any x.t.t x.t.b W h.2.2 (h.2.1.upper (uB hb)).1).mono fun e w' ⟨h1, h2⟩ => ⟨_, h1, (show (_ ↔ _) by rw [Bool.and_eq_true, decide_eq_true_iff]; exact Iff.rfl), h2⟩
 clear h
 go_in
 go_wp2_with fail
 refine (HIV.o _ (bl_a _)).mono ?_
 rintro e w1 ⟨q1, rfl, hq1, hb1⟩
 have HB1 := iH (bl_trans (bl_a _) hb1)
 have hx := (Box.new w _ 37 (0, 0)).below hb1
 have y0 := hx.2 0 _ rfl
 have y1 := hx.2 1 _ rfl
 have y2 := hx.2 2 _ rfl
 have y3 := hx.2 3 _ rfl
 have y4 := hx.2 4 _ rfl
 clear hb1 hx
 cases q1 with
 | true =>
  have HNE := iH (hq1.1 rfl)
  clear hq1 HMS
  cases hnm : nameOk x.v.b with
  | false =>
   have HNO : Hd (¬ itOk x 1) := fun hh => by
    rcases hh with hh | hh
    · have h := hh.2.1
      rw [hnm] at h
      cases h
    exact HNE.o hh.1
   have IN := HIN.o w1 HB1.o
   rw [hnm] at IN
   clear hnm
   go_wp2_with fail
   refine IN.mono ?_
   rintro e w2 ⟨rfl, h2⟩
   subst w2
   clear IN
   go_wp2
   go_ret
   exact Tells.no HNO.o HB1.o
  | true =>
   have HNM := iH hnm
   have IN := HIN.o w1 HB1.o
   rw [hnm] at IN
   clear hnm
   go_wp2_with fail
   refine IN.mono ?_
   rintro e w2 ⟨rfl, h2⟩
   subst w2
   clear IN
   go_wp2_with fail
   refine (HZ.o w1 HB1.o).mono ?_
   rintro e w3 ⟨q3, rfl, hq3, hb3⟩
   have HE : Hd (q3 = true ↔ itOk x 1) := (show (q3 = true ↔ itOk x 1) from hq3.trans ⟨fun hh => Or.inl ⟨HNE.o, HNM.o, hh⟩, fun hh => by
    rcases hh with hh | hh
    · exact hh.2.2
    exact absurd hh.1 HNE.o⟩)
   have HB3 := iH (bl_trans HB1.o hb3)
   clear hq3 hb3 y0 y1 y2 y3 y4
   go_wp2
   go_ret
   exact Tells.of HE.o HB3.o
 | false =>
  have HNE := iH (show x.v.b = [] from Classical.byContradiction fun hh => by have h := hq1.2 hh; cases h)
  clear hq1 HZ HIN
  go_wp2_with fail
  refine (HMS.o w1 HB1.o).mono ?_
  rintro e w3 ⟨q3, rfl, hq3, hb3⟩
  have HE : Hd (q3 = true ↔ itOk x 1) := (show (q3 = true ↔ itOk x 1) from hq3.trans ⟨fun hh => Or.inr ⟨HNE.o, hh.1, hh.2⟩, fun hh => by
   rcases hh with hh | hh
   · exact absurd HNE.o hh.1
   exact hh.2⟩)
  have HB3 := iH (bl_trans HB1.o hb3)
  clear hq3 hb3 y0 y1 y2 y3 y4
  go_wp2
  go_ret
  exact Tells.of HE.o HB3.o
theorem itemOkP (x : IB) (w : World) (h : x.lies 0 w) : Calls Tryz.prog 164 #[.agg x.ar, .func (.func 166) #[] #[]] w (Tells (itOk x 0) w) := by
 have HIV := iH (fun W (hb : Bl w W) => isVar_any x W ⟨h.1.upper (uB hb), h.2.1.upper (uB hb), h.2.2⟩)
 have HIN := iH (fun W (hb : Bl w W) => isName_any x.v.a x.v.len x.v.cap x.v.b W (h.1.upper (uB hb)).1)
 have HZ := iH (fun W (hb : Bl w W) => isZeroT_any x.t W (h.2.1.upper (uB hb)))
 have HMS : Hd (∀ W, Bl w W → Cl 166 #[.agg #[.int .i64 x.t.t.k, .slice x.t.t.a x.t.t.len x.t.t.cap, .int .i64 x.t.t.n, .int .i64 x.t.t.s]] W (Tells (x.t.td.ok = true ∧ x.t.t.k ≤ 0) W)) := fun W hb => (isProperty_any x.t.t x.t.b W h.2.2 (h.2.1.upper (uB hb)).1).mono fun e w' ⟨h1, h2⟩ => ⟨_, h1, (show (_ ↔ _) by rw [Bool.and_eq_true, beq_iff_eq]; exact ⟨fun hh => ⟨hh.1, Int.le_of_eq hh.2⟩, fun hh => ⟨hh.1, Int.le_antisymm hh.2 (ok_kind (x := x.t.td) hh.1).1⟩⟩), h2⟩
 clear h
 go_in
 go_wp2_with fail
 refine (HIV.o _ (bl_a _)).mono ?_
 rintro e w1 ⟨q1, rfl, hq1, hb1⟩
 have HB1 := iH (bl_trans (bl_a _) hb1)
 have hx := (Box.new w _ 37 (0, 0)).below hb1
 have y0 := hx.2 0 _ rfl
 have y1 := hx.2 1 _ rfl
 have y2 := hx.2 2 _ rfl
 have y3 := hx.2 3 _ rfl
 have y4 := hx.2 4 _ rfl
 clear hb1 hx
 cases q1 with
 | true =>
  have HNE := iH (hq1.1 rfl)
  clear hq1 HMS
  cases hnm : nameOk x.v.b with
  | false =>
   have HNO : Hd (¬ itOk x 0) := fun hh => by
    rcases hh with hh | hh
    · have h := hh.2.1
      rw [hnm] at h
      cases h
    exact HNE.o hh.1
   have IN := HIN.o w1 HB1.o
   rw [hnm] at IN
   clear hnm
   go_wp2_with fail
   refine IN.mono ?_
   rintro e w2 ⟨rfl, h2⟩
   subst w2
   clear IN
   go_wp2
   go_ret
   exact Tells.no HNO.o HB1.o
  | true =>
   have HNM := iH hnm
   have IN := HIN.o w1 HB1.o
   rw [hnm] at IN
   clear hnm
   go_wp2_with fail
   refine IN.mono ?_
   rintro e w2 ⟨rfl, h2⟩
   subst w2
   clear IN
   go_wp2_with fail
   refine (HZ.o w1 HB1.o).mono ?_
   rintro e w3 ⟨q3, rfl, hq3, hb3⟩
   have HE : Hd (q3 = true ↔ itOk x 0) := (show (q3 = true ↔ itOk x 0) from hq3.trans ⟨fun hh => Or.inl ⟨HNE.o, HNM.o, hh⟩, fun hh => by
    rcases hh with hh | hh
    · exact hh.2.2
    exact absurd hh.1 HNE.o⟩)
   have HB3 := iH (bl_trans HB1.o hb3)
   clear hq3 hb3 y0 y1 y2 y3 y4
   go_wp2
   go_ret
   exact Tells.of HE.o HB3.o
 | false =>
  have HNE := iH (show x.v.b = [] from Classical.byContradiction fun hh => by have h := hq1.2 hh; cases h)
  clear hq1 HZ HIN
  go_wp2_with fail
  refine (HMS.o w1 HB1.o).mono ?_
  rintro e w3 ⟨q3, rfl, hq3, hb3⟩
  have HE : Hd (q3 = true ↔ itOk x 0) := (show (q3 = true ↔ itOk x 0) from hq3.trans ⟨fun hh => Or.inr ⟨HNE.o, hh.1, hh.2⟩, fun hh => by
   rcases hh with hh | hh
   · exact absurd HNE.o hh.1
   exact hh.2⟩)
  have HB3 := iH (bl_trans HB1.o hb3)
  clear hq3 hb3 y0 y1 y2 y3 y4
  go_wp2
  go_ret
  exact Tells.of HE.o HB3.o
theorem itemOkO (x : IB) (w : World) (h : x.lies 0 w) : Calls Tryz.prog 164 #[.agg x.ar, .func (.func 167) #[] #[]] w (Tells (itOk x 3) w) := by
 have HIV := iH (fun W (hb : Bl w W) => isVar_any x W ⟨h.1.upper (uB hb), h.2.1.upper (uB hb), h.2.2⟩)
 have HIN := iH (fun W (hb : Bl w W) => isName_any x.v.a x.v.len x.v.cap x.v.b W (h.1.upper (uB hb)).1)
 have HZ := iH (fun W (hb : Bl w W) => isZeroT_any x.t W (h.2.1.upper (uB hb)))
 have HMS : Hd (∀ W, Bl w W → Cl 167 #[.agg #[.int .i64 x.t.t.k, .slice x.t.t.a x.t.t.len x.t.t.cap, .int .i64 x.t.t.n, .int .i64 x.t.t.s]] W (Tells (x.t.td.ok = true ∧ x.t.t.k ≤ 3) W)) := fun W hb => (implTermOk_any x.t.t.k x.t.t.n x.t.t.s x.t.t.a x.t.t.len x.t.t.cap x.t.b W (h.2.1.upper (uB hb)).1 h.2.2.1 h.2.2.2.1 h.2.2.2.2.1 h.2.2.2.2.2).mono fun e w' ⟨h1, h2⟩ => ⟨_, h1, ⟨fun hh => ⟨hh, (ok_kind (x := x.t.td) hh).2⟩, fun hh => hh.1⟩, h2⟩
 clear h
 go_in
 go_wp2_with fail
 refine (HIV.o _ (bl_a _)).mono ?_
 rintro e w1 ⟨q1, rfl, hq1, hb1⟩
 have HB1 := iH (bl_trans (bl_a _) hb1)
 have hx := (Box.new w _ 37 (0, 0)).below hb1
 have y0 := hx.2 0 _ rfl
 have y1 := hx.2 1 _ rfl
 have y2 := hx.2 2 _ rfl
 have y3 := hx.2 3 _ rfl
 have y4 := hx.2 4 _ rfl
 clear hb1 hx
 cases q1 with
 | true =>
  have HNE := iH (hq1.1 rfl)
  clear hq1 HMS
  cases hnm : nameOk x.v.b with
  | false =>
   have HNO : Hd (¬ itOk x 3) := fun hh => by
    rcases hh with hh | hh
    · have h := hh.2.1
      rw [hnm] at h
      cases h
    exact HNE.o hh.1
   have IN := HIN.o w1 HB1.o
   rw [hnm] at IN
   clear hnm
   go_wp2_with fail
   refine IN.mono ?_
   rintro e w2 ⟨rfl, h2⟩
   subst w2
   clear IN
   go_wp2
   go_ret
   exact Tells.no HNO.o HB1.o
  | true =>
   have HNM := iH hnm
   have IN := HIN.o w1 HB1.o
   rw [hnm] at IN
   clear hnm
   go_wp2_with fail
   refine IN.mono ?_
   rintro e w2 ⟨rfl, h2⟩
   subst w2
   clear IN
   go_wp2_with fail
   refine (HZ.o w1 HB1.o).mono ?_
   rintro e w3 ⟨q3, rfl, hq3, hb3⟩
   have HE : Hd (q3 = true ↔ itOk x 3) := (show (q3 = true ↔ itOk x 3) from hq3.trans ⟨fun hh => Or.inl ⟨HNE.o, HNM.o, hh⟩, fun hh => by
    rcases hh with hh | hh
    · exact hh.2.2
    exact absurd hh.1 HNE.o⟩)
   have HB3 := iH (bl_trans HB1.o hb3)
   clear hq3 hb3 y0 y1 y2 y3 y4
   go_wp2
   go_ret
   exact Tells.of HE.o HB3.o
 | false =>
  have HNE := iH (show x.v.b = [] from Classical.byContradiction fun hh => by have h := hq1.2 hh; cases h)
  clear hq1 HZ HIN
  go_wp2_with fail
  refine (HMS.o w1 HB1.o).mono ?_
  rintro e w3 ⟨q3, rfl, hq3, hb3⟩
  have HE : Hd (q3 = true ↔ itOk x 3) := (show (q3 = true ↔ itOk x 3) from hq3.trans ⟨fun hh => Or.inr ⟨HNE.o, hh.1, hh.2⟩, fun hh => by
   rcases hh with hh | hh
   · exact absurd HNE.o hh.1
   exact hh.2⟩)
  have HB3 := iH (bl_trans HB1.o hb3)
  clear hq3 hb3 y0 y1 y2 y3 y4
  go_wp2
  go_ret
  exact Tells.of HE.o HB3.o
theorem patOk_any (x : PB) (w : World) (h : x.lies 0 w) : Calls Tryz.prog 151 #[.agg x.ar] w (Tells (ptOk x) w) := by
 have HI1 := iH (fun W (hb : Bl w W) => itemOkS x.s W (h.1.upper (uB hb)))
 have HI2 := iH (fun W (hb : Bl w W) => itemOkP x.p W (h.2.1.upper (uB hb)))
 have HI3 := iH (fun W (hb : Bl w W) => itemOkO x.o W (h.2.2.upper (uB hb)))
 clear h
 go_in
 go_wp2_with fail
 refine (HI1.o _ (bl_a _)).mono ?_
 rintro e w1 ⟨q1, rfl, hq1, hb1⟩
 have HB1 := iH (bl_trans (bl_a _) hb1)
 have HX1 := iH ((Box.new w _ 39 (0, 0)).below hb1)
 clear hb1 HI1
 cases q1
 · have HNO : Hd (¬ ptOk x) := fun hh => by have h := hq1.2 hh.1; cases h
   clear hq1
   go_wp2
   go_ret
   exact Tells.no HNO.o HB1.o
 have HO1 := iH (hq1.1 rfl)
 clear hq1
 have y5 := HX1.o.2 5 _ rfl
 have y6 := HX1.o.2 6 _ rfl
 have y7 := HX1.o.2 7 _ rfl
 have y8 := HX1.o.2 8 _ rfl
 have y9 := HX1.o.2 9 _ rfl
 go_wp2_with fail
 refine (HI2.o w1 HB1.o).mono ?_
 rintro e w2 ⟨q2, rfl, hq2, hb2⟩
 have HB2 := iH (bl_trans HB1.o hb2)
 have HX2 := iH (HX1.o.below hb2)
 clear hb2 HI2 HX1 y5 y6 y7 y8 y9
 cases q2
 · have HNO : Hd (¬ ptOk x) := fun hh => by have h := hq2.2 hh.2.1; cases h
   clear hq2
   go_wp2
   go_ret
   exact Tells.no HNO.o HB2.o
 have HO2 := iH (hq2.1 rfl)
 clear hq2
 have y10 := HX2.o.2 10 _ rfl
 have y11 := HX2.o.2 11 _ rfl
 have y12 := HX2.o.2 12 _ rfl
 have y13 := HX2.o.2 13 _ rfl
 have y14 := HX2.o.2 14 _ rfl
 go_wp2_with fail
 refine (HI3.o w2 HB2.o).mono ?_
 rintro e w3 ⟨q3, rfl, hq3, hb3⟩
 have HB3 := iH (bl_trans HB2.o hb3)
 have HE := iH (show (q3 = true ↔ ptOk x) from hq3.trans ⟨fun hh => ⟨HO1.o, HO2.o, hh⟩, fun hh => hh.2.2⟩)
 clear hb3 hq3 y10 y11 y12 y13 y14
 go_wp2
 go_ret
 exact Tells.of HE.o HB3.o
def IdxAns (P : Prop) (w : World) (e : Ending) (w' : World) : Prop := ∃ v : Int, e = .returned (.int .i64 v) ∧ (0 ≤ v ↔ ¬ P) ∧ Bl w w'
theorem IdxAns.of {P : Prop} {v : Int} {w w' : World} (h : 0 ≤ v ↔ ¬ P) (hb : Bl w w') : IdxAns P w (.returned (.int .i64 v)) w' := ⟨v, rfl, h, hb⟩
theorem noTerm_any (x : TB) (w : World) (h : BsF 0 w x.sl ∧ x.t.fits) : Calls Tryz.prog 171 #[.agg #[.int .i64 x.t.k, .slice x.t.a x.t.len x.t.cap, .int .i64 x.t.n, .int .i64 x.t.s]] w (Tells (¬ x.td.ok = true) w) := by
 have HP : Hd (∀ W, Bl w W → Cl 167 #[.agg #[.int .i64 x.t.k, .slice x.t.a x.t.len x.t.cap, .int .i64 x.t.n, .int .i64 x.t.s]] W (Tells (x.td.ok = true) W)) := fun W hb => (implTermOk_any x.t.k x.t.n x.t.s x.t.a x.t.len x.t.cap x.b W (h.1.upper (uB hb)).1 h.2.1 h.2.2.1 h.2.2.2.1 h.2.2.2.2).mono fun e w' ⟨h1, h2⟩ => ⟨_, h1, Iff.rfl, h2⟩
 clear h
 go_in
 go_wp2_with fail
 refine (HP.o _ (bl_a _)).mono ?_
 rintro e w1 ⟨q1, rfl, hq1, hb1⟩
 have HB := iH (bl_trans (bl_a _) hb1)
 have HE : Hd ((!q1) = true ↔ ¬ x.td.ok = true) := (show ((!q1) = true ↔ _) by
  rw [← hq1]
  cases q1 <;> simp)
 clear hq1 hb1 HP
 go_wp2
 go_ret
 exact Tells.of HE.o HB.o
theorem indexTerm_any (a : Option Addr) (n cap : Nat) (f : Nat → TB) (w : World) (hn : n ≤ 1048576) (hR : KRow 0 w 4 a n (fun i => enc4 (f i).t)) (hk : ∀ i, i < n → BsF 0 w (f i).sl ∧ (f i).t.fits) :
 Calls Tryz.prog 184 #[.slice a n cap, .func (.func 171) #[] #[]] w (IdxAns (∀ i, i < n → (f i).td.ok = true) w) := by
 have HNP := iH (fun i (hi : i < n) W (hb : Bl w W) => noTerm_any (f i) W (⟨(hk i hi).1.upper (uB hb), (hk i hi).2⟩))
 by_cases hn1 : n = 0
 · subst hn1
   clear hR hk
   go_in
   go_wp2_with fail
   go_loopw [8] (fun i wr => i = .int .i64 0 ∧ Hd (Bl w wr)) (fun _ _ => 0)
   case atStart => exact ⟨rfl, Below.refl _ _⟩
   obtain ⟨rfl, HB⟩ := hrel
   go_wp2
   go_ret
   exact IdxAns.of ⟨fun h => absurd h (by decide), fun h => absurd (fun i hi => absurd hi nN) h⟩ HB.o
 obtain ⟨b, off, rfl, _, hbk, hck⟩ := hR.resolve_left hn1
 have HCK := iH hck
 clear hck hR hk hn1
 go_in
 go_wp2_with fail
 go_loopw [8] (fun i wr => ∃ k : Nat, k ≤ n ∧ i = .int .i64 k ∧ Hd (∀ j, j < k → (f j).td.ok = true) ∧ Hd (Bl w wr)) (fun i _ => n - (intOf i).toNat)
 case atStart => exact ⟨0, nZ, rfl, fun j hj => absurd hj nN, Below.refl _ _⟩
 obtain ⟨k, hk, rfl, HOK, HB⟩ := hrel
 by_cases hlk : k < n
 rotate_left
 · obtain rfl : k = n := by omega
   have hlkz : ¬ (k : Int) < (k : Int) := by omega
   go_wp2
   go_ret
   exact IdxAns.of ⟨fun h => absurd h (by decide), fun h => absurd HOK.o h⟩ HB.o
 have hlkz : (k : Int) < (n : Int) := by omega
 have hcx : wr.rangeAt b (off + k * 4) [.int .i64 (f k).t.k, .slice (f k).t.a (f k).t.len (f k).t.cap, .int .i64 (f k).t.n, .int .i64 (f k).t.s] := fun c u hu => (HB.o.cell (p := ⟨b, off + k * 4 + c, none⟩) hbk).trans (HCK.o k hlk c u hu)
 go_wp2_with (with_reducible refine wpl_at ?_; refine ldr rfl rfl rfl Tryz.underlying35 hcx rfl ?_; try simp only [Act.put, sA, zA, cA])
 refine (HNP.o k hlk wr HB.o).mono ?_
 rintro e w1 ⟨q1, rfl, hq1, hb1⟩
 have HB1 := iH (bl_trans HB.o hb1)
 clear hb1 hcx HB
 cases q1 with
 | true =>
  have HNO := iH (hq1.1 rfl)
  clear hq1
  go_wp2
  go_ret
  exact IdxAns.of ⟨fun _ h => HNO.o (h k hlk), fun _ => by omega⟩ HB1.o
 | false =>
  have HYE := iH (show (f k).td.ok = true from Classical.byContradiction fun hh => by have h := hq1.2 hh; cases h)
  clear hq1
  go_wp2
  go_roundw
  case rel =>
   refine ⟨k + 1, by omega, by go_num, fun j hj => ?_, HB1⟩
   by_cases e : j = k
   · subst e
     exact HYE.o
   exact HOK.o j (by omega)
  case measure => simp [intOf]; omega
theorem containsTerm_any (a : Option Addr) (n cap : Nat) (f : Nat → TB) (w : World) (hn : n ≤ 1048576) (hR : KRow 0 w 4 a n (fun i => enc4 (f i).t)) (hk : ∀ i, i < n → BsF 0 w (f i).sl ∧ (f i).t.fits) :
 Calls Tryz.prog 170 #[.slice a n cap, .func (.func 171) #[] #[]] w (Tells (¬ ∀ i, i < n → (f i).td.ok = true) w) := by
 have IX := indexTerm_any a n cap f w hn hR hk
 obtain ⟨P, hP⟩ : ∃ P : Prop, P = (∀ i, i < n → (f i).td.ok = true) := ⟨_, rfl⟩
 rw [← hP] at IX ⊢
 clear hP hR hk hn
 go_in
 go_wp2_with fail
 refine IX.mono ?_
 rintro e w1 ⟨v, rfl, hv, hb⟩
 have HV := iH hv
 have HB := iH hb
 clear IX hv hb
 go_wp2
 go_ret
 refine Tells.of ?_ HB.o
 rw [← HV.o]
 simp
theorem valuesOk_any (a : Option Addr) (n cap : Nat) (f : Nat → TB) (w : World) (hn : n ≤ 1048576) (hR : KRow 0 w 4 a n (fun i => enc4 (f i).t)) (hk : ∀ i, i < n → BsF 0 w (f i).sl ∧ (f i).t.fits) :
 Calls Tryz.prog 153 #[.slice a n cap] w (Tells (n ≤ 8 ∧ ∀ i, i < n → (f i).td.ok = true) w) := by
 have CN := containsTerm_any a n cap f w hn hR hk
 obtain ⟨P, hP⟩ : ∃ P : Prop, P = (∀ i, i < n → (f i).td.ok = true) := ⟨_, rfl⟩
 rw [← hP] at CN ⊢
 clear hP hR hk hn
 by_cases hl : n ≤ 8
 · have hlz : (n : Int) ≤ 8 := by omega
   have HL := iH hl
   clear hl
   go_in
   go_wp2_with fail
   refine CN.mono ?_
   rintro e w1 ⟨q1, rfl, hq1, hb1⟩
   have HB := iH hb1
   have HE : Hd ((!q1) = true ↔ n ≤ 8 ∧ P) := (show ((!q1) = true ↔ _) by
    cases q1 with
    | true => exact ⟨fun h => (by cases h), fun h => absurd h.2 (hq1.1 rfl)⟩
    | false => exact ⟨fun _ => ⟨HL.o, Classical.byContradiction fun hh => by have h := hq1.2 hh; cases h⟩, fun _ => rfl⟩)
   clear hq1 hb1 CN
   go_wp2
   go_ret
   exact Tells.of HE.o HB.o
 have hlz : ¬ (n : Int) ≤ 8 := by omega
 have HNO : Hd (¬ (n ≤ 8 ∧ P)) := fun hh => hl hh.1
 clear hl CN
 go_in
 go_wp2
 go_ret
 exact Tells.no HNO.o brf
def ET0 : ET := .mk ⟨0, 0, ⟨none, 0, 0, []⟩, ⟨⟨0, none, 0, 0, 0, 0⟩, []⟩, none, 0, 0⟩ (fun _ => .nil)
theorem ET0_lies (w : World) : ET0.lies 0 w := ⟨bs_nil w, bs_nil w, ⟨by decide, by decide, by decide, by decide⟩, nZ, .inl rfl, fun i hi => absurd hi nN⟩
theorem ET0_zero : zeroE ET0 := ⟨rfl, rfl, rfl, zeroT0, rfl⟩
theorem tb_all {l : List TB} : (∀ i, i < l.length → (tbG l i).td.ok = true) ↔ ∀ x ∈ l, x.td.ok = true := by
 constructor
 · intro h x hx
   obtain ⟨i, hi, rfl⟩ := List.getElem_of_mem hx
   have := h i hi
   rwa [(tbG_at hi).1] at this
 intro h i hi
 rw [(tbG_at hi).1]
 exact h _ (tbG_at hi).2
theorem tb_lies {w : World} {a : Option Addr} {l : List TB} (h : TRowF 0 w a l) : ∀ i, i < l.length → BsF 0 w (tbG l i).sl ∧ (tbG l i).t.fits := fun i hi => by
 rw [(tbG_at hi).1]
 exact h.2.2 _ (tbG_at hi).2
theorem bytesEqual_any (x y : SL) (w : World) (hx : BsF 0 w x) (hy : BsF 0 w y) : Calls Tryz.prog 161 #[.slice x.a x.len x.cap, .slice y.a y.len y.cap] w (Tells (x.b = y.b) w) := by
 have c1 : (convert 23 9 (.slice x.a x.len x.cap)).run Tryz.prog w = .ok (.string (strOfNums x.b)) w := hx.1.str
 have c2 : (convert 23 9 (.slice y.a y.len y.cap)).run Tryz.prog w = .ok (.string (strOfNums y.b)) w := hy.1.str
 by_cases h : x.b = y.b
 · have HY := iH h
   rw [h] at c1
   clear h hx hy
   go_in
   go_wp2
   go_ret
   exact Tells.yes HY.o brf
 have HNO := iH h
 have hs := str_ne hx.1.byt hy.1.byt h
 have hs0 := str_ne2 hx.1.byt hy.1.byt h
 have hs1 := beq_false_of_ne hs0
 have hs2 := decide_eq_false hs
 clear h hx hy
 go_in
 go_wp2
 go_ret
 exact Tells.no HNO.o brf
theorem hasC_any (x y : SL) (c : Nat) (w : World) (hx : BsF 0 w x) (hy : BsF 0 w y) (hc : w.cell? ⟨c, 0, none⟩ = some (.slice x.a x.len x.cap)) : Calls Tryz.prog 160 #[.slice y.a y.len y.cap, .pointer (some ⟨c, 0, none⟩)] w (Tells (y.b = x.b) w) := by
 have BE := bytesEqual_any y x w hy hx
 clear hx hy
 obtain ⟨P, hP⟩ : ∃ P : Prop, P = (y.b = x.b) := ⟨_, rfl⟩
 rw [← hP] at BE ⊢
 clear hP
 go_in
 go_wp2_with fail
 refine BE.mono ?_
 rintro e w1 ⟨q, rfl, hq, hb⟩
 have HQ := iH hq
 have HB := iH hb
 clear hq hb BE hc
 go_wp2
 go_ret
 exact Tells.of HQ.o HB.o
theorem indexV_any (v : Value) (L : List SL) (x : SL) (c B : Nat) (w0 w : World) (h : VL w0 w B v L) (hw : Bl w0 w) (hx : BsF 0 w0 x) (hn : L.length ≤ 1048576) (hcl : c < w.heap.size) (hc : w.cell? ⟨c, 0, none⟩ = some (.slice x.a x.len x.cap)) :
 Calls Tryz.prog 178 #[v, .func (.func 160) #[] #[.pointer (some ⟨c, 0, none⟩)]] w (IdxAns (¬ InL x.b L) w) := by
 obtain ⟨a, cap, rfl, hf⟩ := h.form
 obtain ⟨n, hnn⟩ : ∃ n, n = L.length := ⟨_, rfl⟩
 have HN := iH hnn
 have HT := iH h.txt
 have HX := iH hx
 have HW := iH hw
 have HCC := iH hc
 rw [← hnn] at hn ⊢
 by_cases hL : L = []
 · have HNI : Hd (¬ InL x.b L) := (show ¬ (x.b ∈ L.map SL.b) by rw [hL]; simp)
   have hn0 : n = 0 := by rw [hnn, hL]; rfl
   clear h hw hx hf hnn hL hc HN
   subst hn0
   go_in
   go_wp2_with fail
   go_loopw [8] (fun i wr => i = .int .i64 0 ∧ Hd (Bl w wr)) (fun _ _ => 0)
   case atStart => exact ⟨rfl, Below.refl _ _⟩
   obtain ⟨rfl, HB⟩ := hrel
   go_wp2
   go_ret
   exact IdxAns.of ⟨fun h => absurd h (by decide), fun h => absurd HNI.o h⟩ HB.o
 obtain ⟨g, rfl, _, hg, hcs⟩ := hf.resolve_left hL
 have HCS := iH hcs
 clear h hw hx hf hnn hL hc hcs
 go_in
 go_wp2_with fail
 go_loopw [8] (fun i wr => ∃ k : Nat, k ≤ n ∧ i = .int .i64 k ∧ Hd (∀ j y, j < k → L[j]? = some y → y.b ≠ x.b) ∧ Hd (Bl w wr)) (fun i _ => n - (intOf i).toNat)
 case atStart => exact ⟨0, nZ, rfl, fun j y hj => absurd hj nN, Below.refl _ _⟩
 obtain ⟨k, hk, rfl, HNE, HB⟩ := hrel
 by_cases hlk : k < n
 rotate_left
 · obtain rfl : k = n := by omega
   have hlkz : ¬ (k : Int) < (k : Int) := by omega
   have HNI : Hd (¬ InL x.b L) := fun hm => by
    obtain ⟨y, hy, e⟩ := List.mem_map.1 hm
    obtain ⟨j, hj, rfl⟩ := List.getElem_of_mem hy
    exact HNE.o j _ (by rw [HN.o]; exact hj) (List.getElem?_eq_getElem hj) e
   go_wp2
   go_ret
   exact IdxAns.of ⟨fun h => absurd h (by decide), fun h => absurd HNI.o h⟩ HB.o
 have hlkz : (k : Int) < (n : Int) := by omega
 obtain ⟨y, hy⟩ : ∃ y, L[k]? = some y := ⟨_, List.getElem?_eq_getElem (by rw [← HN.o]; exact hlk)⟩
 have HY := iH hy
 have HTY := iH (HT.o y (List.mem_of_getElem? hy))
 have y0 := (HB.o.cell (p := ⟨g, k, none⟩) hg).trans (HCS.o k y hy)
 clear hy
 go_wp2_with fail
 refine (hasC_any x y c wr (HX.o.upper (uB (bl_trans HW.o HB.o))) (HTY.o.upper (uB (bl_trans HW.o HB.o))) ((HB.o.cell (p := ⟨c, 0, none⟩) hcl).trans HCC.o)).mono ?_
 rintro e w1 ⟨q1, rfl, hq1, hb1⟩
 have HB1 := iH (bl_trans HB.o hb1)
 clear hb1 HB y0
 cases q1 with
 | true =>
  have HIN : Hd (InL x.b L) := (show x.b ∈ L.map SL.b by rw [← hq1.1 rfl]; exact List.mem_map_of_mem (f := SL.b) (List.mem_of_getElem? HY.o))
  clear hq1
  go_wp2
  go_ret
  exact IdxAns.of ⟨fun _ h => h HIN.o, fun _ => by omega⟩ HB1.o
 | false =>
  have HYX : Hd (y.b ≠ x.b) := fun hh => by have h := hq1.2 hh; cases h
  clear hq1
  go_wp2
  go_roundw
  case rel =>
   refine ⟨k + 1, by omega, by go_num, fun j z hj hz => ?_, HB1⟩
   by_cases e : j = k
   · subst e
     rw [HY.o] at hz
     cases hz
     exact HYX.o
   exact HNE.o j z (by omega) hz
  case measure => simp [intOf]; omega
theorem containsV_any (v : Value) (L : List SL) (x : SL) (c B : Nat) (w0 w : World) (h : VL w0 w B v L) (hw : Bl w0 w) (hx : BsF 0 w0 x) (hn : L.length ≤ 1048576) (hcl : c < w.heap.size) (hc : w.cell? ⟨c, 0, none⟩ = some (.slice x.a x.len x.cap)) :
 Calls Tryz.prog 159 #[v, .func (.func 160) #[] #[.pointer (some ⟨c, 0, none⟩)]] w (Tells (InL x.b L) w) := by
 have IX := indexV_any v L x c B w0 w h hw hx hn hcl hc
 obtain ⟨P, hP⟩ : ∃ P : Prop, P = InL x.b L := ⟨_, rfl⟩
 rw [← hP] at IX ⊢
 obtain ⟨a, cap, rfl, _⟩ := h.form
 clear hP h hw hx hn hcl hc
 go_in
 go_wp2_with fail
 refine IX.mono ?_
 rintro e w1 ⟨v, rfl, hv, hb⟩
 have HV := iH hv
 have HB := iH hb
 clear IX hv hb
 go_wp2
 go_ret
 refine Tells.of ?_ HB.o
 rw [← Classical.not_not (a := P), ← HV.o]
 simp
theorem has_any (v : Value) (L : List SL) (x : SL) (B : Nat) (w0 w : World) (h : VL w0 w B v L) (hw : Bl w0 w) (hx : BsF 0 w0 x) (hn : L.length ≤ 1048576) :
 Calls Tryz.prog 144 #[v, .slice x.a x.len x.cap] w (Tells (InL x.b L) w) := by
 have hsz := hw.size
 have HC := iH (fun o (ho : (w.alloc o).cell? _ = some _) => containsV_any v L x w.heap.size B w0 (w.alloc o) (h.below (bl_a o)) (hw.trans ((bl_a o).mono hsz)) hx hn (by simp) ho)
 obtain ⟨P, hP⟩ : ∃ P : Prop, P = InL x.b L := ⟨_, rfl⟩
 rw [← hP] at HC ⊢
 obtain ⟨a, cap, rfl, _⟩ := h.form
 clear hP h hw hx hn
 go_in
 go_wp2_with fail
 refine (HC.o _ (by simp [go_sem])).mono ?_
 rintro e w1 ⟨q, rfl, hq, hb⟩
 have HQ := iH hq
 have HB := iH (bl_trans (bl_a _) hb)
 clear HC hq hb
 go_wp2
 go_ret
 exact Tells.of HQ.o HB.o
structure KQ (g : Nat) (v : Value) (w : World) (v' : Value) (w' : World) : Prop where
 os : w'.os = w.os
 tape : w'.tape = w.tape
 output : w'.output = w.output
 size : w.heap.size ≤ w'.heap.size
 block : ∀ b, b < w.heap.size → b ≠ g → v.ownBlock ≠ some b → w'.heap[b]? = w.heap[b]?
 blk : ∀ c, v'.ownBlock = some c → v.ownBlock = some c ∨ w.heap.size ≤ c
theorem KQ.of_kp {g : Nat} {v v' : Value} {w w' : World} (h : Kp v w v' w') : KQ g v w v' w' := ⟨h.os, h.tape, h.output, h.size, fun b hb _ hn => h.block b hb hn, h.blk⟩
theorem KQ.of_below {g : Nat} {v : Value} {w w' : World} (h : Bl w w') : KQ g v w v w' := .of_kp (.of_below h)
theorem KQ.trans {g : Nat} {v v' v'' : Value} {w w' w'' : World} (h : KQ g v w v' w') (k : KQ g v' w' v'' w'') : KQ g v w v'' w'' :=
 ⟨k.os.trans h.os, k.tape.trans h.tape, k.output.trans h.output, Nat.le_trans h.size k.size, fun b hb hg hn => (k.block b (Nat.lt_of_lt_of_le hb h.size) hg (fun e => by
  rcases h.blk b e with e' | e'
  · exact hn e'
  · omega)).trans (h.block b hb hg hn), fun c hc => by
  rcases k.blk c hc with e | e
  · exact h.blk c e
  exact .inr (Nat.le_trans h.size e)⟩
theorem KQ.past {g : Nat} {v v' : Value} {w w' w'' : World} (h : KQ g v w v' w') (k : Past g w' w'') : KQ g v w v' w'' :=
 ⟨k.os.trans h.os, k.tape.trans h.tape, k.output.trans h.output, Nat.le_trans h.size k.size, fun b hb hg hn => (k.block b (Nat.lt_of_lt_of_le hb h.size) hg).trans (h.block b hb hg hn), h.blk⟩
theorem KQ.box {g : Nat} {v v' : Value} {w w' : World} {b : Nat} {L : List Value} (h : KQ g v w v' w') (hx : Box w b L) (hg : b ≠ g) (hn : v.ownBlock ≠ some b) : Box w' b L := ⟨Nat.lt_of_lt_of_le hx.1 h.size, fun c u hu => (World.cell?_of_block (w := w) (a := ⟨b, c, none⟩) (h.block b hx.1 hg hn)).trans (hx.2 c u hu)⟩
theorem KQ.low {g : Nat} {v v' : Value} {w w' : World} {B : Nat} (h : KQ g v w v' w') (hv : ∀ c, v.ownBlock = some c → B ≤ c) (hg : B ≤ g) (hB : B ≤ w.heap.size) : Below B w w' := ⟨h.os, h.tape, h.output, h.size, fun b hb => h.block b (by omega) (by omega) (fun e => by have := hv b e; omega)⟩
structure VQ (w0 w : World) (B g : Nat) (v : Value) (L : List SL) : Prop where
 cell : w.cell? ⟨g, 0, none⟩ = some v
 fr : w.frozen? ⟨g, 0, none⟩ = false
 lt : g < w.heap.size
 vl : VL w0 w B v L
 ne : v.ownBlock ≠ some g
 lo : w0.heap.size ≤ B
 gl : w0.heap.size ≤ g
 bl : Bl w0 w
 sz : B ≤ w.heap.size
theorem VQ.below {w0 w w' : World} {B g : Nat} {v : Value} {L : List SL} (h : VQ w0 w B g v L) (hb : Bl w w') : VQ w0 w' B g v L :=
 ⟨(hb.cell (p := ⟨g, 0, none⟩) h.lt).trans h.cell, (hb.frozen (p := ⟨g, 0, none⟩) h.lt).trans h.fr, Nat.lt_of_lt_of_le h.lt hb.size, h.vl.below hb, h.ne, h.lo, h.gl, h.bl.trans (hb.mono h.bl.size), Nat.le_trans h.sz hb.size⟩
def AddQ (w0 : World) (B g : Nat) (v : Value) (R : List (List Int)) (w : World) (e : Ending) (w' : World) : Prop := ∃ v' L', e = .returned (.tuple #[]) ∧ VQ w0 w' B g v' L' ∧ L'.map SL.b = R ∧ KQ g v w v' w'
theorem appQ {ops : Array Oper} {rest : List Oper} {o : Oper} {a : Act} {Q : Exit → Act → World → Prop} {w : World} (hgd : o.guard = none) (s x : Operand)
 (ho : o.op = .call { callee := .builtin .append, args := #[s, x], argTypes := #[135, 135] })
 (w0 : World) (B : Nat) (v : Value) (L : List SL) (hs : a.eval s = v) (HO : Hd (VL w0 w B v L)) (y : SL) (hy : BsF 0 w0 y)
 (ad : Addr) (c : Nat) (hx : a.eval x = .slice (some ad) 1 c) (HN : Hd (∀ j u, ([y.v] : List Value)[j]? = some u → w.cell? (ad.add j) = some u)) (hle : L.length ≤ 1048576) (hB : B ≤ w.heap.size)
 (h : ∀ g cap w', Hd (VL w0 w' B (.slice (some ⟨g, 0, none⟩) (L.length + 1) cap) (L ++ [y])) → Hd (Kp v w (.slice (some ⟨g, 0, none⟩) (L.length + 1) cap) w') → wpList Tryz.prog ops Q rest (a.put o.dst (.slice (some ⟨g, 0, none⟩) (L.length + 1) cap)) w') :
 wpList Tryz.prog ops Q (o :: rest) a w := by
 obtain ⟨i0, hi0, hzz⟩ := Option.map_eq_some_iff.1 Tryz.infoB23
 simp only [Prod.mk.injEq] at hzz
 obtain ⟨hi2, hi1, hi3⟩ := hzz
 refine wpList_append_lies _ hgd s x 135 ho B 23 i0 (.slice none 0 0) 1 24 Tryz.underlying135 hi0 hi2 hi1 hi3 rfl (by omega) v L.length (L.map SL.v) hs HO.o.own ad 1 c [y.v] hx rfl HN.o (fun u hu => by simp only [List.mem_cons, List.not_mem_nil, or_false] at hu; rw [hu]; rfl) (by omega) (by unfold maxLen; omega) (by omega) hB _ rfl ?_
 intro g cap w' hown hgr hat hlt
 refine h g cap w' ⟨?_, fun g' hg' => ?_, fun z hz => ?_⟩ ⟨hgr.os, hgr.tape, hgr.output, hgr.size, fun b hb hn => hgr.block b hb (fun e => hn e.symm), fun g' hg' => ?_⟩
 · rw [List.map_append, List.length_append]
   exact hown
 · have : g = g' := by simpa [Value.ownBlock] using hg'
   subst this
   rcases hown.2 with ⟨hv, _⟩ | ⟨g0, c0, cur, hv, hb, _⟩
   · cases hv
   cases hv; exact ⟨hb, hlt⟩
 · rcases List.mem_append.1 hz with hz | hz
   · exact HO.o.txt z hz
   rw [List.mem_singleton.1 hz]
   exact hy
 have : g = g' := by simpa [Value.ownBlock] using hg'
 subst this
 rcases hat with e | e
 · exact .inl e
 exact .inr (by rw [e]; exact nR)
theorem VQ.put {w0 w w9 : World} {B g : Nat} {v v9 : Value} {L L9 : List SL} (h : VQ w0 w B g v L) (hK : Kp v w v9 w9) (hV : VL w0 w9 B v9 L9) : VQ w0 (w9.setCell ⟨g, 0, none⟩ v9) B g v9 L9 ∧ KQ g v w v9 (w9.setCell ⟨g, 0, none⟩ v9) := by
 have hb := hK.block g h.lt h.ne
 have hc := (World.cell?_of_block (w := w) (a := ⟨g, 0, none⟩) hb).trans h.cell
 have hne : v9.ownBlock ≠ some g := fun e => by
  rcases hK.blk g e with e | e
  · exact h.ne e
  have := h.lt
  omega
 have hp : Past g w9 (w9.setCell ⟨g, 0, none⟩ v9) := (Past.refl g w9).set 0 _
 have hq := (KQ.of_kp hK).past hp
 refine ⟨⟨set_same hc, ?_, Nat.lt_of_lt_of_le h.lt hq.size, hV.keep hp.size (fun c hc' => hp.block c (hV.lo c hc').2 (fun e => hne (by rw [← e]; exact hc'))), hne, h.lo, h.gl, ?_, Nat.le_trans h.sz hq.size⟩, hq⟩
 · rw [World.frozen?_setCell]
   exact (World.frozen?_of_block (w := w) (a := ⟨g, 0, none⟩) hb).trans h.fr
 exact h.bl.trans (hq.low (fun c hc' => Nat.le_trans h.lo (h.vl.lo c hc').1) h.gl h.bl.size)
theorem add_any (v : Value) (L : List SL) (x : SL) (B g : Nat) (w0 w : World) (h : VQ w0 w B g v L) (hx : BsF 0 w0 x) (hn : L.length ≤ 1000000) :
 Calls Tryz.prog 120 #[.pointer (some ⟨g, 0, none⟩), .slice x.a x.len x.cap] w (AddQ w0 B g v (addV (L.map SL.b) x.b) w) := by
 have HLX := iH (nil_len hx.1.1)
 have HV := iH h
 have HX := iH hx
 have HAS := has_any v L x B w0 w h.vl h.bl hx (by omega)
 obtain ⟨a, cap, rfl, _⟩ := h.vl.form
 obtain ⟨n, hnn⟩ : ∃ n, n = L.length := ⟨_, rfl⟩
 have HN := iH hnn
 rw [← hnn] at HAS HV ⊢
 clear h hx hnn
 by_cases h0 : x.len = 0
 · have HR : Hd (addV (L.map SL.b) x.b = L.map SL.b) := (show addV _ _ = _ by unfold addV; rw [if_pos (.inl (HLX.o.2 h0))])
   clear HAS
   go_in
   go_wp2
   go_end0
   exact ⟨_, L, rfl, HV.o, HR.o.symm, KQ.of_below brf⟩
 have h0b : (0 : Int) < (x.len : Int) := by omega
 have h0c : 0 < x.len := by omega
 have H0 : Hd (¬ x.b = []) := fun e => h0 (HLX.o.1 e)
 have c0 := HV.o.cell
 clear h0
 go_in
 go_wp2_with fail
 refine HAS.mono ?_
 rintro e w1 ⟨q, rfl, hq, hb1⟩
 have HB1 := iH hb1
 clear HAS hb1 c0
 cases q with
 | true =>
  have HR := iH (show addV _ _ = _ by unfold addV; rw [if_pos (.inr (hq.1 rfl))])
  clear hq
  go_wp2
  go_end0
  exact ⟨_, L, rfl, HV.o.below HB1.o, HR.o.symm, KQ.of_below HB1.o⟩
 | false =>
  have HR : Hd (addV (L.map SL.b) x.b = (L ++ [x]).map SL.b) := (show addV _ _ = _ by
   unfold addV
   rw [if_neg (fun hh => by
    rcases hh with hh | hh
    · exact H0.o hh
    have := hq.2 hh
    cases this), List.map_append]
   rfl)
  clear hq
  have HV1 := iH (HV.o.below HB1.o)
  have HV2 := iH (fun o => HV1.o.below (bl_a o))
  have HO1 := iH (fun o => (HV2.o o).vl)
  have c1 := HV1.o.cell
  have HCL : Hd (∀ o v' w9, Kp (.slice a n cap) (w1.alloc o) v' w9 → w9.cell? ⟨g, 0, none⟩ = some (.slice a n cap) ∧ w9.frozen? ⟨g, 0, none⟩ = false) := fun o v' w9 hK => ⟨(World.cell?_of_block (w := w1.alloc o) (a := ⟨g, 0, none⟩) (hK.block g (HV2.o o).lt (HV2.o o).ne)).trans (HV2.o o).cell, (World.frozen?_of_block (w := w1.alloc o) (a := ⟨g, 0, none⟩) (hK.block g (HV2.o o).lt (HV2.o o).ne)).trans (HV2.o o).fr⟩
  have HNW : Hd (∀ j u, ([x.v] : List Value)[j]? = some u → (w1.alloc (.cells #[.slice x.a x.len x.cap] 23)).cell? ((⟨w1.heap.size, 0, none⟩ : Addr).add j) = some u) := by
   intro j u hu
   have h1 : (w1.alloc (.cells #[.slice x.a x.len x.cap] 23)).heap[w1.heap.size]? = some (.cells #[.slice x.a x.len x.cap] 23) := by
    show (w1.heap.push _)[w1.heap.size]? = _
    rw [Array.getElem?_push]
    simp
   exact World.news_of_block h1 j u hu
  have hle1 : L.length ≤ 1048576 := by have := HN.o; omega
  have hB1 := fun o => (HV2.o o).sz
  go_wp2_with (refine appQ rfl (.tmp 18) (.tmp 20) rfl w0 B (.slice a n cap) L rfl (HO1.o _) x HX.o ⟨w1.heap.size, 0, none⟩ 1 rfl HNW hle1 (hB1 _) ?_; intro g9 k9 w9 HO9 HK9; obtain ⟨cc9, ff9⟩ := HCL.o _ _ _ HK9.o)
  go_end0
  obtain ⟨r1, r2⟩ := (HV2.o _).put HK9.o HO9.o
  exact ⟨_, _, rfl, r1, HR.o.symm, (KQ.of_below (bl_trans HB1.o (bl_a _))).trans r2⟩
theorem store_stopV {ops : Array Oper} {rest : List Oper} {o : Oper} {a : Act} {Q : Exit → Act → World → Prop} {w : World} (ty : TypeId) (s x : Operand)
 (_ho : o.op = .store ty s x) (h : Hd (wpList Tryz.prog ops Q (o :: rest) a w)) : wpList Tryz.prog ops Q (o :: rest) a w := h
theorem wpv_at {P : Program} {ops : Array Oper} {rest : List Oper} {op : Oper} {a : Act} {w : World} {Q : Exit → Act → World → Prop} (h : wpList P ops Q (op :: rest) a w) : wpList P ops Q (op :: rest) a w := h
structure VW where
 va : Option Addr
 vc : Nat
 vn : Nat
 var : Nat → SL
 s : SO
structure VR (w W : World) (x : VW) : Prop where
 bl : Bl w W
 x : Box W w.heap.size [.slice x.va x.vn x.vc, .slice x.s.a x.s.n x.s.cap]
 r : Own4 W (w.heap.size + 1) (.int .i64 0) (.slice none 0 0) (.int .i64 0) (.int .i64 0)
end Go.Proofs.YtoloadogihbdeaaGreat
