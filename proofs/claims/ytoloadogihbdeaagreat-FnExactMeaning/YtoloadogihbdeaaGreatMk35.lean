import Derived.Test.YtoloadogihbdeaaGreatMk34
namespace Go.Proofs.YtoloadogihbdeaaGreat
open Go.RowKit Go.Deep
set_option maxHeartbeats 40000000
set_option maxRecDepth 100000
theorem wpq_stop {P : Program} {ops : Array Oper} {rest : List Oper} {op : Oper} {a : Act} {w : World} {Q : Exit → Act → World → Prop} (ty : TypeId) (x : Operand) (_ : op.op = .load ty x) (h : Hd (wpList P ops Q (op :: rest) a w)) : wpList P ops Q (op :: rest) a w := h
theorem isZeroI_any (x : IB) (w : World) (h : x.lies 0 w) : Calls Tryz.prog 185 #[.agg x.ar] w (Tells (zeroI x) w) := by
 try unfold IB.ar
 have HL := iH (nil_len h.1.1.1)
 have HZ := iH (fun W (hb : Bl w W) => isZeroT_any x.t W (h.2.1.upper (uB hb)))
 obtain ⟨P, hP⟩ : ∃ P, P = zeroI x := ⟨_, rfl⟩
 have HP : Hd (P ↔ (x.v.b = [] ∧ zeroT x.t.td)) := (show (P ↔ _) by rw [hP]; exact Iff.rfl)
 rw [← hP]
 clear h hP
 by_cases h2 : x.v.len = 0
 rotate_left
 · go_in
   go_wp2
   go_ret
   exact Tells.no (fun hp => h2 (HL.o.1 (HP.o.1 hp).1)) (bl_a _)
 have H3 := iH (HL.o.2 h2)
 have Z := HZ.o
 go_in
 go_wp2_with fail
 refine (Z _ (bl_a _)).mono ?_
 rintro e w1 ⟨q1, rfl, hq1, hb1⟩
 have HQ := iH (show (q1 = true ↔ P) from hq1.trans ⟨fun h => HP.o.2 ⟨H3.o, h⟩, fun h => (HP.o.1 h).2⟩)
 have HB := iH (bl_trans (bl_a _) hb1)
 clear Z hq1 hb1
 go_wp2
 go_ret
 exact Tells.of HQ.o HB.o
theorem isZeroP_any (x : PB) (w : World) (h : x.lies 0 w) : Calls Tryz.prog 172 #[.agg x.ar] w (Tells (zeroP x) w) := by
 try unfold PB.ar
 have HZ1 := iH (fun W (hb : Bl w W) => isZeroI_any x.s W (h.1.upper (uB hb)))
 have HZ2 := iH (fun W (hb : Bl w W) => isZeroI_any x.p W (h.2.1.upper (uB hb)))
 have HZ3 := iH (fun W (hb : Bl w W) => isZeroI_any x.o W (h.2.2.upper (uB hb)))
 obtain ⟨P, hP⟩ : ∃ P, P = zeroP x := ⟨_, rfl⟩
 have HP : Hd (P ↔ (zeroI x.s ∧ zeroI x.p ∧ zeroI x.o)) := (show (P ↔ _) by rw [hP]; exact Iff.rfl)
 rw [← hP]
 clear h hP
 go_in
 go_wp2_with fail
 refine (HZ1.o _ (bl_a _)).mono ?_
 rintro e w1 ⟨q1, rfl, hq1, hb1⟩
 have HX := iH ((Box.new w _ 39 (0, 0)).below hb1)
 have HB1 := iH (bl_trans (bl_a _) hb1)
 clear hb1 HZ1
 cases q1
 · have HNO : Hd (¬ P) := fun hh => by have h := hq1.2 (HP.o.1 hh).1; cases h
   clear hq1
   go_wp2
   go_ret
   exact Tells.no HNO.o HB1.o
 have H1 := iH (hq1.1 rfl)
 have lr : w1.rangeAt w.heap.size 5 x.p.cl := HX.o.range 5 _ rfl
 clear hq1
 go_wp2_with (with_reducible refine wpq_at ?_; refine wpq_stop 37 _ rfl ?_)
 change wpList _ _ _ _ _ _
 refine wpq_load ?hw 37 _ rfl w.heap.size 5 rfl _ _ lr Tryz.underlying37 rfl (by kernel_rfl) ?_
 case hw => rfl
 simp only [Act.put, sA, zA, cA]
 go_wp2_with fail
 refine (HZ2.o _ HB1.o).mono ?_
 rintro e w2 ⟨q2, rfl, hq2, hb2⟩
 have HX2 := iH (HX.o.below hb2)
 have HB2 := iH (bl_trans HB1.o hb2)
 clear hb2 HZ2 HB1 lr HX
 cases q2
 · have HNO : Hd (¬ P) := fun hh => by have h := hq2.2 (HP.o.1 hh).2.1; cases h
   clear hq2
   go_wp2
   go_ret
   exact Tells.no HNO.o HB2.o
 have H2 := iH (hq2.1 rfl)
 have lr : w2.rangeAt w.heap.size 10 x.o.cl := HX2.o.range 10 _ rfl
 clear hq2
 go_wp2_with (with_reducible refine wpq_at ?_; refine wpq_stop 37 _ rfl ?_)
 change wpList _ _ _ _ _ _
 refine wpq_load ?hw 37 _ rfl w.heap.size 10 rfl _ _ lr Tryz.underlying37 rfl (by kernel_rfl) ?_
 case hw => rfl
 simp only [Act.put, sA, zA, cA]
 go_wp2_with fail
 refine (HZ3.o _ HB2.o).mono ?_
 rintro e w3 ⟨q3, rfl, hq3, hb3⟩
 have HB3 := iH (bl_trans HB2.o hb3)
 have HQ := iH (show (q3 = true ↔ P) from hq3.trans ⟨fun h => HP.o.2 ⟨H1.o, H2.o, h⟩, fun h => (HP.o.1 h).2.2⟩)
 clear hb3 hq3 lr HX2
 go_wp2
 go_ret
 exact Tells.of HQ.o HB3.o
theorem isWithin_tells (n a b : Int) (w : World) : Calls Tryz.prog 150 #[.int .i64 n, .int .i64 a, .int .i64 b] w (Tells (a ≤ n ∧ n ≤ b) w) := by
 obtain ⟨P, hP⟩ : ∃ P, P = (a ≤ n ∧ n ≤ b) := ⟨_, rfl⟩
 have HP := iH (show (P ↔ _) by rw [hP])
 rw [← hP]
 clear hP
 by_cases h1 : a ≤ n
 · by_cases h2 : n ≤ b
   · go_in
     go_wp2
     go_ret
     exact Tells.of ⟨fun _ => HP.o.2 ⟨h1, h2⟩, fun _ => by simp; try omega⟩ brf
   go_in
   go_wp2
   go_ret
   refine Tells.of ⟨fun h => ?_, fun hp => by have := (HP.o.1 hp).2; omega⟩ brf
   exfalso
   simp at h
   try omega
 go_in
 go_wp2
 go_ret
 exact Tells.no (fun hp => by have := (HP.o.1 hp).1; omega) brf
def qKids (k : Int) : Int := if k = 1 ∨ k = 2 ∨ k = 3 ∨ k = 4 then 2 else if k = 0 ∨ k = 5 ∨ k = 6 then 1 else 0
theorem planKidCount_any (k : Int) (w : World) : Calls Tryz.prog 149 #[.int .i64 k] w fun e w' => e = .returned (.int .i64 (qKids k)) ∧ w' = w := by
 go_enter Tryz.func149, Tryz.ntmps149
 go_wp2
 all_goals go_ret
 all_goals refine ⟨?_, rfl⟩
 all_goals (unfold qKids; simp_all)
theorem hasExprP_any (d : PN) (w : World) : Calls Tryz.prog 126 #[.agg d.ar] w (Tells (hasE d.k) w) := by
 try unfold PN.ar
 obtain ⟨P, hP⟩ : ∃ P, P = hasE d.k := ⟨_, rfl⟩
 have HP : Hd (P ↔ (d.k = 2 ∨ d.k = 5 ∨ d.k = 6)) := (show (P ↔ _) by rw [hP]; exact Iff.rfl)
 rw [← hP]
 clear hP
 have x0 : (w.alloc (.cells d.ar 46)).cell? ⟨w.heap.size, 0, none⟩ = some (.int .i64 d.k) := (Box.new w d.ar 46 (0, 0)).2 0 _ rfl
 have HB : Hd (Bl w (w.alloc (.cells d.ar 46))) := bl_a _
 go_enter Tryz.func126, Tryz.ntmps126
 go_upto_region 1 with fail
 generalize (w.alloc (.cells d.ar 46)) = W1 at *
 by_cases h2 : d.k = 2
 · have HY : Hd P := HP.o.2 (by omega)
   go_wp2
   go_ret
   exact Tells.yes HY.o HB.o
 by_cases h5 : d.k = 5
 · have HY : Hd P := HP.o.2 (by omega)
   go_wp2
   go_ret
   exact Tells.yes HY.o HB.o
 by_cases h6 : d.k = 6
 · have HY : Hd P := HP.o.2 (by omega)
   go_wp2
   go_ret
   exact Tells.yes HY.o HB.o
 have HN : Hd (¬ P) := fun hh => by have := HP.o.1 hh; omega
 go_wp2
 go_ret
 refine Tells.of ⟨fun h => ?_, fun hp => absurd hp HN.o⟩ HB.o
 exfalso
 simp at h
 omega
def BareP (d : PN) : Prop := d.ord = 0 ∧ zeroP d.p ∧ zeroE d.e ∧ d.v.b = [] ∧ d.tb = []
theorem BareP.mk {d : PN} (h0 : d.ord = 0) (h1 : zeroP d.p) (h2 : zeroE d.e) (h3 : d.v.b = []) (h4 : d.tb = []) : BareP d := And.intro h0 (And.intro h1 (And.intro h2 (And.intro h3 h4)))
theorem isBareP_any (d : PN) (w : World) (hp : d.p.lies 0 w) (he : d.e.lies 0 w) (hv : BsF 0 w d.v) : Calls Tryz.prog 154 #[.agg d.ar] w (Tells (BareP d) w) := by
 try unfold PN.ar
 have HL : Hd (d.v.b = [] ↔ d.v.len = 0) := nil_len hv.1.1
 have HZP : Hd (∀ W, Bl w W → Cl 172 #[.agg d.p.ar] W (Tells (zeroP d.p) W)) := fun W hb => isZeroP_any d.p W (hp.upper (uB hb))
 have HZ : Hd (∀ W, Bl w W → Cl 173 #[.agg d.e.d.ar] W (Tells (zeroE d.e) W)) := fun W hb => isZeroE_any d.e W (ET.lies.upper (uB hb) he)
 obtain ⟨P, hP⟩ : ∃ P, P = BareP d := ⟨_, rfl⟩
 have HP : Hd (P ↔ (d.ord = 0 ∧ zeroP d.p ∧ zeroE d.e ∧ d.v.b = [] ∧ d.tb = [])) := (show (P ↔ _) by rw [hP]; exact Iff.rfl)
 rw [← hP]
 obtain ⟨nt, hnt⟩ : ∃ nt, nt = d.tb.length := ⟨_, rfl⟩
 rw [← hnt]
 have HT : Hd (d.tb = [] ↔ nt = 0) := (show (_ ↔ _) by rw [hnt]; exact tb_nil)
 clear he hv hp hP hnt
 have HX : Hd (Box (w.alloc (.cells (wA d.k d.ord d.p d.e.d d.v (.slice d.ta nt d.tc) (.slice d.ka d.n d.kc)) 46)) w.heap.size (cellsT d d.k nt)) := Box.new w (wA d.k d.ord d.p d.e.d d.v (.slice d.ta nt d.tc) (.slice d.ka d.n d.kc)) 46 (0, 0)
 have HB : Hd (Bl w (w.alloc (.cells (wA d.k d.ord d.p d.e.d d.v (.slice d.ta nt d.tc) (.slice d.ka d.n d.kc)) 46))) := bl_a _
 go_enter Tryz.func154, Tryz.ntmps154
 go_upto_region 1 with fail
 generalize (w.alloc (.cells (wA d.k d.ord d.p d.e.d d.v (.slice d.ta nt d.tc) (.slice d.ka d.n d.kc)) 46)) = W1 at *
 have x1 := HX.o.2 1 _ rfl
 by_cases h1 : d.ord = 0
 rotate_left
 · go_wp2
   go_ret
   exact Tells.no (fun hp => h1 (HP.o.1 hp).1) HB.o
 have H1 : Hd (d.ord = 0) := h1
 have he1 : (d.ord == 0) = true := by simp [h1]
 have lr : W1.rangeAt w.heap.size 2 d.p.cl := HX.o.range 2 _ rfl
 clear h1
 go_wp2_with (with_reducible refine wpq_at ?_; refine wpq_stop 39 _ rfl ?_)
 change wpList _ _ _ _ _ _
 refine wpq_load ?hw 39 _ rfl w.heap.size 2 rfl d.p.cl _ lr Tryz.underlying39 rfl (by kernel_rfl) ?_
 case hw => rfl
 simp only [Act.put, sA, zA, cA]
 go_wp2_with fail
 refine (HZP.o _ HB.o).mono ?_
 rintro e w1 ⟨q1, rfl, hq1, hb1⟩
 have HX1 : Hd (Box w1 w.heap.size (cellsT d d.k nt)) := HX.o.below hb1
 have HB1 : Hd (Bl w w1) := bl_trans HB.o hb1
 clear hb1 HX HB lr x1 he1
 cases q1
 · have HNO : Hd (¬ P) := fun hh => by have h := hq1.2 (HP.o.1 hh).2.1; cases h
   clear hq1
   go_wp2
   go_ret
   exact Tells.no HNO.o HB1.o
 have HP1 : Hd (zeroP d.p) := hq1.1 rfl
 have lr : w1.rangeAt w.heap.size 17 d.e.d.cl := HX1.o.range 17 _ rfl
 clear hq1
 go_wp2_with (with_reducible refine wpq_at ?_; refine wpq_stop 42 _ rfl ?_)
 change wpList _ _ _ _ _ _
 refine wpq_load ?hw 42 _ rfl w.heap.size 17 rfl d.e.d.cl _ lr Tryz.underlying42 rfl (by kernel_rfl) ?_
 case hw => rfl
 simp only [Act.put, sA, zA, cA]
 go_wp2_with fail
 refine (HZ.o _ HB1.o).mono ?_
 rintro e w2 ⟨q2, rfl, hq2, hb2⟩
 have HX2 : Hd (Box w2 w.heap.size (cellsT d d.k nt)) := HX1.o.below hb2
 have HB2 : Hd (Bl w w2) := bl_trans HB1.o hb2
 clear hb2 HX1 HB1 lr
 cases q2
 · have HNO : Hd (¬ P) := fun hh => by have h := hq2.2 (HP.o.1 hh).2.2.1; cases h
   clear hq2
   go_wp2
   go_ret
   exact Tells.no HNO.o HB2.o
 have HE : Hd (zeroE d.e) := hq2.1 rfl
 clear hq2
 have x25 := HX2.o.2 25 _ rfl
 have x26 := HX2.o.2 26 _ rfl
 by_cases h2 : d.v.len = 0
 rotate_left
 · go_wp2
   go_ret
   exact Tells.no (fun hp => h2 (HL.o.1 (HP.o.1 hp).2.2.2.1)) HB2.o
 by_cases h3 : nt = 0
 rotate_left
 · go_wp2
   go_ret
   refine Tells.of ⟨fun h => ?_, fun hp => absurd (HT.o.1 (HP.o.1 hp).2.2.2.2) h3⟩ HB2.o
   exfalso
   simp at h
   omega
 have HY : Hd P := HP.o.2 ⟨H1.o, HP1.o, HE.o, HL.o.2 h2, HT.o.2 h3⟩
 go_wp2
 go_ret
 exact Tells.yes HY.o HB2.o
structure HasP (d : PN) : Prop where
 k0 : 0 ≤ d.k
 k8 : d.k ≤ 8
 o0 : 0 ≤ d.ord
 o5 : d.ord ≤ 5
 n : d.n = kidsP d.k
 p1 : d.k = 0 → ptOk d.p
 p0 : d.k ≠ 0 → zeroP d.p
 oz : d.k ≠ 0 → d.ord = 0
 t0 : d.k ≠ 7 → d.tb = []
 tn : d.tb.length ≤ 8
 e0 : ¬ hasE d.k → zeroE d.e
 v1 : hasV d.k → nameOk d.v.b = true
 v0 : ¬ hasV d.k → d.v.b = []
 tm : ∀ x ∈ d.tb, x.td.ok = true
theorem HasP.node {d : PN} : NodeP d ↔ HasP d ∧ (hasE d.k → eOk 120 d.e 1) :=
 ⟨fun h => ⟨⟨h.k0, h.k8, h.o0, h.o5, h.n, h.p1, h.p0, h.oz, h.t0, h.tn, h.e0, h.v1, h.v0, h.tm⟩, h.e1⟩, fun h => ⟨h.1.k0, h.1.k8, h.1.o0, h.1.o5, h.1.n, h.1.p1, h.1.p0, h.1.oz, h.1.t0, h.1.tn, h.2, h.1.e0, h.1.v1, h.1.v0, h.1.tm⟩⟩
def IB0 : IB := ⟨⟨none, 0, 0, []⟩, ⟨⟨0, none, 0, 0, 0, 0⟩, []⟩⟩
def PB0 : PB := ⟨IB0, IB0, IB0⟩
theorem IB0_lies (w : World) : IB0.lies 0 w := ⟨bs_nil w, bs_nil w, ⟨by decide, by decide, by decide, by decide⟩⟩
theorem PB0_lies (w : World) : PB0.lies 0 w := ⟨IB0_lies w, IB0_lies w, IB0_lies w⟩
theorem IB0_zero : zeroI IB0 := ⟨rfl, zeroT0⟩
theorem PB0_zero : zeroP PB0 := ⟨IB0_zero, IB0_zero, IB0_zero⟩
theorem oneE : (zEa : Array Value).all (·.oneCell') = true := all_oneCell_toArray (cs := zEl) (by simp [Value.oneCell'])
theorem oneP : (zPa : Array Value).all (·.oneCell') = true := all_oneCell_toArray (cs := zPl) (by simp [Value.oneCell'])
theorem PN.one (d : PN) : d.cells.toArray.all (·.oneCell') = true := all_oneCell_toArray (cs := d.cells) (by intro v hv; unfold PN.cells at hv; simp only [List.mem_cons, List.not_mem_nil, or_false] at hv; rcases hv with rfl | rfl | rfl | rfl | rfl | rfl | rfl | rfl | rfl | rfl | rfl | rfl | rfl | rfl | rfl | rfl | rfl | rfl | rfl | rfl | rfl | rfl | rfl | rfl | rfl | rfl | rfl | rfl <;> rfl)
theorem setL_eq : ∀ (vs L : List Value) (o : Nat), o + vs.length ≤ L.length → setL L o vs = L.take o ++ (vs ++ L.drop (o + vs.length))
 | [], L, o, _ => by simp [setL]
 | v :: r, L, o, h => by
  have hl : o + 1 + r.length ≤ L.length := by simp only [List.length_cons] at h; omega
  have ho : o < L.length := by omega
  have ih := setL_eq r (L.set o v) (o + 1) (by simpa using hl)
  show setL (L.set o v) (o + 1) r = _
  rw [ih]
  have e1 : (L.set o v).take (o + 1) = L.take o ++ [v] := by
   rw [List.set_eq_take_append_cons_drop, if_pos ho, show o + 1 = (L.take o).length + 1 by simp; omega, List.take_length_add_append]
   rfl
  have e2 : (L.set o v).drop (o + 1 + r.length) = L.drop (o + 1 + r.length) := by
   apply List.drop_set_of_lt
   omega
  rw [e1, e2, show o + (v :: r).length = o + 1 + r.length by simp only [List.length_cons]; omega]
  simp
theorem OB.put {w : World} {b : Nat} {L : List Value} (h : OB w b L) (vs : List Value) (o : Nat) (L' : List Value) (hl : o + vs.length ≤ L.length) (e : L.take o ++ (vs ++ L.drop (o + vs.length)) = L') : OB (w.setCells b o vs) b L' := by
 have := h.sets vs o
 rwa [setL_eq vs L o hl, e] at this
theorem OwnCC.but {ty : TypeId} {sz : Nat} {w w' : World} {B : Nat} {v : Value} {n g : Nat} {C : Nat → List Value} (h : OwnCC ty sz w B v n C) (hb : But g w w') (hg : g < B) : OwnCC ty sz w' B v n C := by
 obtain ⟨⟨h1, h2⟩, hl, hk⟩ := h
 refine ⟨⟨h1, ?_⟩, hl, fun g' hg' => by rw [hb.size]; exact hk g' hg'⟩
 rcases h2 with h2 | ⟨g', cap', cur, hv, hB, hh, r⟩
 · exact .inl h2
 refine .inr ⟨g', cap', cur, hv, hB, ?_, r⟩
 rw [hb.block g' (by omega)]
 exact hh
theorem Stay.refl (L : List Nat) (w : World) : Stay L w w := ⟨fun _ _ => rfl, nR⟩
theorem Stay.trans {L : List Nat} {w w' w'' : World} (h : Stay L w w') (k : Stay L w' w'') : Stay L w w'' := ⟨fun q hq => (k.1 q hq).trans (h.1 q hq), Nat.le_trans h.2 k.2⟩
theorem Stay.below {L : List Nat} {M : Nat} {w w' : World} (hb : Below M w w') (hL : ∀ q ∈ L, q < M) : Stay L w w' := ⟨fun q hq => hb.block q (hL q hq), hb.size⟩
theorem Stay.but {L : List Nat} {g : Nat} {w w' : World} (hb : But g w w') (hg : ∀ q ∈ L, q ≠ g) : Stay L w w' := ⟨fun q hq => hb.block q (hg q hq), by rw [hb.size]; exact nR⟩
theorem Stay.grown {L : List Nat} {o : Option Nat} {w w' : World} (hg : w.grownBy w' o) (hL : ∀ q ∈ L, q < w.heap.size) (ho : ∀ g, o = some g → g ∉ L) : Stay L w w' := ⟨fun q hq => hg.block q (hL q hq) (fun e => ho q e.symm hq), hg.size⟩
theorem OB.bel8 {w w' : World} {b B : Nat} {L : List Value} (h : OB w b L) (hb : Below B w w') (hB : b < B) : OB w' b L := ⟨Nat.lt_of_lt_of_le h.1 hb.size, fun c u hu => ⟨(hb.cell (p := ⟨b, c, none⟩) hB).trans (h.2 c u hu).1, (hb.frozen (p := ⟨b, c, none⟩) hB).trans (h.2 c u hu).2⟩⟩
theorem Box.bel8 {w w' : World} {b B : Nat} {L : List Value} (h : Box w b L) (hb : Below B w w') (hB : b < B) : Box w' b L := ⟨Nat.lt_of_lt_of_le h.1 hb.size, fun c u hu => (hb.cell (p := ⟨b, c, none⟩) hB).trans (h.2 c u hu)⟩
structure Gath {α : Type} (c : α → List Value) (fp : α → List Nat) (ok : α → World → Prop) (ty : TypeId) (sz M gz ix : Nat) (L0 : List Value) (FP : List Nat) (w0 wx W : World) (v : Value) (j : Nat) (k : Nat → α) : Prop where
 bel : Bl w0 W
 box : OB W gz (L0.set ix v)
 own : OwnCC ty sz W M v j (fun i => c (k i))
 cp : Cp M W.heap.size (catB (fun i => fp (k i)) j)
 o : ∀ g, v.ownBlock = some g → g ∉ catB (fun i => fp (k i)) j
 ok : ∀ i, i < j → ok (k i) W
 st : Stay FP wx W
 g0 : w0.heap.size ≤ gz
 gM : gz < M
 hM : M ≤ W.heap.size
 fM : ∀ q ∈ FP, q < M ∧ q ≠ gz
structure GathY {α : Type} (c : α → List Value) (fp : α → List Nat) (ok : α → World → Prop) (ty : TypeId) (sz M gz ix : Nat) (L0 : List Value) (FP : List Nat) (w0 wx W : World) (v : Value) (j : Nat) (k : Nat → α) (y : α) : Prop where
 g : Gath c fp ok ty sz M gz ix L0 FP w0 wx W v j k
 oky : ok y W
 cpy : Cp M W.heap.size (catB (fun i => fp (k i)) j ++ fp y)
 outy : ∀ g, v.ownBlock = some g → g ∉ catB (fun i => fp (k i)) j ++ fp y
section
variable {α : Type} {c : α → List Value} {fp : α → List Nat} {ok : α → World → Prop} {ty : TypeId} {sz M gz ix : Nat} {L0 : List Value} {FP : List Nat} {w0 wx W N : World} {v : Value} {j : Nat} {k : Nat → α}
theorem Gath.below (K : ∀ x w w', ok x w → Stay (fp x) w w' → ok x w') (h : Gath c fp ok ty sz M gz ix L0 FP w0 wx W v j k) (hb : Bl W N) : Gath c fp ok ty sz M gz ix L0 FP w0 wx N v j k :=
 ⟨bl_trans h.bel hb, h.box.below hb, h.own.below hb, h.cp.mono nR hb.size, h.o, fun i hi => K _ _ _ (h.ok i hi) (Stay.below hb fun q hq => (h.cp.i q (catB_mem (f := fun i => fp (k i)) hi hq)).2), h.st.trans (Stay.below hb fun q hq => Nat.lt_of_lt_of_le (h.fM q hq).1 h.hM), h.g0, h.gM, Nat.le_trans h.hM hb.size, h.fM⟩
theorem Gath.call (K : ∀ x w w', ok x w → Stay (fp x) w w' → ok x w') (h : Gath c fp ok ty sz M gz ix L0 FP w0 wx W v j k) (hb : Bl W N) {y : α} (hy : ok y N) (hc : Cp W.heap.size N.heap.size (fp y)) : GathY c fp ok ty sz M gz ix L0 FP w0 wx N v j k y := by
 refine ⟨h.below K hb, hy, h.cp.app hc h.hM hb.size, fun g hg hm => ?_⟩
 rcases List.mem_append.1 hm with hm | hm
 · exact h.o g hg hm
 have := (hc.i g hm).1
 have := (h.own.blk g hg).2
 omega
theorem GathY.below (K : ∀ x w w', ok x w → Stay (fp x) w w' → ok x w') {y : α} (h : GathY c fp ok ty sz M gz ix L0 FP w0 wx W v j k y) (hb : Bl W N) : GathY c fp ok ty sz M gz ix L0 FP w0 wx N v j k y :=
 ⟨h.g.below K hb, K _ _ _ h.oky (Stay.below hb fun q hq => (h.cpy.i q (List.mem_append_right _ hq)).2), h.cpy.mono nR hb.size, h.outy⟩
theorem GathY.add (K : ∀ x w w', ok x w → Stay (fp x) w w' → ok x w') {y : α} (h : GathY c fp ok ty sz M gz ix L0 FP w0 wx W v j k y) {w9 : World} {g9 c9 : Nat} {kn : Nat → α} (hk1 : ∀ i, i < j → kn i = k i) (hk2 : kn j = y)
 (ho : OwnCC ty sz w9 M (.slice (some ⟨g9, 0, none⟩) (j + 1) c9) (j + 1) (fun i => c (kn i))) (hat : v.ownBlock = some g9 ∨ g9 = W.heap.size) (hgr : W.grownBy w9 v.ownBlock) (hb9 : Below M W w9) :
 Gath c fp ok ty sz M gz ix L0 FP w0 wx (w9.setCell ⟨gz, ix, none⟩ (.slice (some ⟨g9, 0, none⟩) (j + 1) c9)) (.slice (some ⟨g9, 0, none⟩) (j + 1) c9) (j + 1) kn := by
 have hB : But gz w9 (w9.setCell ⟨gz, ix, none⟩ (.slice (some ⟨g9, 0, none⟩) (j + 1) c9)) := (But.refl gz w9).set ix _
 have e : catB (fun i => fp (kn i)) (j + 1) = catB (fun i => fp (k i)) j ++ fp y := by
  show catB (fun i => fp (kn i)) j ++ fp (kn j) = _
  rw [catB_congr (f := fun i => fp (k i)) fun i hi => (by show fp (kn i) = _; rw [hk1 i hi]), hk2]
 have hs := hgr.size
 have h0 := h.g.g0
 have hM := h.g.gM
 have hst : ∀ L : List Nat, (∀ q ∈ L, M ≤ q ∧ q < W.heap.size) → (∀ g, v.ownBlock = some g → g ∉ L) → Stay L W (w9.setCell ⟨gz, ix, none⟩ (.slice (some ⟨g9, 0, none⟩) (j + 1) c9)) := fun L h1 h2 => (Stay.grown hgr (fun q hq => (h1 q hq).2) h2).trans (Stay.but hB fun q hq => by have := (h1 q hq).1; omega)
 refine ⟨bl_set (h.g.bel.trans (hb9.mono (by omega))) (by show w0.heap.size ≤ gz; exact h0) _, ?_, ho.but hB hM, ?_, fun g hg hm => ?_, fun i hi => ?_, (h.g.st.trans (Stay.below hb9 fun q hq => (h.g.fM q hq).1)).trans (Stay.but hB fun q hq => (h.g.fM q hq).2), h0, hM, by rw [hB.size]; exact Nat.le_trans h.g.hM hs, h.g.fM⟩
 · have h5 := (h.g.box.bel8 hb9 hM).set ix (.slice (some ⟨g9, 0, none⟩) (j + 1) c9)
   rwa [List.set_set] at h5
 · rw [e, hB.size]
   exact h.cpy.mono nR hs
 · have eg : g9 = g := by simpa [Value.ownBlock] using hg
   subst eg
   rw [e] at hm
   rcases hat with hat | hat
   · exact h.outy g9 hat hm
   have := (h.cpy.i g9 hm).2
   omega
 by_cases ej : i = j
 · rw [ej, hk2]
   exact K _ _ _ h.oky (hst _ (fun q hq => h.cpy.i q (List.mem_append_right _ hq)) fun g hg hm => h.outy g hg (List.mem_append_right _ hm))
 have hi2 : i < j := by omega
 rw [hk1 i hi2]
 exact K _ _ _ (h.g.ok i hi2) (hst _ (fun q hq => h.g.cp.i q (catB_mem (f := fun i => fp (k i)) hi2 hq)) fun g hg hm => h.g.o g hg (catB_mem (f := fun i => fp (k i)) hi2 hm))
theorem Gath.fin (h : Gath c fp ok ty sz M gz ix L0 FP w0 wx W v j k) :
 ∃ a cap, v = .slice a j cap ∧ j ≤ cap ∧ KRow M W sz a j (fun i => c (k i)) ∧ RoZ M W a j sz ∧ Cp M W.heap.size (rfp a j ++ catB (fun i => fp (k i)) j) := by
 have ho := h.own
 obtain ⟨a, cap, rfl, hK, hZ, hc, hg⟩ := h.own.form
 refine ⟨a, cap, rfl, hc, hK, hZ, ?_⟩
 unfold rfp
 by_cases h0 : j = 0
 · rw [if_pos h0]
   exact h.cp
 rw [if_neg h0]
 rcases hZ with hz | ⟨g, rfl, _⟩
 · exact absurd hz h0
 have hb := ho.blk g rfl
 refine ⟨List.nodup_cons.2 ⟨h.o g rfl, h.cp.nd⟩, fun b hb' => ?_⟩
 rcases List.mem_cons.1 hb' with e | e
 · rw [e]; exact hb
 exact h.cp.i b e
theorem Gath.nil (hb : Bl w0 W) (ho : OB W gz (L0.set ix (.slice none 0 0))) (h0 : w0.heap.size ≤ gz) (hF : ∀ q ∈ FP, q < W.heap.size ∧ q ≠ gz) : Gath c fp ok ty sz W.heap.size gz ix L0 FP w0 W W (.slice none 0 0) 0 k :=
 ⟨hb, ho, OwnCC.nil _ _ _ _ _, Cp.nil _ _, (fun g h => by cases h), (fun i hi => absurd hi nN), Stay.refl _ _, h0, ho.1, nR, hF⟩
end
theorem okET (M : Nat) (x : ET) (w w' : World) (h : x.ow M w) (k : Stay x.fp w w') : x.ow M w' := h.keep k
theorem stepCC {ops : Array Oper} {o : Oper} {a : Act} {K : Act → World → Prop} {Q : Exit → Act → World → Prop} {w : World} {E : Prop} (s x : Operand) (dd : Nat) (t ty : TypeId) (sz by_ : Nat) (z : Value)
 (ht : Tryz.prog.underlying t = some (.slice ty)) (hin : (Tryz.prog.info? ty).map (fun i => (i.zero, i.size, i.bytes)) = some (some z, sz, by_)) (B : Nat) (v : Value) (n : Nat) (C : Nat → List Value) (HO : Hd (OwnCC ty sz w B v n C))
 (ad : Addr) (c : Nat) (cs : List Value) (HN : Hd (∀ j u, cs[j]? = some u → w.cell? (ad.add j) = some u)) (h1 : ∀ u ∈ cs, u.oneCell' = true) (hle : n ≤ 1048576) (hB : B ≤ w.heap.size) (C' : Nat → List Value) (hC : Hd (∀ i, i < n → C' i = C i)) (hCn : Hd (C' n = cs))
 (h : ∀ g cap w', Hd (OwnCC ty sz w' B (.slice (some ⟨g, 0, none⟩) (n + 1) cap) (n + 1) C') → Hd (v.ownBlock = some g ∨ g = w.heap.size) → Hd (w.grownBy w' v.ownBlock) → Hd (Below B w w') → K (a.put (some dd) (.slice (some ⟨g, 0, none⟩) (n + 1) cap)) w')
 (hgd : o.guard = none := by rfl) (hdd : o.dst = some dd := by rfl) (ho : o.op = .call { callee := .builtin .append, args := #[s, x], argTypes := #[t, t] } := by rfl) (hs : a.eval s = v := by rfl) (hx : a.eval x = .slice (some ad) 1 c := by rfl) (hl : cs.length = sz := by rfl) (hzs : z.cells.size = sz := by rfl) (hsz : 0 < sz := by omega) (hby : by_ ≤ 1000 := by omega) :
 if Region.wanted o (yielded ops a.tmps) = true then Oper.wp Tryz.prog o a w K Q else E := by
 have hw : Region.wanted o (yielded ops a.tmps) = true := by simp [Region.wanted, hgd]
 rw [if_pos hw]
 obtain ⟨i0, hi0, hzz⟩ := Option.map_eq_some_iff.1 hin
 simp only [Prod.mk.injEq] at hzz
 obtain ⟨hi2, hi1, hi3⟩ := hzz
 have hb2 : (n + 1) * by_ ≤ (n + 1) * 1000 := Nat.mul_le_mul_left _ hby
 refine wp_append_lies _ s x t ho B ty i0 z sz by_ ht hi0 hi2 hi1 hi3 hzs hsz v n (catV C n) hs HO.o.row ad 1 c cs hx (by rw [hl, Nat.one_mul]) HN.o h1 (by omega) (by unfold maxLen; omega) (by omega) hB _ rfl ?_
 intro g cap w' hown hgr hat hlt
 have e : catV C' (n + 1) = catV C n ++ cs := by
  show catV C' n ++ C' n = _
  rw [catV_congr hC.o, hCn.o]
 rw [hdd]
 refine h g cap w' ⟨by rw [e]; exact hown, fun i hi => ?_, fun g' hg' => ?_⟩ hat hgr ?_
 · by_cases en : i = n
   · rw [en, hCn.o, hl]
   rw [hC.o i (by omega)]
   exact HO.o.len i (by omega)
 · have : g = g' := by simpa [Value.ownBlock] using hg'
   subst this
   rcases hown.2 with ⟨hv, _⟩ | ⟨g0, c0, cur, hv, hb, _⟩
   · cases hv
   cases hv; exact ⟨hb, hlt⟩
 refine ⟨hgr.os, hgr.tape, hgr.output, hgr.size, fun b hb => hgr.block b (by omega) fun e => ?_⟩
 have := (HO.o.blk b e.symm).1
 omega
end Go.Proofs.YtoloadogihbdeaaGreat
