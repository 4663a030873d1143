import Derived.Test.YtoloadogihbdeaaGreatMk16
namespace Go.Proofs.YtoloadogihbdeaaGreat
open Go.RowKit Go.Deep
set_option maxHeartbeats 40000000
set_option maxRecDepth 100000
structure QuadY (B : Nat) (w : World) (g : Nat) (y0 : PB) (y1 : ET) (y2 : SL) (y3 : TR) : Prop where
 o0 : y0.own B w
 o1 : y1.ow B w
 o2 : y2.own B w
 o3 : y3.own B w
 cp : Cp B w.heap.size (y0.fp ++ y1.fp ++ y2.fp ++ tfp y3.a y3.l)
 n : g ∉ y0.fp ++ y1.fp ++ y2.fp ++ tfp y3.a y3.l
theorem okPT (M : Nat) (x : PT) (w w' : World) (h : x.ow M w) (k : Stay x.fp w w') : x.ow M w' := h.keep k
theorem planOut {B g : Nat} {w w' : World} {y0 : PB} {y1 : ET} {y2 : SL} {y3 : TR} (h0 : y0.own B w) (h1 : y1.ow B w) (h2 : y2.own B w) (h3 : y3.own B w) (hb : But g w w') (hc : Cp B w.heap.size (y0.fp ++ y1.fp ++ y2.fp ++ tfp y3.a y3.l)) (hn : ∀ q ∈ y0.fp ++ y1.fp ++ y2.fp ++ tfp y3.a y3.l, q ≠ g) : QuadY B w' g y0 y1 y2 y3 := by
 have hs := Stay.but hb hn;exact ⟨h0.keep hs.left.left.left, h1.keep hs.left.left.right, h2.keep hs.left.right, h3.keep hs.right, by rw [hb.size]; exact hc, fun h => hn g h rfl⟩
theorem l7own_of (d : PN) (kid : Nat → PT) (w : World) (h : (PT.mk d kid).lies 0 w)
 (IH : ∀ i, i < d.n → ∀ W, Bl w W → Calls Tryz.prog 30 #[.agg (kid i).d.ar] W fun r w' => ∃ y : PT, r = .returned (.agg y.d.ar) ∧ y.ow W.heap.size w' ∧ Cp W.heap.size w'.heap.size y.fp ∧ (kid i).same y ∧ Bl W w') :
 Calls Tryz.prog 30 #[.agg d.ar] w fun r w' => ∃ y : PT, r = .returned (.agg y.d.ar) ∧ y.ow w.heap.size w' ∧ Cp w.heap.size w'.heap.size y.fp ∧ (PT.mk d kid).same y ∧ Bl w w' := by
 try unfold PN.ar PN.cl
 obtain ⟨hp, he, hv, ht, htn, hn, hR, hk⟩ := h;have HPX := iH (fun W (hb : Bl w W) => l4ownP d.p W (hp.upper (uB hb)));have HEX := iH (fun W (hb : Bl w W) => l4ownE d.e W (ET.lies.upper (uB hb) he));have HV := iH hv;have HTS := iH (fun W (hb : Bl w W) => l4ownTs d.ta d.tc d.tb W htn (ht.upper (uB hb)));have HI := iH IH;have HN0 := iH hn;have HTN := iH htn;have HR := iH hR;have HX := iH ((Box.new w d.ar 46 (0, 0)).below (bl_a (.cells zNa 46)));have HO := iH (show OB _ _ _ by have h := OB.new (w.alloc (.cells d.ar 46)) zNa 46; simpa using h);have HB : Hd (Bl w ((w.alloc (.cells d.ar 46)).alloc (.cells zNa 46))) := bl_alloc (bl_a _) _;clear hp he hv ht htn hn hR hk IH;go_in;go_upto_region 1 with fail
 generalize ((w.alloc _).alloc _) = W1 at *;have HG := iH HO.o.1;go_cut [3] from 5 to 22 (fun s wx => ∃ (g : Nat) (y0 : PB) (y1 : ET) (y2 : SL) (y3 : TR), s = .pointer (some ⟨g, 0, none⟩) ∧ Hd (OB wx g [.int .i64 d.k, .int .i64 d.ord, .slice y0.s.v.a y0.s.v.len y0.s.v.cap, .int .i64 y0.s.t.t.k, .slice y0.s.t.t.a y0.s.t.t.len y0.s.t.t.cap, .int .i64 y0.s.t.t.n, .int .i64 y0.s.t.t.s, .slice y0.p.v.a y0.p.v.len y0.p.v.cap, .int .i64 y0.p.t.t.k, .slice y0.p.t.t.a y0.p.t.t.len y0.p.t.t.cap, .int .i64 y0.p.t.t.n, .int .i64 y0.p.t.t.s, .slice y0.o.v.a y0.o.v.len y0.o.v.cap, .int .i64 y0.o.t.t.k, .slice y0.o.t.t.a y0.o.t.t.len y0.o.t.t.cap, .int .i64 y0.o.t.t.n, .int .i64 y0.o.t.t.s, .int .i64 y1.d.k, .int .i64 y1.d.op, .slice y1.d.v.a y1.d.v.len y1.d.v.cap, .int .i64 y1.d.t.t.k, .slice y1.d.t.t.a y1.d.t.t.len y1.d.t.t.cap, .int .i64 y1.d.t.t.n, .int .i64 y1.d.t.t.s, .slice y1.d.ka y1.d.n y1.d.kc, .slice y2.a y2.len y2.cap, .slice y3.a y3.l.length y3.c, .slice none 0 0]) ∧ Hd (QuadY W1.heap.size wx g y0 y1 y2 y3) ∧ Hd (W1.heap.size ≤ g) ∧ Hd (d.p.same y0) ∧ Hd (d.e.same y1) ∧ Hd (y2.b = d.v.b) ∧ Hd (d.tb.map TB.td = y3.l.map TB.td) ∧ Hd (Bl W1 wx))
 case first =>
  go_wp2_with fail
  refine wqd (fun w' => Bl w w' ∧ Box w' w.heap.size d.cl) ?_ fun hHeld => ?_
  · exact ⟨Below.drew HB.o, HX.o.below bdr⟩
  refine tqB 0 5 ?_;refine tqB 1 6 (v := .int .i64 d.k) (hy := by intro w' hSw; have c0 := hSw.2.2 0 _ rfl; go_simp; (try with_reducible rfl)) ?_;refine tqB 2 7 ?_;refine tqB 3 8 (v := .int .i64 d.ord) (hy := by intro w' hSw; have c0 := hSw.2.2 1 _ rfl; go_simp; (try with_reducible rfl)) ?_;refine tqB 4 9 ?_;refine ldq 5 10 Tryz.underlying39 (fun w' h => h.2.range 2 d.p.cl rfl) ?_;refine tqB 7 12 ?_;refine ldq 8 13 Tryz.underlying42 (fun w' h => h.2.range 17 d.e.d.cl rfl) ?_;refine tqB 11 16 ?_;refine tqB 12 17 (v := .slice d.v.a d.v.len d.v.cap) (hy := by intro w' hSw; have c0 := hSw.2.2 25 _ rfl; go_simp; (try with_reducible rfl)) ?_;refine tqB 14 19 ?_;refine tqB 15 20 (v := .slice d.ta d.tb.length d.tc) (hy := by intro w' hSw; have c0 := hSw.2.2 26 _ rfl; go_simp; (try with_reducible rfl)) ?_;replace HB := iH (Below.drew HB.o);replace HX := iH (HX.o.below bdr);replace HO := iH (HO.o.below bdr);replace HZ : Hd (Bl W1 W1.drew) := Below.drew brf;generalize W1.drew = w_ at *;have HC := iH (Cp.nil W1.heap.size w_.heap.size);repeat' first
   | refine rd3 6 10 18 ?_ ?_ ?_
   | refine rd3 9 10 18 ?_ ?_ ?_
   | refine rd2 6 10 ?_ ?_
   | refine rd2 6 18 ?_ ?_
   | refine rd2 9 10 ?_ ?_
   | refine rd2 9 18 ?_ ?_
   | refine rd2 10 18 ?_ ?_
   | refine rd2 13 18 ?_ ?_
   | refine rd2 16 18 ?_ ?_
   | refine rd1 6 ?_
   | refine rd1 9 ?_
   | refine rd1 10 ?_
   | refine rd1 13 ?_
   | refine rd1 16 ?_
   | refine rd1 18 ?_
   |
    intro tg K hK;have tq : Tg 6 := tg;clear tq tg;go_simp;refine (HPX.o _ HB.o).mono ?_;rintro r w_ ⟨y0, rfl, hy, hc, he, hb2⟩;clear hHeld;have HE0 := iH he;have HY0 := iH (hy.base HZ.o.size);try replace HNZ := iH (nz_app HNZ.o hc HOZ.o.1)
    replace HC := iH (HC.o.app hc HZ.o.size hb2.size);try replace HB := iH (bl_trans HB.o hb2)
    try replace HX := iH (HX.o.below hb2)
    try replace HO := iH (HO.o.below hb2)
    try replace HZ := iH (bl_trans HZ.o hb2)
    try replace HY1 := iH (HY1.o.upper (uB hb2))
    try replace HY2 := iH (HY2.o.upper (uB hb2))
    try replace HY3 := iH (HY3.o.upper (uB hb2))
    try replace HOZ := iH (HOZ.o.below hb2)
    try replace HS := iH (Nat.lt_of_lt_of_le HS.o hb2.size)
    refine rhK hK ⟨HB.o, HX.o⟩ fun hHeld => ?_;clear hK K;clear hb2 hy hc he
   |
    intro tg K hK;have tq : Tg 13 := tg;clear tq tg;refine step_app80 rfl (.tmp 15) (.tmp 17) 18 rfl rfl bs HS.o rfl d.v rfl (iH (HV.o.upper (uB HB.o))) ?_;intro y2 w_ hy0 hc0 he0 hb0;have hb2 := hb0.o;have hc := hc0.o;clear hHeld;refine rhK hK ⟨bl_trans HB.o hb2, HX.o.below hb2⟩ fun hHeld => ?_;clear hK K;have HY2 := iH (hy0.o.base HZ.o.size);have HE2 := he0;try replace HNZ := iH (nz_app HNZ.o hc HOZ.o.1)
    replace HC := iH (HC.o.app hc HZ.o.size hb2.size);try replace HB := iH (bl_trans HB.o hb2)
    try replace HX := iH (HX.o.below hb2)
    try replace HO := iH (HO.o.below hb2)
    try replace HZ := iH (bl_trans HZ.o hb2)
    try replace HY0 := iH (HY0.o.upper (uB hb2))
    try replace HY1 := iH (HY1.o.upper (uB hb2))
    try replace HOZ := iH (HOZ.o.below hb2)
    clear hb2 hb0 hc0 hc hy0 he0 HS
   |
    intro tg K hK;have tq : Tg 9 := tg;clear tq tg;go_simp;refine (HEX.o _ HB.o).mono ?_;rintro r w_ ⟨y1, rfl, hy, hc, he, hb2⟩;clear hHeld;have HE1 := iH he;have HY1 := iH (hy.base HZ.o.size);try replace HNZ := iH (nz_app HNZ.o hc HOZ.o.1)
    replace HC := iH (HC.o.app hc HZ.o.size hb2.size);try replace HB := iH (bl_trans HB.o hb2)
    try replace HX := iH (HX.o.below hb2)
    try replace HO := iH (HO.o.below hb2)
    try replace HZ := iH (bl_trans HZ.o hb2)
    try replace HY0 := iH (HY0.o.upper (uB hb2))
    try replace HY2 := iH (HY2.o.upper (uB hb2))
    try replace HY3 := iH (HY3.o.upper (uB hb2))
    try replace HOZ := iH (HOZ.o.below hb2)
    try replace HS := iH (Nat.lt_of_lt_of_le HS.o hb2.size)
    refine rhK hK ⟨HB.o, HX.o⟩ fun hHeld => ?_;clear hK K;clear hb2 hy hc he
   |
    intro tg K hK;have tq : Tg 16 := tg;clear tq tg;go_simp;refine (HTS.o _ HB.o).mono ?_;rintro r w_ ⟨y3, rfl, hy, hc, he, hb2⟩;clear hHeld;have HE3 := iH he;have HY3 := iH (hy.base HZ.o.size);try replace HNZ := iH (nz_app HNZ.o hc HOZ.o.1)
    replace HC := iH (HC.o.app hc HZ.o.size hb2.size);try replace HB := iH (bl_trans HB.o hb2)
    try replace HX := iH (HX.o.below hb2)
    try replace HO := iH (HO.o.below hb2)
    try replace HZ := iH (bl_trans HZ.o hb2)
    try replace HY0 := iH (HY0.o.upper (uB hb2))
    try replace HY1 := iH (HY1.o.upper (uB hb2))
    try replace HY2 := iH (HY2.o.upper (uB hb2))
    try replace HOZ := iH (HOZ.o.below hb2)
    try replace HS := iH (Nat.lt_of_lt_of_le HS.o hb2.size)
    refine rhK hK ⟨HB.o, HX.o⟩ fun hHeld => ?_;clear hK K;clear hb2 hy hc he;refine tqB 17 22 (v := .agg (wA d.k d.ord y0 y1.d y2 (.slice y3.a y3.l.length y3.c) (.slice none 0 0))) ?_
   |
    intro tg K hK;have tq : Tg 10 := tg;clear tq tg;clear hHeld;go_simp;refine rhK hK ⟨bl_alloc HB.o _, HX.o.below (bl_a _)⟩ fun hHeld => ?_;clear hK K;have hb2 : Bl w_ (w_.alloc (.cells #[] 5)) := bl_a _;obtain ⟨bs, hbs⟩ : ∃ b, b = w_.heap.size := ⟨_, rfl⟩;have HS : Hd (bs < (w_.alloc (.cells #[] 5)).heap.size) := (show bs < _ by rw [hbs]; simp);rw [← hbs];clear hbs;generalize w_.alloc (.cells #[] 5) = w_ at *;try replace HB := iH (bl_trans HB.o hb2)
    try replace HX := iH (HX.o.below hb2)
    try replace HO := iH (HO.o.below hb2)
    try replace HZ := iH (bl_trans HZ.o hb2)
    try replace HY0 := iH (HY0.o.upper (uB hb2))
    try replace HY1 := iH (HY1.o.upper (uB hb2))
    try replace HY2 := iH (HY2.o.upper (uB hb2))
    try replace HY3 := iH (HY3.o.upper (uB hb2))
    try replace HOZ := iH (HOZ.o.below hb2)
    try replace HC := iH (HC.o.mono nR hb2.size)
    clear hb2
   |
    intro tg K hK;have tq := tg;clear tq tg;clear hHeld;go_simp;refine rhK hK ⟨bl_alloc HB.o _, HX.o.below (bl_a _)⟩ fun hHeld => ?_;clear hK K;have HNZ := iH HC.o.new;have hb2 : Bl w_ (w_.alloc (.cells zNa 46)) := bl_a _;have HOZ := iH (OB.new w_ zNa 46);have HGZ := iH HZ.o.size;obtain ⟨gz, hgz⟩ : ∃ b, b = w_.heap.size := ⟨_, rfl⟩;rw [← hgz] at HOZ HGZ HNZ ⊢;clear hgz;generalize w_.alloc (.cells zNa 46) = w_ at *;try replace HB := iH (bl_trans HB.o hb2)
    try replace HX := iH (HX.o.below hb2)
    try replace HO := iH (HO.o.below hb2)
    try replace HZ := iH (bl_trans HZ.o hb2)
    try replace HY0 := iH (HY0.o.upper (uB hb2))
    try replace HY1 := iH (HY1.o.upper (uB hb2))
    try replace HY2 := iH (HY2.o.upper (uB hb2))
    try replace HY3 := iH (HY3.o.upper (uB hb2))
    try replace HS := iH (Nat.lt_of_lt_of_le HS.o hb2.size)
    try replace HC := iH (HC.o.mono nR hb2.size)
    clear hb2
   | fail
  all_goals
   have st := HOZ.o.there 0 28 (by simp);have on := all_oneCell_toArray (cs := (wL d.k d.ord y0 y1.d y2 (.slice y3.a y3.l.length y3.c) (.slice none 0 0))) (by simp [Value.oneCell']);have hob := iH (HOZ.o.put (wL d.k d.ord y0 y1.d y2 (.slice y3.a y3.l.length y3.c) (.slice none 0 0)) 0 (wL d.k d.ord y0 y1.d y2 (.slice y3.a y3.l.length y3.c) (.slice none 0 0)) (by simp) rfl);have hpa := iH (but_sets gz (wL d.k d.ord y0 y1.d y2 (.slice y3.a y3.l.length y3.c) (.slice none 0 0)) 0 w_);refine rqA 19 fun K hK => ?_;refine step_storeV 46 gz 0 (wA d.k d.ord y0 y1.d y2 (.slice y3.a y3.l.length y3.c) (.slice none 0 0)) st on ?_;clear hHeld;have hgw := Nat.lt_of_lt_of_le HG.o HGZ.o;refine hK.out _ _ ?_ fun hHeld => ?_
   · exact ⟨below_sets (w0 := w) gz (by omega) _ 0 _ HB.o, HX.o.upper hpa.o (by omega)⟩
   clear hK K st on hHeld;try simp only [Act.put]
   have hbz := iH (below_sets (w0 := W1) gz HGZ.o (wL d.k d.ord y0 y1.d y2 (.slice y3.a y3.l.length y3.c) (.slice none 0 0)) 0 w_ HZ.o);generalize w_.setCells _ _ _ = W5 at *;refine wpAnyH_done (by kernel_rfl) ?_ _;go_wp2_with fail
   go_meet;exact ⟨gz, y0, y1, y2, y3, rfl, hob, planOut HY0.o HY1.o HY2.o HY3.o hpa.o HC.o HNZ.o, HGZ, HE0, HE1, HE2, HE3, hbz⟩
 obtain ⟨g, y0, y1, y2, y3, rfl, HOB, HTW, HGZ, HE0, HE1, HE2, HE3, HZ2⟩ := hcut;obtain ⟨W2, hW2⟩ : ∃ W, W = wc := ⟨_, rfl⟩;subst hW2;go_wp2_with fail
 go_loopw [4] (fun i wr => ∃ (j : Nat) (v : Value) (k' : Nat → PT), j ≤ d.n ∧ i = .int .i64 j ∧ Hd (Gath (fun x : PT => x.d.cells) PT.fp (fun x W => x.ow W2.heap.size W) 46 28 W2.heap.size g 27 [.int .i64 d.k, .int .i64 d.ord, .slice y0.s.v.a y0.s.v.len y0.s.v.cap, .int .i64 y0.s.t.t.k, .slice y0.s.t.t.a y0.s.t.t.len y0.s.t.t.cap, .int .i64 y0.s.t.t.n, .int .i64 y0.s.t.t.s, .slice y0.p.v.a y0.p.v.len y0.p.v.cap, .int .i64 y0.p.t.t.k, .slice y0.p.t.t.a y0.p.t.t.len y0.p.t.t.cap, .int .i64 y0.p.t.t.n, .int .i64 y0.p.t.t.s, .slice y0.o.v.a y0.o.v.len y0.o.v.cap, .int .i64 y0.o.t.t.k, .slice y0.o.t.t.a y0.o.t.t.len y0.o.t.t.cap, .int .i64 y0.o.t.t.n, .int .i64 y0.o.t.t.s, .int .i64 y1.d.k, .int .i64 y1.d.op, .slice y1.d.v.a y1.d.v.len y1.d.v.cap, .int .i64 y1.d.t.t.k, .slice y1.d.t.t.a y1.d.t.t.len y1.d.t.t.cap, .int .i64 y1.d.t.t.n, .int .i64 y1.d.t.t.s, .slice y1.d.ka y1.d.n y1.d.kc, .slice y2.a y2.len y2.cap, .slice y3.a y3.l.length y3.c, .slice none 0 0] (y0.fp ++ y1.fp ++ y2.fp ++ tfp y3.a y3.l) W1 W2 wr v j k') ∧ Hd (∀ i, i < j → (kid i).same (k' i)))
  (fun i _ => d.n - (intOf i).toNat)
 case atStart => exact ⟨0, _, kid, nZ, rfl, Gath.nil HZ2.o HOB.o HGZ.o (fun q hq => ⟨(HTW.o.cp.i q hq).2, fun e => HTW.o.n (e ▸ hq)⟩), fun i hi => absurd hi nN⟩
 obtain ⟨j, v, k', hj, rfl, HQ, HS⟩ := hrel;have HXr := iH (HX.o.below HQ.o.bel);have HBr := iH (bl_trans HB.o HQ.o.bel);have cx := HXr.o.2 27 _ rfl;by_cases hlj : j < d.n
 · obtain ⟨b, off, hka, _, hlt, hc⟩ := HR.o.resolve_left (by omega)
   have HC : Hd (∀ W, Bl w W → W.rangeAt b (off + j * 28) (kid j).d.cl) := fun W hb c u hu => (hb.cell (p := ⟨b, off + j * 28 + c, none⟩) hlt).trans (hc j hlj c u hu);have HXs := iH (show Box _ _ _ by have h := HXr.o; (try unfold PN.cl at h); rwa [hka] at h);rw [hka] at cx;clear hc hlt hka HXr;go_wp2_with fail
   clear cx;refine wqd (fun w' => Bl w w' ∧ Box w' w.heap.size (wL d.k d.ord d.p d.e.d d.v (.slice d.ta d.tb.length d.tc) (.slice (some ⟨b, off, none⟩) d.n d.kc))) ?_ fun hHeld => ?_
   · exact ⟨Below.drew HBr.o, HXs.o.below bdr⟩
   replace HQ := iH (HQ.o.below (okPT _) bdr);have HB2 := iH (Below.drew HBr.o);have HX2 := iH (HXs.o.below bdr);clear HBr HXs;generalize wr.drew = w_ at *;refine tqB 0 30 ?_;refine tqB 2 32 ?_;refine tqB 3 33 (v := .slice (some ⟨b, off, none⟩) d.n d.kc) (hy := by intro w' hSw; have c0 := hSw.2.2 27 _ rfl; go_simp; (try with_reducible rfl)) ?_;refine tqB 4 34 (v := .int .i64 j) ?_;refine tqB 5 35 (v := .pointer (some ⟨b, off + j * 28, none⟩)) ?_;refine ldq 6 36 Tryz.underlying46 (fun w' h => HC.o w' h.1) ?_;repeat' first
    | refine rd2 1 7 ?_ ?_
    | refine rd2 1 8 ?_ ?_
    | refine rd1 1 ?_
    | refine rd1 7 ?_
    | refine rd1 8 ?_
    |
     intro tg K hK;have tq : Tg 8 := tg;clear tq tg;clear hHeld;go_simp;refine rhK hK ⟨bl_alloc HB2.o _, HX2.o.below (bl_a _)⟩ fun hHeld => ?_;clear hK K;have HN : Hd (∀ j u, (y.d.cl : List Value)[j]? = some u → (w_.alloc (.cells y.d.ar 46)).cell? ((⟨w_.heap.size, 0, none⟩ : Addr).add j) = some u) := fun j u hu => World.news_of_block (Go.heap_alloc_new _ _) j u hu;try replace HY := iH (HY.o.below (okPT _) (bl_a (w := w_) (.cells #[.int .i64 y.d.k, .int .i64 y.d.ord, .slice y.d.p.s.v.a y.d.p.s.v.len y.d.p.s.v.cap, .int .i64 y.d.p.s.t.t.k, .slice y.d.p.s.t.t.a y.d.p.s.t.t.len y.d.p.s.t.t.cap, .int .i64 y.d.p.s.t.t.n, .int .i64 y.d.p.s.t.t.s, .slice y.d.p.p.v.a y.d.p.p.v.len y.d.p.p.v.cap, .int .i64 y.d.p.p.t.t.k, .slice y.d.p.p.t.t.a y.d.p.p.t.t.len y.d.p.p.t.t.cap, .int .i64 y.d.p.p.t.t.n, .int .i64 y.d.p.p.t.t.s, .slice y.d.p.o.v.a y.d.p.o.v.len y.d.p.o.v.cap, .int .i64 y.d.p.o.t.t.k, .slice y.d.p.o.t.t.a y.d.p.o.t.t.len y.d.p.o.t.t.cap, .int .i64 y.d.p.o.t.t.n, .int .i64 y.d.p.o.t.t.s, .int .i64 y.d.e.d.k, .int .i64 y.d.e.d.op, .slice y.d.e.d.v.a y.d.e.d.v.len y.d.e.d.v.cap, .int .i64 y.d.e.d.t.t.k, .slice y.d.e.d.t.t.a y.d.e.d.t.t.len y.d.e.d.t.t.cap, .int .i64 y.d.e.d.t.t.n, .int .i64 y.d.e.d.t.t.s, .slice y.d.e.d.ka y.d.e.d.n y.d.e.d.kc, .slice y.d.v.a y.d.v.len y.d.v.cap, .slice y.d.ta y.d.tb.length y.d.tc, .slice y.d.ka y.d.n y.d.kc] 46)))
     try replace HB2 := iH (bl_alloc HB2.o (.cells #[.int .i64 y.d.k, .int .i64 y.d.ord, .slice y.d.p.s.v.a y.d.p.s.v.len y.d.p.s.v.cap, .int .i64 y.d.p.s.t.t.k, .slice y.d.p.s.t.t.a y.d.p.s.t.t.len y.d.p.s.t.t.cap, .int .i64 y.d.p.s.t.t.n, .int .i64 y.d.p.s.t.t.s, .slice y.d.p.p.v.a y.d.p.p.v.len y.d.p.p.v.cap, .int .i64 y.d.p.p.t.t.k, .slice y.d.p.p.t.t.a y.d.p.p.t.t.len y.d.p.p.t.t.cap, .int .i64 y.d.p.p.t.t.n, .int .i64 y.d.p.p.t.t.s, .slice y.d.p.o.v.a y.d.p.o.v.len y.d.p.o.v.cap, .int .i64 y.d.p.o.t.t.k, .slice y.d.p.o.t.t.a y.d.p.o.t.t.len y.d.p.o.t.t.cap, .int .i64 y.d.p.o.t.t.n, .int .i64 y.d.p.o.t.t.s, .int .i64 y.d.e.d.k, .int .i64 y.d.e.d.op, .slice y.d.e.d.v.a y.d.e.d.v.len y.d.e.d.v.cap, .int .i64 y.d.e.d.t.t.k, .slice y.d.e.d.t.t.a y.d.e.d.t.t.len y.d.e.d.t.t.cap, .int .i64 y.d.e.d.t.t.n, .int .i64 y.d.e.d.t.t.s, .slice y.d.e.d.ka y.d.e.d.n y.d.e.d.kc, .slice y.d.v.a y.d.v.len y.d.v.cap, .slice y.d.ta y.d.tb.length y.d.tc, .slice y.d.ka y.d.n y.d.kc] 46))
     try replace HX2 := iH (HX2.o.below (bl_a (w := w_) (.cells #[.int .i64 y.d.k, .int .i64 y.d.ord, .slice y.d.p.s.v.a y.d.p.s.v.len y.d.p.s.v.cap, .int .i64 y.d.p.s.t.t.k, .slice y.d.p.s.t.t.a y.d.p.s.t.t.len y.d.p.s.t.t.cap, .int .i64 y.d.p.s.t.t.n, .int .i64 y.d.p.s.t.t.s, .slice y.d.p.p.v.a y.d.p.p.v.len y.d.p.p.v.cap, .int .i64 y.d.p.p.t.t.k, .slice y.d.p.p.t.t.a y.d.p.p.t.t.len y.d.p.p.t.t.cap, .int .i64 y.d.p.p.t.t.n, .int .i64 y.d.p.p.t.t.s, .slice y.d.p.o.v.a y.d.p.o.v.len y.d.p.o.v.cap, .int .i64 y.d.p.o.t.t.k, .slice y.d.p.o.t.t.a y.d.p.o.t.t.len y.d.p.o.t.t.cap, .int .i64 y.d.p.o.t.t.n, .int .i64 y.d.p.o.t.t.s, .int .i64 y.d.e.d.k, .int .i64 y.d.e.d.op, .slice y.d.e.d.v.a y.d.e.d.v.len y.d.e.d.v.cap, .int .i64 y.d.e.d.t.t.k, .slice y.d.e.d.t.t.a y.d.e.d.t.t.len y.d.e.d.t.t.cap, .int .i64 y.d.e.d.t.t.n, .int .i64 y.d.e.d.t.t.s, .slice y.d.e.d.ka y.d.e.d.n y.d.e.d.kc, .slice y.d.v.a y.d.v.len y.d.v.cap, .slice y.d.ta y.d.tb.length y.d.tc, .slice y.d.ka y.d.n y.d.kc] 46)))
     obtain ⟨gb, hgb⟩ : ∃ b, b = w_.heap.size := ⟨_, rfl⟩;rw [← hgb] at HN ⊢;clear hgb;generalize w_.alloc (.cells y.d.ar 46) = w_ at *
    |
     intro tg K hK;have tq : Tg 7 := tg;clear tq tg;go_simp;refine (HI.o j hlj _ HB2.o).mono ?_;rintro r w_ ⟨y, rfl, hy, hc, he, hb2⟩;clear hHeld;have HE := iH he;have HY := iH (HQ.o.call (okPT _) hb2 (hy.base HQ.o.hM) hc);try replace HB2 := iH (bl_trans HB2.o hb2)
     try replace HX2 := iH (HX2.o.below hb2)
     clear hy hc he hb2 HQ;refine rhK hK ⟨HB2.o, HX2.o⟩ fun hHeld => ?_;clear hK K
    |
     intro tg K hK;have tq := tg;clear tq tg;clear hHeld;(first | have cv := (HQ.o.box.2 27 v rfl).1 | have cv := (HY.o.g.box.2 27 v rfl).1)
     go_simp;refine rhK hK ⟨HB2.o, HX2.o⟩ fun hHeld => ?_;clear hK K cv
    | fail
   all_goals
    obtain ⟨kn, hk1, hk2⟩ : ∃ kn : Nat → PT, (∀ i, i < j → kn i = k' i) ∧ kn j = y := ⟨fun i => if i = j then y else k' i, fun i hi => if_neg (by omega), if_pos rfl⟩;have HK1 := iH hk1;have HK2 := iH hk2;clear hk1 hk2;have HC1 := iH (fun i (hi : i < j) => (show (kn i).d.cells = _ by rw [HK1.o i hi]));have HC2 : Hd ((fun i => (kn i).d.cells) j = y.d.cl) := (show (kn j).d.cells = _ by rw [HK2.o]; rfl);have one1 : ∀ u ∈ (y.d.cl : List Value), u.oneCell' = true := (by intro u hu; simp only [List.mem_cons, List.not_mem_nil, or_false] at hu; rcases hu with rfl | rfl | rfl | rfl | rfl | rfl | rfl | rfl | rfl | rfl | rfl | rfl | rfl | rfl | rfl | rfl | rfl | rfl | rfl | rfl | rfl | rfl | rfl | rfl | rfl | rfl | rfl | rfl <;> rfl);have HOW := iH HY.o.g.own;have hMs := HY.o.g.hM;have hjn : j ≤ 1048576 := by have := HN0.o; omega
    clear hHeld;refine rqA 9 fun K hK => ?_;refine stepCC (.tmp 31) (.tmp 38) 39 44 46 28 416 (.agg zNa) Tryz.underlying44 infoPc28 W2.heap.size v j (fun i => (k' i).d.cells) HOW ⟨gb, 0, none⟩ 1 y.d.cl HN one1 hjn hMs (fun i => (kn i).d.cells) HC1 HC2 ?_;intro g9 c9 w9 HO9 HA9 HG9 HD9;clear one1 HC1 HC2 HN HOW hMs hjn;have HB9 := iH (HB2.o.trans (HD9.o.mono (by have := HB.o.size; have := HY.o.g.g0; have := HY.o.g.gM; omega)));have HX9 := iH (HX2.o.bel8 HD9.o (by have := HX.o.1; have := HY.o.g.g0; have := HY.o.g.gM; omega));refine rhK hK ⟨HB9.o, HX9.o⟩ fun hHeld => ?_;clear hK K;refine tqB 10 40 ?_;clear hHeld;have HGn := iH (HY.o.add (okPT _) HK1.o HK2.o HO9.o HA9.o HG9.o HD9.o);have c9 := ((HY.o.g.box.bel8 HD9.o HY.o.g.gM).2 27 v rfl).1;have f9 := ((HY.o.g.box.bel8 HD9.o HY.o.g.gM).2 27 v rfl).2;have HGB := iH (show w.heap.size < g by have := HX.o.1; have := HY.o.g.g0; omega);refine rqA 11 fun K hK => ?_;go_simp;refine rhK hK ⟨bl_set HB9.o (by show w.heap.size ≤ g; have := HGB.o; omega) _, HX9.o.upper ((But.refl g w9).set 27 _) (by have := HGB.o; omega)⟩ fun hHeld => ?_;clear hK K hHeld c9 f9 HY HO9 HA9 HG9 HD9 HB9 HX9 HB2 HX2;generalize w9.setCell ⟨g, 27, none⟩ _ = wS at *;refine wpAnyH_done (by kernel_rfl) ?_ _;have hle9 := HN0.o;go_wp2;go_roundw
    case rel => exact ⟨j + 1, _, kn, by omega, by go_num, HGn.o, fun i hi => (if e : i = j then (by rw [e, HK2.o]; exact HE.o) else (by rw [HK1.o i (by omega)]; exact HS.o i (by omega)))⟩
    case measure => simp [intOf]; omega
 obtain rfl : j = d.n := by omega
 obtain ⟨a', c', rfl, hcc, hK, hZ, hCp⟩ := HQ.o.fin;have HF : Hd (OB wr g (wL d.k d.ord y0 y1.d y2 (.slice y3.a y3.l.length y3.c) (.slice a' d.n c'))) := HQ.o.box;have HO9 := iH (HO.o.below HQ.o.bel);have lf : wr.rangeAt g 0 (wL d.k d.ord y0 y1.d y2 (.slice y3.a y3.l.length y3.c) (.slice a' d.n c')) := HF.o.box.range 0 _ rfl;have hst := HO9.o.there 0 28 (by simp);have on := all_oneCell_toArray (cs := (wL d.k d.ord y0 y1.d y2 (.slice y3.a y3.l.length y3.c) (.slice a' d.n c'))) (by simp [Value.oneCell']);have hrd : (wr.setCells (w.heap.size + 1) 0 (wL d.k d.ord y0 y1.d y2 (.slice y3.a y3.l.length y3.c) (.slice a' d.n c'))).rangeAt (w.heap.size + 1) 0 (wL d.k d.ord y0 y1.d y2 (.slice y3.a y3.l.length y3.c) (.slice a' d.n c')) := World.rangeAt_setCells_same _ _ _ _ hst;have hbf := iH (below_sets (w0 := w) (w.heap.size + 1) (by omega) (wL d.k d.ord y0 y1.d y2 (.slice y3.a y3.l.length y3.c) (.slice a' d.n c')) 0 wr HBr.o);have hsf := iH ((but_sets (w.heap.size + 1) (wL d.k d.ord y0 y1.d y2 (.slice y3.a y3.l.length y3.c) (.slice a' d.n c')) 0 wr).size);have huf := iH (upper_sets (w.heap.size + 1) (wL d.k d.ord y0 y1.d y2 (.slice y3.a y3.l.length y3.c) (.slice a' d.n c')) 0 wr);have HKz := iH hK;have HZz := iH hZ;have HCz := iH hCp;clear hK hZ hCp hcc HI hj hlj HXr;go_wp2_with (first | (with_reducible refine wpv_at ?_; refine ldr rfl rfl rfl Tryz.underlying46 lf rfl ?_; try simp only [Act.put, sA, zA, cA]) | (with_reducible refine wpv_at ?_; refine store_stopV 46 (.tmp 2) (.tmp 41) rfl ?_))
 change wpList _ _ _ _ _ _;refine wpList_store_mid rfl 46 _ _ rfl (w.heap.size + 1) 0 (wA d.k d.ord y0 y1.d y2 (.slice y3.a y3.l.length y3.c) (.slice a' d.n c')) rfl rfl hst (by kernel_rfl) on ?_;try simp only [Act.put]
 generalize wr.setCells _ _ _ = W5 at *;go_wp2;try simp only [Exit.inBlock, Exit.then]
 refine bodyPost_ret (v := .agg (wA d.k d.ord y0 y1.d y2 (.slice y3.a y3.l.length y3.c) (.slice a' d.n c'))) ?hr rfl ?hp
 case hr => exact results_cell rfl rfl (run_loadVar_mid (P := Tryz.prog) _ (w.heap.size + 1) 0 46 (wL d.k d.ord y0 y1.d y2 (.slice y3.a y3.l.length y3.c) (.slice a' d.n c')) _ hrd Tryz.underlying46 rfl (by kernel_rfl))
 have hw1 : w.heap.size ≤ W1.heap.size := by have := HG.o; omega
 have hw2 := HZ2.o.size;have hw4 := HQ.o.hM;have hU : Upper W1.heap.size wr W5 := huf.o.mono (by have := HG.o; omega);have hs := HQ.o.st;have hw12 := Nat.le_trans hw1 hw2;have q0 := (((HTW.o.o0.keep hs.left.left.left).upper hU).base hw1);have q1 := (((HTW.o.o1.keep hs.left.left.right).upper hU).base hw1);have q2 := (((HTW.o.o2.keep hs.left.right).upper hU).base hw1);have q3 := (((HTW.o.o3.keep hs.right).upper hU).base hw1);have q6 := fun i hi => ((HQ.o.ok i hi).upper (hU.mono hw2)).base hw12;have el : y3.l.length = d.tb.length := by have h := congrArg List.length HE3.o; simp at h; omega
 have hc1 := (HTW.o.cp.app HCz.o hw2 hw4).mono hw1 (Nat.le_of_eq hsf.o.symm);exact ⟨PT.mk ⟨d.k, d.ord, y0, y1, y2, y3.a, y3.c, y3.l, a', c', d.n⟩ k', rfl, ⟨⟨q0.lies, q1.l, q2.1, q3.row, (by show y3.l.length ≤ 1048576; rw [el]; exact HTN.o), HN0.o, (HKz.o.upper (hU.mono hw2)).base hw12, fun i hi => (q6 i hi).l⟩, ⟨q0, q1.z, q2.2, ⟨q3.z, q3.t⟩, (HZz.o.upper (hU.mono hw2)).base hw12, fun i hi => (q6 i hi).z⟩⟩, hc1, ⟨rfl, rfl, HE0.o, HE1.o, HE2.o.symm, HE3.o, rfl, HS.o⟩, hbf.o⟩
theorem l7own_any (e : PT) : ∀ (w : World), e.lies 0 w → Calls Tryz.prog 30 #[.agg e.d.ar] w fun r w' => ∃ y : PT, r = .returned (.agg y.d.ar) ∧ y.ow w.heap.size w' ∧ Cp w.heap.size w'.heap.size y.fp ∧ (e).same y ∧ Bl w w' := by
 induction e with
 | nil => exact fun _ h => False.elim h
 | mk d kid ih => exact fun w h => l7own_of d kid w h fun i hi W hb => ih i W (PT.lies.upper (uB hb) (h.2.2.2.2.2.2.2 i hi))
end Go.Proofs.YtoloadogihbdeaaGreat
