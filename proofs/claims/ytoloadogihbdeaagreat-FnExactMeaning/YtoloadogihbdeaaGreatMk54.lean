import Derived.Test.YtoloadogihbdeaaGreatMk53
namespace Go.Proofs.YtoloadogihbdeaaGreat
open Go.RowKit Go.Deep
set_option maxHeartbeats 40000000
set_option maxRecDepth 100000
def CpyPW (e : PT) (W : World) (r : Ending) (w' : World) : Prop := ∃ y : PT, r = .returned (.agg #[.int .i64 y.d.k, .int .i64 y.d.ord, .slice y.d.p.s.v.a y.d.p.s.v.len y.d.p.s.v.cap, .int .i64 y.d.p.s.t.t.k, .slice y.d.p.s.t.t.a y.d.p.s.t.t.len y.d.p.s.t.t.cap, .int .i64 y.d.p.s.t.t.n, .int .i64 y.d.p.s.t.t.s, .slice y.d.p.p.v.a y.d.p.p.v.len y.d.p.p.v.cap, .int .i64 y.d.p.p.t.t.k, .slice y.d.p.p.t.t.a y.d.p.p.t.t.len y.d.p.p.t.t.cap, .int .i64 y.d.p.p.t.t.n, .int .i64 y.d.p.p.t.t.s, .slice y.d.p.o.v.a y.d.p.o.v.len y.d.p.o.v.cap, .int .i64 y.d.p.o.t.t.k, .slice y.d.p.o.t.t.a y.d.p.o.t.t.len y.d.p.o.t.t.cap, .int .i64 y.d.p.o.t.t.n, .int .i64 y.d.p.o.t.t.s, .int .i64 y.d.e.d.k, .int .i64 y.d.e.d.op, .slice y.d.e.d.v.a y.d.e.d.v.len y.d.e.d.v.cap, .int .i64 y.d.e.d.t.t.k, .slice y.d.e.d.t.t.a y.d.e.d.t.t.len y.d.e.d.t.t.cap, .int .i64 y.d.e.d.t.t.n, .int .i64 y.d.e.d.t.t.s, .slice y.d.e.d.ka y.d.e.d.n y.d.e.d.kc, .slice y.d.v.a y.d.v.len y.d.v.cap, .slice y.d.ta y.d.tb.length y.d.tc, .slice y.d.ka y.d.n y.d.kc]) ∧ y.own W.heap.size w' ∧ e.same y ∧ Bl W w'
def SpM (e : PT) (W : World) (r : Ending) (w' : World) : Prop := ∃ (a : AT) (q : Bool), r = .returned (.tuple #[.agg #[.int .i64 a.d.k, .slice a.d.pa a.d.pn a.d.pc, .int .i64 a.d.e.d.k, .int .i64 a.d.e.d.op, .slice a.d.e.d.v.a a.d.e.d.v.len a.d.e.d.v.cap, .int .i64 a.d.e.d.t.t.k, .slice a.d.e.d.t.t.a a.d.e.d.t.t.len a.d.e.d.t.t.cap, .int .i64 a.d.e.d.t.t.n, .int .i64 a.d.e.d.t.t.s, .slice a.d.e.d.ka a.d.e.d.n a.d.e.d.kc, .slice a.d.v.a a.d.v.len a.d.v.cap, .slice a.d.ta a.d.tb.length a.d.tc, .slice a.d.ka a.d.n a.d.kc], .bool q]) ∧ a.lies 0 w' ∧ MeanA e a q ∧ Bl W w'
def ImM (e : PT) (W : World) (r : Ending) (w' : World) : Prop := ∃ (a : AT) (q : Bool), r = .returned (.tuple #[.agg #[.int .i64 a.d.k, .slice a.d.pa a.d.pn a.d.pc, .int .i64 a.d.e.d.k, .int .i64 a.d.e.d.op, .slice a.d.e.d.v.a a.d.e.d.v.len a.d.e.d.v.cap, .int .i64 a.d.e.d.t.t.k, .slice a.d.e.d.t.t.a a.d.e.d.t.t.len a.d.e.d.t.t.cap, .int .i64 a.d.e.d.t.t.n, .int .i64 a.d.e.d.t.t.s, .slice a.d.e.d.ka a.d.e.d.n a.d.e.d.kc, .slice a.d.v.a a.d.v.len a.d.v.cap, .slice a.d.ta a.d.tb.length a.d.tc, .slice a.d.ka a.d.n a.d.kc], .bool q]) ∧ a.ow W.heap.size w' ∧ Cp W.heap.size w'.heap.size a.fp ∧ MeanA e a q ∧ Bl W w'
theorem Stay.mg {B C : Nat} {w w' : World} {S : List Nat} (h : Mg B C w w') (hL : ∀ q ∈ S, C ≤ q ∧ q < w.heap.size) : Stay S w w' := ⟨fun q hq => h.block q (hL q hq).2 (.inr (hL q hq).1), h.size⟩
theorem walkMeaning (e : PT) (w : World) (hc : e.came w) :
 Calls Tryz.prog 4 #[.agg e.d.ar] w fun r w' => r = .returned (.bool true) ∧ Bl w w' := by
 try unfold PN.ar
 have HLI : Hd (e.wt ≤ 1048576 → e.lies 0 w) := fun h => PT.came.lies hc (PT.small_of e hc h)
 have HZ : Hd (∀ W, Bl w W → Cl 17 #[.agg e.d.ar, .int .i64 1048576] W fun r w' => Sw 1048576 e.wt r ∧ Bl W w') := fun W hb => szPlan_w e 1048576 W (by omega) (by omega) (PT.came.below hb hc)
 have HXW : Hd (Box (w.alloc (.cells e.d.ar 68)) w.heap.size e.d.cl) := Box.new w e.d.ar 68 (0, 0)
 have HBW : Hd (Bl w (w.alloc (.cells e.d.ar 68))) := bl_a _
 have HTO : Hd (∀ W, e.lies 0 W → Cl 19 #[.agg e.d.ar] W (CpyPW e W)) := fun W h => toPlanW e W h
 have HSO : Hd (∀ (W : World) (y : PT), y.lies 0 W → e.same y → Cl 18 #[.agg y.d.ar] W (SpM e W)) := fun W y h hs => (specMeaning_any y W h).mono fun r w' ⟨a, q, h1, h2, h3, h4⟩ => ⟨a, q, h1, AT.lies.base nZ h2.l, h3.plan hs, h4⟩
 have HIO : Hd (∀ (W : World) (y : PT), y.lies 0 W → e.same y → Cl 20 #[.agg y.d.ar] W (ImM e W)) := fun W y h hs => (implMeaning_any y W h).mono fun r w' ⟨a, q, h1, h2, h3, h4, h5⟩ => ⟨a, q, h1, h2, h3, h4.plan hs, h5⟩
 have HEA : Hd (∀ (W : World) (x y : AT), x.lies 0 W → y.lies 0 W → x.same y → Cl 11 #[.agg x.d.ar, .agg y.d.ar] W (Yes W)) := fun W x y h1 h2 h3 => eqAlg_same x y W h1 h2 h3
 clear hc
 go_in
 go_upto_region 1 with fail
 generalize (w.alloc _) = W0 at *
 have lr : W0.rangeAt w.heap.size 0 e.d.cl := HXW.o.range 0 _ rfl
 go_wp2_with (with_reducible refine wpq_at ?_; refine ldr rfl rfl rfl Tryz.underlying68 lr rfl ?_; try simp only [Act.put, sA, zA, cA])
 refine (HZ.o W0 HBW.o).mono ?_
 rintro r w1 ⟨⟨r1, rfl, hr1⟩, hb1⟩
 have HXe := iH (HXW.o.below hb1)
 have HB := iH (bl_trans HBW.o hb1)
 clear hb1 lr HXW HBW HZ
 rcases hr1 with rfl | ⟨p1, q1, s1⟩
 · go_wp2
   go_ret
   exact ⟨rfl, HB.o⟩
 have n1 : ¬ r1 < 0 := by omega
 have HWT : Hd (e.wt ≤ 1048576) := (show _ ≤ _ by omega)
 have HL : Hd (e.lies 0 w) := HLI.o HWT.o
 have hT := HTO.o w1 (PT.lies.upper (uB HB.o) HL.o)
 have lr : w1.rangeAt w.heap.size 0 e.d.cl := HXe.o.range 0 _ rfl
 clear p1 q1 s1 HLI
 go_wp2_with (with_reducible refine wpq_at ?_; refine ldr rfl rfl rfl Tryz.underlying68 lr rfl ?_; try simp only [Act.put, sA, zA, cA])
 refine hT.mono ?_
 rintro r w2 ⟨y, rfl, hy, hs, hb⟩
 have hO := HSO.o w2 y (PT.lies.base nZ hy.1) hs
 have HXen := iH (HXe.o.below hb)
 have HBn := iH (bl_trans HB.o hb)
 clear HXe HB
 have HXe := HXen
 have HB := HBn
 clear HXen HBn
 clear hT hy hs hb lr
 go_wp2_with fail
 refine hO.mono ?_
 rintro r w3 ⟨a, q, rfl, ha, hm, hb⟩
 have HMA := iH hm
 have HXen := iH (HXe.o.below hb)
 have HBn := iH (bl_trans HB.o hb)
 clear HXe HB
 have HXe := HXen
 have HB := HBn
 clear HXen HBn
 have HA := iH ha
 clear hO ha hm hb HSO
 have st : (w3.alloc (.cells zGa 52)).there w3.heap.size 0 13 := (OB.new w3 zGa 52).there 0 13 (by simp)
 have on : (a.d.ar : Array Value).all (·.oneCell') = true := all_oneCell_toArray (cs := a.d.cl) (by simp [Value.oneCell'])
 have HXa : Hd (Box ((w3.alloc (.cells zGa 52)).setCells w3.heap.size 0 a.d.cl) w3.heap.size a.d.cl) := ((OB.new w3 zGa 52).put a.d.cl 0 a.d.cl (by simp) rfl).box
 have HB4 : Hd (Bl w3 ((w3.alloc (.cells zGa 52)).setCells w3.heap.size 0 a.d.cl)) := below_sets _ nR _ _ _ (bl_a _)
 go_wp2_with (with_reducible refine wpq_at ?_; refine store_stopV 52 (.tmp 4) (.tmp 23) rfl ?_)
 change wpList _ _ _ _ _ _
 refine wpList_store_mid rfl 52 _ _ rfl w3.heap.size 0 a.d.ar rfl rfl st (by kernel_rfl) on ?_
 try simp only [Act.put]
 generalize ((w3.alloc (.cells zGa 52)).setCells w3.heap.size 0 a.d.cl) = W4 at *
 clear st on
 have HXen := iH (HXe.o.below HB4.o)
 have HBn := iH (bl_trans HB.o HB4.o)
 have HAn := iH (AT.lies.upper (uB HB4.o) HA.o)
 clear HXe HB HA
 have HXe := HXen
 have HB := HBn
 have HA := HAn
 clear HXen HBn HAn
 obtain ⟨b4, hb4⟩ : ∃ b, b = w3.heap.size := ⟨_, rfl⟩
 rw [← hb4] at HXa ⊢
 clear HB4 hb4
 have HL4 := iH (PT.lies.upper (uB HB.o) HL.o)
 have HX4 := HXe
 have HBw := HB
 have HA4 := HA
 have HXa4 := HXa
 clear HXe HB HA HXa
 have hT := HTO.o W4 HL4.o
 have lr : W4.rangeAt w.heap.size 0 e.d.cl := HX4.o.range 0 _ rfl
 go_wp2_with (with_reducible refine wpq_at ?_; refine ldr rfl rfl rfl Tryz.underlying68 lr rfl ?_; try simp only [Act.put, sA, zA, cA])
 refine hT.mono ?_
 rintro r w5 ⟨z, rfl, hz, hs, hb⟩
 have HO := iH hz
 have HS := iH hs
 have HD := iH hb
 clear hT hz hs hb lr
 have st : (w5.alloc (.cells zNa 46)).there w5.heap.size 0 28 := (OB.new w5 zNa 46).there 0 28 (by simp)
 have on : (z.d.ar : Array Value).all (·.oneCell') = true := all_oneCell_toArray (cs := z.d.cl) (by simp [Value.oneCell'])
 have HXz : Hd (Box ((w5.alloc (.cells zNa 46)).setCells w5.heap.size 0 z.d.cl) w5.heap.size z.d.cl) := ((OB.new w5 zNa 46).put z.d.cl 0 z.d.cl (by simp) rfl).box
 have HE : Hd (Bl w5 ((w5.alloc (.cells zNa 46)).setCells w5.heap.size 0 z.d.cl)) := below_sets _ nR _ _ _ (bl_a _)
 go_wp2_with (with_reducible refine wpq_at ?_; refine store_stopV 46 (.tmp 6) (.tmp 26) rfl ?_)
 change wpList _ _ _ _ _ _
 refine wpList_store_mid rfl 46 _ _ rfl w5.heap.size 0 z.d.ar rfl rfl st (by kernel_rfl) on ?_
 try simp only [Act.put]
 generalize ((w5.alloc (.cells zNa 46)).setCells w5.heap.size 0 z.d.cl) = W6 at *
 clear st on
 have HDn := iH (bl_trans HD.o HE.o)
 clear HD
 have HD := HDn
 clear HDn
 have HS6 := iH HE.o.size
 have HS46 := iH HD.o.size
 have hI := HIO.o W6 z (PT.lies.upper (uB HE.o) (PT.lies.base nZ HO.o.1)) HS.o
 have lr : W6.rangeAt w5.heap.size 0 z.d.cl := HXz.o.range 0 _ rfl
 go_wp2_with (with_reducible refine wpq_at ?_; refine ldr rfl rfl rfl Tryz.underlying46 lr rfl ?_; try simp only [Act.put, sA, zA, cA])
 refine hI.mono ?_
 rintro r w7 ⟨g, q', rfl, hg, hcp, hm, hb⟩
 obtain ⟨hqq, hsa⟩ := MeanA.uniq HMA.o hm HA4.o (AT.lies.base nZ hg.l)
 have HWG := iH (MeanA.wt hm HL.o (AT.lies.base nZ hg.l) HWT.o)
 subst hqq
 have HG := iH hg
 have HCP := iH hcp
 have HSA := iH hsa
 have HS7 := iH hb.size
 clear hg hcp hm hsa hI lr
 have HDn := iH (bl_trans HD.o hb)
 have HEn := iH (bl_trans HE.o hb)
 have HXzn := iH (HXz.o.below hb)
 clear HD HE HXz
 have HD := HDn
 have HE := HEn
 have HXz := HXzn
 clear HDn HEn HXzn
 clear hb
 have st : (w7.alloc (.cells zGa 52)).there w7.heap.size 0 13 := (OB.new w7 zGa 52).there 0 13 (by simp)
 have on : (g.d.ar : Array Value).all (·.oneCell') = true := all_oneCell_toArray (cs := g.d.cl) (by simp [Value.oneCell'])
 have HXg : Hd (Box ((w7.alloc (.cells zGa 52)).setCells w7.heap.size 0 g.d.cl) w7.heap.size g.d.cl) := ((OB.new w7 zGa 52).put g.d.cl 0 g.d.cl (by simp) rfl).box
 have HF : Hd (Bl w7 ((w7.alloc (.cells zGa 52)).setCells w7.heap.size 0 g.d.cl)) := below_sets _ nR _ _ _ (bl_a _)
 go_wp2_with (with_reducible refine wpq_at ?_; refine store_stopV 52 (.tmp 7) (.tmp 30) rfl ?_)
 change wpList _ _ _ _ _ _
 refine wpList_store_mid rfl 52 _ _ rfl w7.heap.size 0 g.d.ar rfl rfl st (by kernel_rfl) on ?_
 try simp only [Act.put]
 generalize ((w7.alloc (.cells zGa 52)).setCells w7.heap.size 0 g.d.cl) = W8 at *
 clear st on
 have HDn := iH (bl_trans HD.o HF.o)
 have HEn := iH (bl_trans HE.o HF.o)
 have HXzn := iH (HXz.o.below HF.o)
 clear HD HE HXz
 have HD := HDn
 have HE := HEn
 have HXz := HXzn
 clear HDn HEn HXzn
 have lr1 : W8.rangeAt w7.heap.size 0 g.d.cl := HXg.o.range 0 _ rfl
 have lr2 : W8.rangeAt b4 0 a.d.cl := (HXa4.o.below HD.o).range 0 _ rfl
 go_wp2_with (first | (with_reducible refine wpq_at ?_; refine ldr rfl rfl rfl Tryz.underlying52 lr1 rfl ?_; try simp only [Act.put, sA, zA, cA]) | (with_reducible refine wpq_at ?_; refine ldr rfl rfl rfl Tryz.underlying52 lr2 rfl ?_; try simp only [Act.put, sA, zA, cA]))
 refine (HEA.o W8 g a (AT.lies.upper (uB HF.o) (AT.lies.base nZ HG.o.l)) (AT.lies.upper (uB HD.o) HA4.o) HSA.o).mono ?_
 rintro r w9 ⟨rfl, hb⟩
 clear lr1 lr2
 have HDn := iH (bl_trans HD.o hb)
 have HEn := iH (bl_trans HE.o hb)
 have HXzn := iH (HXz.o.below hb)
 have HFn := iH (bl_trans HF.o hb)
 have HXgn := iH (HXg.o.below hb)
 clear HD HE HXz HF HXg
 have HD := HDn
 have HE := HEn
 have HXz := HXzn
 have HF := HFn
 have HXg := HXgn
 clear HDn HEn HXzn HFn HXgn
 clear hb
 have HBX : Hd (∀ w', Bl w9 w' → w'.rangeAt w.heap.size 0 e.d.cl ∧ w'.rangeAt w5.heap.size 0 z.d.cl) := fun w' h => ⟨(HX4.o.below (bl_trans HD.o h)).range 0 _ rfl, (HXz.o.below h).range 0 _ rfl⟩
 have HT3 : Hd (Cl 19 #[.agg e.d.ar] w9.drew (CpyPW e w9.drew)) := HTO.o w9.drew (PT.lies.upper (uB (Below.drew HD.o)) HL4.o)
 have HEQ : Hd (∀ (w10 : World) (x : PT), Below w9.heap.size w9.drew w10 → x.lies 0 w10 → e.same x → Cl 10 #[.agg z.d.ar, .agg x.d.ar] w10 (Yes w10)) := fun w10 x hb h1 h2 => eqPlan_same z x w10 (PT.lies.upper (uB ((Below.drew HE.o).trans (hb.mono HE.o.size))) (PT.lies.base nZ HO.o.1)) h1 (HS.o.symm.trans h2)
 go_wp2_with fail
 refine wqd (fun w' => Bl w9 w') ?_ fun hHeld => ?_
 · exact Below.drew brf
 refine ldq 0 41 Tryz.underlying46 (fun w' h => (HBX.o w' h).2) ?_
 refine ldq 1 42 Tryz.underlying68 (fun w' h => (HBX.o w' h).1) ?_
 refine rqA 2 fun K hK => ?_
 go_simp
 refine HT3.o.mono ?_
 rintro r w10 ⟨x, rfl, hx, hs, hb⟩
 have HB10 : Hd (Below w9.heap.size w9.drew w10) := hb
 have hEQ := HEQ.o w10 x HB10.o (PT.lies.base nZ hx.1) hs
 clear hx hs hb HEQ HT3 HBX hHeld
 refine hK.out _ _ ?_ fun hHeld => ?_
 · exact bdr.trans HB10.o
 clear hK K
 try simp only [Act.put, sA, zA, cA]
 refine rqA 3 fun K hK => ?_
 go_simp
 refine hEQ.mono ?_
 rintro r w11 ⟨rfl, hb⟩
 have HB11 : Hd (Bl w9 w11) := (bdr.trans HB10.o).trans (hb.mono (by have := HB10.o.size; simpa using this))
 clear hEQ hb HB10 hHeld
 refine hK.out _ _ ?_ fun hHeld => ?_
 · exact HB11.o
 clear hK K
 try simp only [Act.put, sA, zA, cA]
 refine tqB 4 45 (v := .bool false) ?_
 clear hHeld
 refine wpAnyH_done (by kernel_rfl) ?_ _
 have HDn := iH (bl_trans HD.o HB11.o)
 have HEn := iH (bl_trans HE.o HB11.o)
 have HXzn := iH (HXz.o.below HB11.o)
 have HFn := iH (bl_trans HF.o HB11.o)
 have HXgn := iH (HXg.o.below HB11.o)
 clear HD HE HXz HF HXg
 have HD := HDn
 have HE := HEn
 have HXz := HXzn
 have HF := HFn
 have HXg := HXgn
 clear HDn HEn HXzn HFn HXgn
 clear HB11
 have lr : w11.rangeAt w5.heap.size 0 z.d.cl := HXz.o.range 0 _ rfl
 have hM := mkPlan W4.heap.size w5.heap.size z 1 w11 HE.o.size (by decide) (by decide) (HO.o.marks HE.o (by rw [← PT.wt_same e z HS.o HL.o HO.o.1]; exact HWT.o))
 go_wp2_with (with_reducible refine wpq_at ?_; refine ldr rfl rfl rfl Tryz.underlying46 lr rfl ?_; try simp only [Act.put, sA, zA, cA])
 refine hM.mono ?_
 rintro r w12 ⟨k12, rfl, hk⟩
 have hk0 : ¬ k12 < 0 := by have := hk.q; omega
 have h67 := HS7.o
 have HDn := iH (HD.o.trans (hk.mid.below HD.o.size))
 have HKn := iH ((HG.o.marks HF.o HWG.o).kb hk.kb)
 have HS57 : Hd (w5.heap.size ≤ w7.heap.size) := Nat.le_trans HS6.o h67
 have HXgn := iH (HXg.o.mg hk.mid HS57.o)
 have HS12 := iH (Nat.le_trans HF.o.size hk.mid.size)
 have HGl := iH (AT.lies.base nZ ((HG.o.upper (uB HF.o)).keep (Stay.mg hk.mid fun q hq => ⟨Nat.le_trans HS6.o (HCP.o.i q hq).1, Nat.lt_of_lt_of_le (HCP.o.i q hq).2 HF.o.size⟩)).l)
 clear hM hk h67 HD HE HXz HF HXg HG HO HS lr HS57
 have HD := HDn
 have HK := HKn
 have HXg := HXgn
 clear HDn HKn HXgn
 have lr1 : w12.rangeAt w7.heap.size 0 g.d.cl := HXg.o.range 0 _ rfl
 have lr2 : w12.rangeAt b4 0 a.d.cl := (HXa4.o.below HD.o).range 0 _ rfl
 go_wp2_with (with_reducible refine wpq_at ?_; refine wpq_stop 52 _ rfl ?_)
 change wpList _ _ _ _ _ _
 refine wpq_load ?hw 52 _ rfl w7.heap.size 0 rfl g.d.cl _ lr1 Tryz.underlying52 rfl (by kernel_rfl) ?_
 case hw => (rw [decide_eq_false (show ¬ k12 < 0 by omega)]; rfl)
 try simp only [Act.put, sA, zA, cA]
 go_wp2_with (with_reducible refine wpq_at ?_; refine wpq_stop 52 _ rfl ?_)
 change wpList _ _ _ _ _ _
 refine wpq_load ?hw 52 _ rfl b4 0 rfl a.d.cl _ lr2 Tryz.underlying52 rfl (by kernel_rfl) ?_
 case hw => (rw [decide_eq_false (show ¬ k12 < 0 by omega)]; rfl)
 try simp only [Act.put, sA, zA, cA]
 go_wp2_with fail
 refine (HEA.o w12 g a HGl.o (AT.lies.upper (uB HD.o) HA4.o) HSA.o).mono ?_
 rintro r w13 ⟨rfl, hb⟩
 clear lr1 lr2
 have HKn := iH (HK.o.low HS12.o hb)
 have HS13 := iH (Nat.le_trans HS12.o hb.size)
 clear HK
 have HK := HKn
 clear HKn HS12
 have HDn := iH (bl_trans HD.o hb)
 have HXgn := iH (HXg.o.below hb)
 clear HD HXg HGl
 have HD := HDn
 have HXg := HXgn
 clear HDn HXgn
 clear hb
 have lr : w13.rangeAt w7.heap.size 0 g.d.cl := HXg.o.range 0 _ rfl
 have hM := mkAlg W6.heap.size w7.heap.size g 1 w13 HS13.o (by decide) (by decide) HK.o
 go_wp2_with (with_reducible refine wpq_at ?_; refine ldr rfl rfl rfl Tryz.underlying52 lr rfl ?_; try simp only [Act.put, sA, zA, cA])
 refine hM.mono ?_
 rintro r w14 ⟨m, rfl, hkm⟩
 have hk : Mkd W6.heap.size w7.heap.size w13 w14 g.tms 1 m := hkm
 have HH := iH (AT.held hk HCP.o.nd)
 have HM := iH hk.q
 have HKn := iH (HK.o.kb hk.kb)
 have HS14 := iH (Nat.le_trans HS13.o hk.mid.size)
 have HDn := iH (HD.o.trans ((hk.mid.below (Nat.le_trans HS7.o HS13.o)).mono HS46.o))
 have HXgn := iH (HXg.o.mg hk.mid nR)
 clear hM hk hkm hk0 lr HD HXg HK HS13
 have HD := HDn
 have HK := HKn
 have HXg := HXgn
 clear HDn HKn HXgn
 have HW : Hd (∀ c ∈ g.tms, c.1 < w7.heap.size) := fun c hc => (HCP.o.i _ (AT.within hc)).2
 have lr : w14.rangeAt w7.heap.size 0 g.d.cl := HXg.o.range 0 _ rfl
 have hH := hdAlg W6.heap.size w7.heap.size g 1 w14 HS14.o (by decide) (by decide) HK.o HH.o (fun c hc => Nat.lt_of_lt_of_le (HW.o c hc) HS14.o)
 go_wp2_with (with_reducible refine wpq_at ?_; refine ldr rfl rfl rfl Tryz.underlying52 lr rfl ?_; try simp only [Act.put, sA, zA, cA])
 refine hH.mono ?_
 rintro r w15 ⟨p1, rfl, hp, hpn, hb, _⟩
 obtain rfl : p1 = m := hp.o.trans HM.o.symm
 clear hp hH lr
 have HSn := iH (Nat.le_trans HS14.o (hb).size)
 have HDn := iH (bl_trans HD.o hb)
 have HXgn := iH (HXg.o.below hb)
 have HKn := iH (HK.o.low HS14.o hb)
 have HHn := iH (Hl.below (fun c hc => hb.cell (p := ⟨c.1, c.2.1, none⟩) (Nat.lt_of_lt_of_le (HW.o c hc) HS14.o)) HH.o)
 clear HD HXg HK HH
 have HD := HDn
 have HXg := HXgn
 have HK := HKn
 have HH := HHn
 clear HDn HXgn HKn HHn
 clear HS14
 have HS14 := HSn
 clear HSn
 clear hb
 have hT := HTO.o w15 (PT.lies.upper (uB HD.o) HL4.o)
 have lr : w15.rangeAt w.heap.size 0 e.d.cl := (HX4.o.below HD.o).range 0 _ rfl
 go_wp2_with (with_reducible refine wpq_at ?_; refine ldr rfl rfl rfl Tryz.underlying68 lr rfl ?_; try simp only [Act.put, sA, zA, cA])
 refine hT.mono ?_
 rintro r w16 ⟨u, rfl, hu, hs, hb⟩
 have hI := HIO.o w16 u (PT.lies.base nZ hu.1) hs
 have HSn := iH (Nat.le_trans HS14.o (hb).size)
 have HDn := iH (bl_trans HD.o hb)
 have HXgn := iH (HXg.o.below hb)
 have HKn := iH (HK.o.low HS14.o hb)
 have HHn := iH (Hl.below (fun c hc => hb.cell (p := ⟨c.1, c.2.1, none⟩) (Nat.lt_of_lt_of_le (HW.o c hc) HS14.o)) HH.o)
 clear HD HXg HK HH
 have HD := HDn
 have HXg := HXgn
 have HK := HKn
 have HH := HHn
 clear HDn HXgn HKn HHn
 clear HS14
 have HS14 := HSn
 clear HSn
 clear hT hu hs hb lr
 go_wp2_with fail
 refine hI.mono ?_
 rintro r w17 ⟨h, q2, rfl, hh, _, hm, hb⟩
 obtain ⟨hqq, hsh⟩ := MeanA.uniq HMA.o hm HA4.o (AT.lies.base nZ hh.l)
 subst hqq
 have HSH := iH hsh
 have HHl := iH (AT.lies.base nZ hh.l)
 have HSn := iH (Nat.le_trans HS14.o (hb).size)
 have HDn := iH (bl_trans HD.o hb)
 have HXgn := iH (HXg.o.below hb)
 have HKn := iH (HK.o.low HS14.o hb)
 have HHn := iH (Hl.below (fun c hc => hb.cell (p := ⟨c.1, c.2.1, none⟩) (Nat.lt_of_lt_of_le (HW.o c hc) HS14.o)) HH.o)
 clear HD HXg HK HH
 have HD := HDn
 have HXg := HXgn
 have HK := HKn
 have HH := HHn
 clear HDn HXgn HKn HHn
 clear HS14
 have HS14 := HSn
 clear HSn
 clear hI hh hm hb hsh
 have st : (w17.alloc (.cells zGa 52)).there w17.heap.size 0 13 := (OB.new w17 zGa 52).there 0 13 (by simp)
 have on : (h.d.ar : Array Value).all (·.oneCell') = true := all_oneCell_toArray (cs := h.d.cl) (by simp [Value.oneCell'])
 have HXh : Hd (Box ((w17.alloc (.cells zGa 52)).setCells w17.heap.size 0 h.d.cl) w17.heap.size h.d.cl) := ((OB.new w17 zGa 52).put h.d.cl 0 h.d.cl (by simp) rfl).box
 have HB18 : Hd (Bl w17 ((w17.alloc (.cells zGa 52)).setCells w17.heap.size 0 h.d.cl)) := below_sets _ nR _ _ _ (bl_a _)
 go_wp2_with (with_reducible refine wpq_at ?_; refine store_stopV 52 (.tmp 12) (.tmp 77) rfl ?_)
 change wpList _ _ _ _ _ _
 refine wpList_store_mid rfl 52 _ _ rfl w17.heap.size 0 h.d.ar rfl rfl st (by kernel_rfl) on ?_
 try simp only [Act.put]
 generalize ((w17.alloc (.cells zGa 52)).setCells w17.heap.size 0 h.d.cl) = W18 at *
 clear st on
 have HSn := iH (Nat.le_trans HS14.o (HB18.o).size)
 have HDn := iH (bl_trans HD.o HB18.o)
 have HXgn := iH (HXg.o.below HB18.o)
 have HKn := iH (HK.o.low HS14.o HB18.o)
 have HHn := iH (Hl.below (fun c hc => HB18.o.cell (p := ⟨c.1, c.2.1, none⟩) (Nat.lt_of_lt_of_le (HW.o c hc) HS14.o)) HH.o)
 clear HD HXg HK HH
 have HD := HDn
 have HXg := HXgn
 have HK := HKn
 have HH := HHn
 clear HDn HXgn HKn HHn
 clear HS14
 have HS14 := HSn
 clear HSn
 have lr1 : W18.rangeAt w17.heap.size 0 h.d.cl := HXh.o.range 0 _ rfl
 have lr2 : W18.rangeAt b4 0 a.d.cl := (HXa4.o.below HD.o).range 0 _ rfl
 go_wp2_with (first | (with_reducible refine wpq_at ?_; refine ldr rfl rfl rfl Tryz.underlying52 lr1 rfl ?_; try simp only [Act.put, sA, zA, cA]) | (with_reducible refine wpq_at ?_; refine ldr rfl rfl rfl Tryz.underlying52 lr2 rfl ?_; try simp only [Act.put, sA, zA, cA]))
 refine (HEA.o W18 h a (AT.lies.upper (uB HB18.o) HHl.o) (AT.lies.upper (uB HD.o) HA4.o) HSH.o).mono ?_
 rintro r w19 ⟨rfl, hb⟩
 clear lr1 lr2
 have HSn := iH (Nat.le_trans HS14.o (hb).size)
 have HDn := iH (bl_trans HD.o hb)
 have HXgn := iH (HXg.o.below hb)
 have HKn := iH (HK.o.low HS14.o hb)
 have HHn := iH (Hl.below (fun c hc => hb.cell (p := ⟨c.1, c.2.1, none⟩) (Nat.lt_of_lt_of_le (HW.o c hc) HS14.o)) HH.o)
 clear HD HXg HK HH
 have HD := HDn
 have HXg := HXgn
 have HK := HKn
 have HH := HHn
 clear HDn HXgn HKn HHn
 clear HS14
 have HS14 := HSn
 clear HSn
 clear hb HXh HB18
 have lr : w19.rangeAt w7.heap.size 0 g.d.cl := HXg.o.range 0 _ rfl
 have hH := hdAlg W6.heap.size w7.heap.size g 1 w19 HS14.o (by decide) (by decide) HK.o HH.o (fun c hc => Nat.lt_of_lt_of_le (HW.o c hc) HS14.o)
 go_wp2_with (with_reducible refine wpq_at ?_; refine ldr rfl rfl rfl Tryz.underlying52 lr rfl ?_; try simp only [Act.put, sA, zA, cA])
 refine hH.mono ?_
 rintro r w20 ⟨p2, rfl, hp, hpn, hb, _⟩
 obtain rfl : p2 = p1 := hp.o.trans HM.o.symm
 clear hp hH lr
 go_wp2
 go_ret
 exact ⟨rfl, bl_trans HBw.o (bl_trans HD.o hb)⟩
end Go.Proofs.YtoloadogihbdeaaGreat
