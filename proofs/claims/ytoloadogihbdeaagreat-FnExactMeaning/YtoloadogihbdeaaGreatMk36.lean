import Derived.Test.YtoloadogihbdeaaGreatMk35
namespace Go.Proofs.YtoloadogihbdeaaGreat
open Go.RowKit Go.Deep
set_option maxHeartbeats 40000000
set_option maxRecDepth 100000
theorem infoA13 : (Tryz.prog.info? 52).map (fun i => (i.zero, i.size, i.bytes)) = some (some (.agg zGa), 13, 216) := by kernel_rfl
theorem ET0_ow (B : Nat) (w : World) : ET0.ow B w := ⟨⟨⟨⟨rfl, nZ, fun i => by show 0 ≤ ([] : List Int)[i]?.getD 0 ∧ ([] : List Int)[i]?.getD 0 ≤ 255; simp, .inl rfl⟩, .inl rfl⟩, ⟨⟨rfl, nZ, fun i => by show 0 ≤ ([] : List Int)[i]?.getD 0 ∧ ([] : List Int)[i]?.getD 0 ≤ 255; simp, .inl rfl⟩, .inl rfl⟩, ⟨by decide, by decide, by decide, by decide⟩, nZ, .inl rfl, fun i hi => absurd hi nN⟩, ⟨.inl rfl, .inl rfl, .inl rfl, fun i hi => absurd hi nN⟩⟩
def SL0 : SL := ⟨none, 0, 0, []⟩
theorem OB.bel9 {w w' : World} {b B : Nat} {L : List Value} (h : OB w b L) (hb : Below B w w') (hB : b < B) : OB w' b L := ⟨Nat.lt_of_lt_of_le h.1 hb.size, fun c u hu => ⟨(hb.cell (p := ⟨b, c, none⟩) hB).trans (h.2 c u hu).1, (hb.frozen (p := ⟨b, c, none⟩) hB).trans (h.2 c u hu).2⟩⟩
theorem SL0_own (B : Nat) (w : World) : SL0.own B w := ⟨⟨⟨rfl, nZ, fun i => by show 0 ≤ ([] : List Int)[i]?.getD 0 ∧ ([] : List Int)[i]?.getD 0 ≤ 255; simp, .inl rfl⟩, .inl rfl⟩, .inl rfl⟩
theorem TRow0 (B : Nat) (w : World) : TRowF B w none [] := ⟨.inl rfl, .inl rfl, fun x hx => by cases hx⟩
theorem meaning_0 (d : PN) (kid : Nat → PT) (deep : Int) (w : World) (h : (PT.mk d kid).lies 0 w) (hp : pOk (PT.mk d kid) deep) (h0 : d.n = 0)
 (IH : ∀ i, i < d.n → ∀ W, Bl w W → Calls Tryz.prog 65 #[.agg (kid i).d.ar] W fun r w' => ∃ y : AT, r = .returned (.agg y.d.ar) ∧ y.ow W.heap.size w' ∧ Cp W.heap.size w'.heap.size y.fp ∧ Mean (kid i) y ∧ Bl W w') :
 Calls Tryz.prog 65 #[.agg d.ar] w fun r w' => ∃ y : AT, r = .returned (.agg y.d.ar) ∧ y.ow w.heap.size w' ∧ Cp w.heap.size w'.heap.size y.fp ∧ Mean (PT.mk d kid) y ∧ Bl w w' := by
 obtain ⟨hpl, he, hv, ht, htn, hn, hR, hk⟩ := h
 obtain ⟨_, hN, hkid⟩ := hp
 have HP := iH (fun W (hb : Bl w W) => patCopied d.p W (hpl.upper (uB hb)))
 have HEX := iH (fun W (hb : Bl w W) => exprCopied d.e W (ET.lies.upper (uB hb) he))
 have HV := iH (fun W (hb : Bl w W) => clone_own d.v W (hv.upper (uB hb)))
 have HTS := iH (fun W (hb : Bl w W) => termsCopied d.ta d.tc d.tb W htn (ht.upper (uB hb)))
 have HI : Hd (∀ i, i < d.n → ∀ W, Bl w W → Cl 65 #[.agg (kid i).d.ar] W fun r w' => ∃ y : AT, r = .returned (.agg y.d.ar) ∧ y.ow W.heap.size w' ∧ Cp W.heap.size w'.heap.size y.fp ∧ Mean (kid i) y ∧ Bl W w') := fun i hi W hb => IH i hi W hb
 have HND := iH hN
 have HEL := iH he.ne
 have HTN := iH htn
 have H0 := iH h0
 have hkk : d.k = 7 ∨ d.k = 8 := by
  have h1 := hN.n
  unfold kidsP at h1
  by_cases hh : d.k = 7 ∨ d.k = 8
  · exact hh
  rw [h0, if_neg hh] at h1
  split at h1 <;> omega
 clear hR h0
 have HNN := iH hn
 have HX := iH ((Box.new w d.ar 46 (0, 0)).below (bl_a (.cells zGa 52)))
 have HO : Hd (OB ((w.alloc (.cells d.ar 46)).alloc (.cells zGa 52)) (w.heap.size + 1) zGl) := (show OB _ _ _ by have h := OB.new (w.alloc (.cells d.ar 46)) zGa 52; simpa using h)
 have HB : Hd (Bl w ((w.alloc (.cells d.ar 46)).alloc (.cells zGa 52))) := bl_alloc (bl_a _) _
 clear hpl he hv ht htn hk hN hkid IH
 go_in
 go_upto_region 1 with fail
 generalize ((w.alloc _).alloc _) = W1 at *
 have HG : Hd (w.heap.size + 1 < W1.heap.size) := HO.o.1
 have c6 := HX.o.2 27 _ rfl
 go_wp2_with fail
 clear c6
 go_loopw [3, 9] (fun o i wr => ∃ (j : Nat) (v : Value) (k' : Nat → AT), j ≤ d.n ∧ v = o ∧ i = .int .i64 j ∧ Hd (RowO 52 13 W1 wr v j (fun i => (k' i).d.cells) (fun i => (k' i).fp)) ∧ Hd (∀ i, i < j → (k' i).ow W1.heap.size wr) ∧ Hd (∀ i, i < j → Mean (kid i) (k' i)))
  (fun _ i _ => d.n - (intOf i).toNat)
 case atStart => exact ⟨0, _, fun _ => .nil, nZ, rfl, rfl, RowO.nil _ _ _ _ brf, fun i hi => absurd hi nN, fun i hi => absurd hi nN⟩
 obtain ⟨j, v, k', hj, rfl, rfl, HR, HKO, HKM⟩ := hrel
 by_cases hlj : j < d.n
 · exact absurd hlj (by rw [H0.o]; omega)
 obtain rfl : j = d.n := by omega
 obtain ⟨a', c', rfl, hcc, hK, hZ, hCp⟩ := HR.o.fin
 have HKR := iH hK
 have HZR := iH hZ
 have HCR := iH hCp
 have HXR := iH (HX.o.below HR.o.bel)
 have HOR := iH (HO.o.below HR.o.bel)
 have HBR := iH (bl_trans HB.o HR.o.bel)
 have HWR := iH HR.o.bel.size
 clear hK hZ hCp hcc HI hj hlj
 have c0 := HXR.o.2 0 _ rfl
 rcases hkk with hk7 | hk8
 · have h8 : ¬ d.k = 8 := by omega
   have h0 : ¬ d.k = 0 := by omega
   have HK8 := iH h8
   have HK0 := iH h0
   clear hk7
   clear HX HO HB
   have HX := HXR
   have HO := HOR
   have HB := HBR
   clear HXR HOR HBR HR
   go_wp2_with fail
   refine wqd (fun w' => Bl w w' ∧ Box w' w.heap.size d.cl) ?_ fun hHeld => ?_
   · exact ⟨Below.drew HB.o, HX.o.below bdr⟩
   refine tqB 0 35 ?_
   refine tqB 1 36 (v := .int .i64 d.k) (hy := by intro w' hSw; have c0 := hSw.2.2 0 _ rfl; go_simp; (try with_reducible rfl)) ?_
   refine tqB 2 37 ?_
   refine ldq 3 38 Tryz.underlying42 (fun w' h => h.2.range 17 d.e.d.cl rfl) ?_
   refine tqB 5 40 ?_
   refine tqB 6 41 (v := .slice d.v.a d.v.len d.v.cap) (hy := by intro w' hSw; have c0 := hSw.2.2 25 _ rfl; go_simp; (try with_reducible rfl)) ?_
   refine tqB 8 43 ?_
   refine tqB 9 44 (v := .slice d.ta d.tb.length d.tc) (hy := by intro w' hSw; have c0 := hSw.2.2 26 _ rfl; go_simp; (try with_reducible rfl)) ?_
   refine tqB 11 46 (v := .slice a' d.n c') ?_
   refine rqA 4 fun K hK => ?_
   go_simp
   refine (HEX.o _ hHeld.1).mono ?_
   rintro r w2 ⟨y1, rfl, hy, hc, he, hb2⟩
   have HBn := iH (bl_trans (Below.drew HB.o) hb2)
   have HXn := iH ((HX.o.below bdr).below hb2)
   have HOn := iH ((HO.o.below bdr).below hb2)
   have HZn : Hd (Bl wr w2) := (show Below _ _ _ from bl_trans bdr hb2)
   have HC : Hd (Cp wr.heap.size w2.heap.size (y1.fp)) := hc
   have HY1 : Hd (y1.ow wr.heap.size w2) := hy
   have HE1 := iH he
   clear hy hc he hb2 hHeld HB HX HO
   have HB := HBn
   have HX := HXn
   have HO := HOn
   have HZ := HZn
   clear HBn HXn HOn HZn
   go_wp2_with fail
   refine hK.out _ _ ?_ fun hHeld => ?_
   · exact ⟨HB.o, HX.o⟩
   clear hK K
   try simp only [Act.put, sA, zA, cA]
   refine rqA 7 fun K hK => ?_
   go_simp
   refine (HV.o _ hHeld.1).mono ?_
   rintro r w3 ⟨y2, rfl, hy, hc, he, hb2⟩
   have HBn := iH (bl_trans HB.o hb2)
   have HXn := iH (HX.o.below hb2)
   have HOn := iH (HO.o.below hb2)
   have HZn := iH (bl_trans HZ.o hb2)
   have HCn : Hd (Cp wr.heap.size w3.heap.size (y1.fp ++ y2.fp)) := HC.o.app hc HZ.o.size hb2.size
   have HY1n := iH (HY1.o.upper (uB hb2))
   have HY2 : Hd (y2.own wr.heap.size w3) := hy.base HZ.o.size
   have HE2 := iH he
   clear hy hc he hb2 hHeld HB HX HO HZ HC HY1
   have HB := HBn
   have HX := HXn
   have HO := HOn
   have HZ := HZn
   have HC := HCn
   have HY1 := HY1n
   clear HBn HXn HOn HZn HCn HY1n
   go_wp2_with fail
   refine hK.out _ _ ?_ fun hHeld => ?_
   · exact ⟨HB.o, HX.o⟩
   clear hK K
   try simp only [Act.put, sA, zA, cA]
   refine rqA 10 fun K hK => ?_
   go_simp
   refine (HTS.o _ hHeld.1).mono ?_
   rintro r w4 ⟨y3, rfl, hy, hc, he, hb2⟩
   have HBn := iH (bl_trans HB.o hb2)
   have HXn := iH (HX.o.below hb2)
   have HOn := iH (HO.o.below hb2)
   have HZn := iH (bl_trans HZ.o hb2)
   have HCn : Hd (Cp wr.heap.size w4.heap.size (y1.fp ++ y2.fp ++ tfp y3.a y3.l)) := HC.o.app hc HZ.o.size hb2.size
   have HY1n := iH (HY1.o.upper (uB hb2))
   have HY2n := iH (HY2.o.upper (uB hb2))
   have HY3 : Hd (y3.own wr.heap.size w4) := hy.base HZ.o.size
   have HE3 := iH he
   clear hy hc he hb2 hHeld HB HX HO HZ HC HY1 HY2
   have HB := HBn
   have HX := HXn
   have HO := HOn
   have HZ := HZn
   have HC := HCn
   have HY1 := HY1n
   have HY2 := HY2n
   clear HBn HXn HOn HZn HCn HY1n HY2n
   go_wp2_with fail
   refine hK.out _ _ ?_ fun hHeld => ?_
   · exact ⟨HB.o, HX.o⟩
   clear hK K
   try simp only [Act.put, sA, zA, cA]
   refine tqB 12 47 (v := .agg (gA d.k (.slice none 0 0) y1.d y2 (.slice y3.a y3.l.length y3.c) (.slice a' d.n c'))) ?_
   have st : w4.there (w.heap.size + 1) 0 13 := HO.o.there 0 13 (by simp)
   have on : ((gA d.k (.slice none 0 0) y1.d y2 (.slice y3.a y3.l.length y3.c) (.slice a' d.n c')) : Array Value).all (·.oneCell') = true := all_oneCell_toArray (cs := (gL d.k (.slice none 0 0) y1.d y2 (.slice y3.a y3.l.length y3.c) (.slice a' d.n c'))) (by simp [Value.oneCell'])
   have hrd : (w4.setCells (w.heap.size + 1) 0 (gL d.k (.slice none 0 0) y1.d y2 (.slice y3.a y3.l.length y3.c) (.slice a' d.n c'))).rangeAt (w.heap.size + 1) 0 (gL d.k (.slice none 0 0) y1.d y2 (.slice y3.a y3.l.length y3.c) (.slice a' d.n c')) := World.rangeAt_setCells_same _ _ _ _ st
   have hbf := iH (below_sets (w0 := w) (w.heap.size + 1) (by omega) (gL d.k (.slice none 0 0) y1.d y2 (.slice y3.a y3.l.length y3.c) (.slice a' d.n c')) 0 w4 HB.o)
   have hxf := iH (HX.o.upper (but_sets (w.heap.size + 1) (gL d.k (.slice none 0 0) y1.d y2 (.slice y3.a y3.l.length y3.c) (.slice a' d.n c')) 0 w4) (by omega))
   have hsf : Hd ((w4.setCells (w.heap.size + 1) 0 (gL d.k (.slice none 0 0) y1.d y2 (.slice y3.a y3.l.length y3.c) (.slice a' d.n c'))).heap.size = w4.heap.size) := (but_sets (w.heap.size + 1) (gL d.k (.slice none 0 0) y1.d y2 (.slice y3.a y3.l.length y3.c) (.slice a' d.n c')) 0 w4).size
   have huf : Hd (Upper (w.heap.size + 1 + 1) w4 (w4.setCells (w.heap.size + 1) 0 (gL d.k (.slice none 0 0) y1.d y2 (.slice y3.a y3.l.length y3.c) (.slice a' d.n c')))) := upper_sets (w.heap.size + 1) (gL d.k (.slice none 0 0) y1.d y2 (.slice y3.a y3.l.length y3.c) (.slice a' d.n c')) 0 w4
   refine rqA 13 fun K hK => ?_
   refine step_storeV 52 (w.heap.size + 1) 0 (gA d.k (.slice none 0 0) y1.d y2 (.slice y3.a y3.l.length y3.c) (.slice a' d.n c')) st on ?_
   refine hK.out _ _ ?_ fun hHeld => ?_
   · exact ⟨hbf.o, hxf.o⟩
   clear hK K st on hHeld
   try simp only [Act.put]
   generalize w4.setCells (w.heap.size + 1) 0 (gL d.k (.slice none 0 0) y1.d y2 (.slice y3.a y3.l.length y3.c) (.slice a' d.n c')) = W5 at *
   refine wpAnyH_done (by kernel_rfl) ?_ _
   go_wp2
   try simp only [Exit.inBlock, Exit.then]
   refine bodyPost_ret (v := .agg (gA d.k (.slice none 0 0) y1.d y2 (.slice y3.a y3.l.length y3.c) (.slice a' d.n c'))) ?hr rfl ?hp
   case hr => exact results_cell rfl rfl (run_loadVar_mid (P := Tryz.prog) _ (w.heap.size + 1) 0 52 (gL d.k (.slice none 0 0) y1.d y2 (.slice y3.a y3.l.length y3.c) (.slice a' d.n c')) _ hrd Tryz.underlying52 rfl (by kernel_rfl))
   have hle : w.heap.size ≤ wr.heap.size := by have := HG.o; have := HWR.o; omega
   have HU : Upper wr.heap.size _ W5 := huf.o.mono (by have := HG.o; have := HWR.o; omega)
   have HU1 : Upper W1.heap.size _ W5 := huf.o.mono (by have := HG.o; omega)
   have HY1f := (HY1.o.upper HU).base hle
   have HY2f := (HY2.o.upper HU).base hle
   have HY3f := (HY3.o.upper HU).base hle
   have hl3 : y3.l.length ≤ 1048576 := by have h := congrArg List.length HE3.o; simp at h; have := HTN.o; omega
   have hw1 : w.heap.size ≤ W1.heap.size := by have := HG.o; omega
   have hK5 := ((HKR.o.upper (uB HZ.o)).upper HU1).base hw1
   have hZ5 := ((HZR.o.upper (uB HZ.o)).upper HU1).base hw1
   have hO5 := fun i hi => (((HKO.o i hi).upper (uB HZ.o)).upper HU1).base hw1
   have hC5 := ((HCR.o.app HC.o HWR.o HZ.o.size).mono hw1 (Nat.le_of_eq hsf.o.symm))
   refine ⟨AT.mk ⟨d.k, none, 0, 0, AN0.pat, y1, y2, y3.a, y3.c, y3.l, a', c', d.n⟩ k', rfl, ⟨⟨.inl rfl, fun i hi => absurd hi nN, nZ, HY1f.l, HY2f.1, HY3f.row, hl3, HNN.o, hK5, fun i hi => (hO5 i hi).l⟩, ⟨.inl rfl, fun i hi => absurd hi nN, HY1f.z, HY2f.2, ⟨HY3f.z, HY3f.t⟩, hZ5, fun i hi => (hO5 i hi).z⟩⟩, ?_, ⟨rfl, HE1.o, HE2.o.symm, HE3.o, .inl ⟨HK0.o, fun h => absurd h HK8.o, fun _ => rfl, rfl, HKM.o⟩⟩, hbf.o⟩
   refine ⟨?_, ?_⟩
   · show (([] ++ [] ++ y1.fp ++ y2.fp ++ tfp y3.a y3.l) ++ (rfp a' d.n ++ catB (fun i => (k' i).fp) d.n)).Nodup
     exact (List.perm_append_comm.nodup_iff).1 hC5.nd
   intro b hb
   exact hC5.i b (List.mem_append.2 (List.mem_append.1 hb).symm)
 have HK := iH hk8
 have hst : wr.there (w.heap.size + 1) 0 13 := HOR.o.there 0 13 (by simp)
 have on : (zGa : Array Value).all (·.oneCell') = true := all_oneCell_toArray (cs := zGl) (by simp [Value.oneCell'])
 have hrd : (wr.setCells (w.heap.size + 1) 0 zGl).rangeAt (w.heap.size + 1) 0 zGl := World.rangeAt_setCells_same _ _ _ _ hst
 have hbf := iH (below_sets (w0 := w) (w.heap.size + 1) (by omega) zGl 0 wr HBR.o)
 go_wp2_with (with_reducible refine wpv_at ?_; refine store_stopV 52 (.tmp 2) (.tmp 23) rfl ?_)
 change wpList _ _ _ _ _ _
 refine wpList_store_mid rfl 52 _ _ rfl (w.heap.size + 1) 0 zGa rfl rfl hst (by kernel_rfl) on ?_
 try simp only [Act.put]
 generalize wr.setCells (w.heap.size + 1) 0 zGl = W5 at *
 go_wp2
 try simp only [Exit.inBlock, Exit.then]
 refine bodyPost_ret (v := .agg zGa) ?hru rfl ?hpu
 case hru => exact results_cell rfl rfl (run_loadVar_mid (P := Tryz.prog) _ (w.heap.size + 1) 0 52 zGl _ hrd Tryz.underlying52 rfl (by kernel_rfl))
 have hE := HND.o.e0 (by rw [HK.o]; unfold hasE; decide)
 have hV := HND.o.v0 (by rw [HK.o]; unfold hasV; decide)
 have hT := HND.o.t0 (by rw [HK.o]; decide)
 exact ⟨AT.mk ⟨0, none, 0, 0, AN0.pat, ET0, SL0, none, 0, [], none, 0, 0⟩ (fun _ => .nil), rfl, ⟨⟨.inl rfl, fun i hi => absurd hi nN, nZ, (ET0_ow _ _).l, (SL0_own _ _).1, TRow0 _ _, nZ, nZ, .inl rfl, fun i hi => absurd hi nN⟩, ⟨.inl rfl, fun i hi => absurd hi nN, (ET0_ow _ _).z, .inl rfl, ⟨.inl rfl, fun x hx => by cases hx⟩, .inl rfl, fun i hi => absurd hi nN⟩⟩, Cp.nil _ _, ⟨rfl, zeroE_two HEL.o (fun h => by cases h) hE ET0_zero, hV, by rw [hT], .inl ⟨by rw [HK.o]; decide, fun _ => rfl, fun h => absurd HK.o h, H0.o.symm, fun i hi => absurd hi (by rw [H0.o]; omega)⟩⟩, hbf.o⟩
end Go.Proofs.YtoloadogihbdeaaGreat
