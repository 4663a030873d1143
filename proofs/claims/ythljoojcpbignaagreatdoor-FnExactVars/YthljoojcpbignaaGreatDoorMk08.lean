import Derived.Test.YthljoojcpbignaaGreatDoorMk06
namespace Go.Proofs.YthljoojcpbignaaGreatDoor
open Go.RowKit Go.Deep
set_option maxHeartbeats 40000000
set_option maxRecDepth 100000
theorem l4elem_3 (d : UN) (ka kb : Nat → UT) (hkv : d.k = 3) (deep L : Int) (g : Nat) (w0 w : World) (hl : (UT.mk d ka kb).lies 0 w0) (hw : Bl w0 w) (hg : w0.heap.size ≤ g) (hc : Ctr w g L) (hd0 : 0 ≤ deep) (hd1 : deep ≤ 100000) (hL0 : 0 ≤ L) (hL1 : L ≤ 100000)
 (IA : GIH w0 g deep d.aa d.an d.ac ka)
 (IB : GIH w0 g deep d.ba d.bn d.bc kb) :
 Calls Tryz.prog 94 #[.agg d.ar, .int .i64 deep, .pointer (some ⟨g, 0, none⟩)] w (CtrAns (uOk (.mk d ka kb) deep) (usz (.mk d ka kb)) g L w) := by
 try unfold UN.ar
 obtain ⟨hp, he, hv, ht, htn, ⟨an, aR⟩, ⟨bn, bR⟩, hka, hkb⟩ := hl
 have hgw := hc.lt
 have hsz := hw.size
 have HKV := iH hkv
 obtain ⟨nt, hnt⟩ : ∃ nt, nt = d.tb.length := ⟨_, rfl⟩
 have HNT := iH hnt
 have HLV := iH (nil_len hv.1.1)
 have HZE := iH (fun W (hb : Bl w0 W) => l4zeroExpr_any d.e W (ET.lies.upper (uB hb) he))
 have HZP := iH (fun W (hb : Bl w0 W) => l4zeroPat_any d.p W (hp.upper (uB hb)))
 have HIA := iH IA
 have HIB := iH IB
 have HSZ : Hd (usz (.mk d ka kb) = 1 + 0 + (sumN d.an (fun i => usz (ka i)) + sumN d.bn (fun i => usz (kb i)))) := (show usz (.mk d ka kb) = _ by rw [usz_mk]; unfold ownU; rw [hkv]; simp)
 have HCS : Hd (CS w0 w ((w.setCell ⟨g, 0, none⟩ (.int .i64 (L - 1))).alloc (.cells (uA 3 d.p d.e.d d.v (.slice d.ta nt d.tc) (.slice d.aa d.an d.ac) (.slice d.ba d.bn d.bc)) 103)) g (L - 1) (cellsU d 3 nt)) := CS.new hw hg hc _ 103 (L - 1)
 have c0 := fun o => ((bl_a (w := w) o).cell (p := ⟨g, 0, none⟩) hgw).trans hc.cell
 have f0 := fun o => ((bl_a (w := w) o).frozen (p := ⟨g, 0, none⟩) hgw).trans hc.fr
 have hwr : IntKind.i64.wrap (L - 1) = L - 1 := by rw [IntKind.wrap_i64]; omega
 have hdw : IntKind.i64.wrap (deep + 1) = deep + 1 := by rw [IntKind.wrap_i64]; omega
 rw [hkv, ← hnt]
 clear hp he hv ht htn an aR bn bR hka hkb hw hc IA IB hkv hnt
 go_in
 go_upto_region 2 with fail
 generalize ((w.setCell ⟨g, 0, none⟩ (.int .i64 (L - 1))).alloc (.cells (uA 3 d.p d.e.d d.v (.slice d.ta nt d.tc) (.slice d.aa d.an d.ac) (.slice d.ba d.bn d.bc)) 103)) = W1 at *
 clear c0 f0 hwr
 have hW1 := HCS.o.bl.size
 have cg := HCS.o.ct.cell
 have x0 := HCS.o.bx.2 0 _ rfl
 by_cases hLz : L - 1 < 0
 · have HNO : Hd (¬ (uOk (.mk d ka kb) deep ∧ ((usz (.mk d ka kb) : Nat) : Int) ≤ L)) := fun hh => by
    have h := hh.2
    have h2 := HSZ.o
    omega
   go_wp2
   go_ret
   exact CtrAns.no HNO.o HCS.o.ct HCS.o.pa
 by_cases hdz : deep > 10
 · have HNO : Hd (¬ (uOk (.mk d ka kb) deep ∧ ((usz (.mk d ka kb) : Nat) : Int) ≤ L)) := fun hh => by
    have h := hh.1.1
    omega
   go_wp2
   go_ret
   exact CtrAns.no HNO.o HCS.o.ct HCS.o.pa
 have hd10 : deep ≤ 10 := by omega
 obtain ⟨y1, y2, y3, y4, y5, y6, y7, y8, y9, y10, y11, y12, y13, y14, y15⟩ := bxB HCS.o.bx
 have ZP := HZP.o W1 HCS.o.bl
 go_wp2_with fail
 refine ZP.mono ?_
 rintro e w2 ⟨q2, rfl, hq2, hb2⟩
 have HC2 := iH (HCS.o.below HCS.o.bl.size hb2)
 clear ZP hb2 HCS x0 cg y1 y2 y3 y4 y5 y6 y7 y8 y9 y10 y11 y12 y13 y14 y15
 cases q2
 · have HNO : Hd (¬ NodeU d) := fun hh => by
    have h4 := hq2.2 (hh.p0 (by rw [HKV.o]; decide))
    cases h4
   clear hq2
   go_wp2
   go_ret
   exact CtrAns.no (uOk_no HNO.o) HC2.o.ct HC2.o.pa
 have HP0 := iH (fun (_ : d.k ≠ 0) => hq2.1 rfl)
 have HP1 : Hd (d.k = 0 → ptOk d.p) := fun h => absurd h (by rw [HKV.o]; decide)
 clear hq2
 obtain ⟨y0, y16, y17, y18, y19, y20, y21, y22, y23⟩ := bxC HC2.o.bx
 have ZE := HZE.o w2 HC2.o.bl
 go_wp2_with fail
 refine ZE.mono ?_
 rintro e w3 ⟨q3, rfl, hq3, hb3⟩
 have HC3 := iH (HC2.o.below HC2.o.bl.size hb3)
 clear ZE hb3 HC2 y0 y16 y17 y18 y19 y20 y21 y22 y23
 cases q3
 · have HNO : Hd (¬ NodeU d) := fun hh => by
    have h4 := hq3.2 (hh.e0 (by rw [HKV.o]; unfold hasX; omega))
    cases h4
   clear hq3
   go_wp2
   go_ret
   exact CtrAns.no (uOk_no HNO.o) HC3.o.ct HC3.o.pa
 have HE0 := iH (fun (_ : ¬ hasX d.k) => hq3.1 rfl)
 have HE1 : Hd (hasX d.k → eOk 10 d.e (deep + 1)) := fun h => absurd h (by rw [HKV.o]; unfold hasX; omega)
 obtain ⟨L3, hL3e⟩ : ∃ L3, L3 = L - 1 := ⟨_, rfl⟩
 have HL3 : Hd (L3 = L - (1 + 0 : Nat)) := (show L3 = _ by omega)
 have hL30 : 0 ≤ L3 := by omega
 have hL31 : L3 ≤ 100000 := by omega
 rw [← hL3e] at HC3
 clear hq3 hL3e
 obtain ⟨x0, x24, x25, x26, x27⟩ := bxD HC3.o.bx
 by_cases hv1 : d.v.len = 0
 rotate_left
 · have HNO : Hd (¬ NodeU d) := fun hh => hv1 (HLV.o.1 (hh.v0 (by rw [HKV.o]; unfold hasN; omega)))
   have hvz : (0 : Int) < (d.v.len : Int) := by omega
   clear hv1
   go_wp2
   go_ret
   exact CtrAns.no (uOk_no HNO.o) HC3.o.ct HC3.o.pa
 have HV1 : Hd (hasN d.k → nameOk d.v.b = true) := fun h => absurd h (by rw [HKV.o]; unfold hasN; omega)
 have HV0 := iH (fun (_ : ¬ hasN d.k) => HLV.o.2 hv1)
 have hvz : ¬ (0 : Int) < (d.v.len : Int) := by omega
 clear hv1
 by_cases ht1 : nt = 0
 rotate_left
 · have HNO : Hd (¬ NodeU d) := fun hh => ht1 (by rw [HNT.o]; exact tb_nil.1 (hh.t0 (by rw [HKV.o]; decide)))
   have htz : (0 : Int) < (nt : Int) := by omega
   clear ht1
   go_wp2
   go_ret
   exact CtrAns.no (uOk_no HNO.o) HC3.o.ct HC3.o.pa
 have HT0 := iH (show d.tb.length = 0 by rw [← HNT.o]; exact ht1)
 have htz : ¬ (0 : Int) < (nt : Int) := by omega
 have htz2 : ¬ (8 : Int) < (nt : Int) := by omega
 clear ht1
 have HTO : Hd (∀ x ∈ d.tb, x.td.ok = true) := fun x hx => absurd hx (by rw [tb_nil.2 HT0.o]; exact List.not_mem_nil)
 have HT1 := iH (fun (_ : d.k ≠ 6) => tb_nil.2 HT0.o)
 have HTN := iH (show d.tb.length ≤ 8 by rw [HT0.o]; omega)
 go_wp2_with fail
 refine wp_loop_rounds 1 ?_
 rw [rounds_succ]
 by_cases hb1 : d.bn = 0
 rotate_left
 · have HNO : Hd (¬ NodeU d) := fun hh => hb1 (hh.b0 (by rw [HKV.o]; decide))
   have hbz : (0 : Int) < (d.bn : Int) := by omega
   clear hb1
   go_wp2
   go_ret
   exact CtrAns.no (uOk_no HNO.o) HC3.o.ct HC3.o.pa
 have HB0 := iH (fun (_ : d.k ≠ 2) => hb1)
 have HBE : Hd (Value.slice d.ba d.bn d.bc = .slice d.ba 0 d.bc) := (show _ = _ by rw [hb1])
 have hbz : ¬ (0 : Int) < (d.bn : Int) := by omega
 clear hb1
 have HND : Hd (NodeU d) := ⟨by rw [HKV.o]; decide, by rw [HKV.o]; decide, HP1.o, HP0.o, HE0.o, HV1.o, HV0.o, HT1.o, HTN.o, HTO.o, fun h => absurd (by rw [HKV.o]; unfold hasG; omega) h, HB0.o⟩
 have GA := HIA.o L3 _ HC3.o.bl HC3.o.ct hL30 hL31 hd10
 go_wp2_with fail
 refine GA.mono ?_
 rintro e w6 ⟨q6, L6, rfl, hq6, hL6, hc6, hp6⟩
 have HC6 := iH (HC3.o.past hg hgw hp6 hc6)
 clear GA hc6 hp6 HC3 x0 x24 x25 x26 x27
 cases q6
 · have HNO : Hd (¬ (uOk (.mk d ka kb) deep ∧ ((usz (.mk d ka kb) : Nat) : Int) ≤ L)) := fun hh => by
    have h1 := hh.1.2.2.2.1
    have h2 := HSZ.o
    have h3 := hh.2
    have h5 := HL3.o
    have h4 := hq6.2 ⟨h1, by omega⟩
    cases h4
   clear hq6 hL6
   go_wp2
   go_ret
   exact CtrAns.no HNO.o HC6.o.ct HC6.o.pa
 obtain ⟨h61, h62⟩ := hq6.1 rfl
 have h63 := hL6 rfl
 have HOA := iH h61
 have HL6 := iH h63
 have hL60 : 0 ≤ L6 := by omega
 have hL61 : L6 ≤ 100000 := by omega
 clear h61 h62 h63 hq6 hL6
 have x27 := HC6.o.bx.2 27 _ rfl
 have GB := HIB.o L6 _ HC6.o.bl HC6.o.ct hL60 hL61 hd10
 have GBz := GB
 rw [HBE.o] at GBz
 go_wp2_with fail
 first | with_reducible refine GB.mono ?_ | with_reducible refine GBz.mono ?_
 rintro e w7 ⟨q7, L7, rfl, hq7, hL7, hc7, hp7⟩
 have HC7 := iH (HC6.o.past hg hgw hp7 hc7)
 clear GB hc7 hp7 HC6 x27 GBz
 cases q7
 · have HNO : Hd (¬ (uOk (.mk d ka kb) deep ∧ ((usz (.mk d ka kb) : Nat) : Int) ≤ L)) := fun hh => by
    have h1 := hh.1.2.2.2.2
    have h2 := HSZ.o
    have h3 := hh.2
    have h5 := HL3.o
    have h6 := HL6.o
    have h4 := hq7.2 ⟨h1, by omega⟩
    cases h4
   clear hq7 hL7
   go_wp2
   go_ret
   exact CtrAns.no HNO.o HC7.o.ct HC7.o.pa
 obtain ⟨h71, h72⟩ := hq7.1 rfl
 have h73 := hL7 rfl
 have HOB := iH h71
 have HFL : Hd (((usz (.mk d ka kb) : Nat) : Int) ≤ L ∧ L7 = L - (usz (.mk d ka kb) : Nat)) := (show _ ∧ _ by have h2 := HSZ.o; have h5 := HL3.o; have h6 := HL6.o; omega)
 clear h71 h72 h73 hq7 hL7
 go_wp2
 go_ret
 exact CtrAns.yes ⟨hd10, HND.o, HE1.o, HOA.o, HOB.o⟩ HFL.o.1 HFL.o.2 HC7.o.ct HC7.o.pa
theorem l4elem_4 (d : UN) (ka kb : Nat → UT) (hkv : d.k = 4) (deep L : Int) (g : Nat) (w0 w : World) (hl : (UT.mk d ka kb).lies 0 w0) (hw : Bl w0 w) (hg : w0.heap.size ≤ g) (hc : Ctr w g L) (hd0 : 0 ≤ deep) (hd1 : deep ≤ 100000) (hL0 : 0 ≤ L) (hL1 : L ≤ 100000)
 (IA : GIH w0 g deep d.aa d.an d.ac ka)
 (IB : GIH w0 g deep d.ba d.bn d.bc kb) :
 Calls Tryz.prog 94 #[.agg d.ar, .int .i64 deep, .pointer (some ⟨g, 0, none⟩)] w (CtrAns (uOk (.mk d ka kb) deep) (usz (.mk d ka kb)) g L w) := by
 try unfold UN.ar
 obtain ⟨hp, he, hv, ht, htn, ⟨an, aR⟩, ⟨bn, bR⟩, hka, hkb⟩ := hl
 have hgw := hc.lt
 have hsz := hw.size
 have HKV := iH hkv
 obtain ⟨nt, hnt⟩ : ∃ nt, nt = d.tb.length := ⟨_, rfl⟩
 have HNT := iH hnt
 have HLV := iH (nil_len hv.1.1)
 have HEF := iH (fun W L' (hb : Bl w0 W) (hc' : Ctr W g L') (h0 : 0 ≤ L') (h1 : L' ≤ 100000) (h10 : deep ≤ 10) => l4expr_any d.e (deep + 1) L' g w0 W he hb hg hc' (by omega) (by omega) h0 h1)
 have HZP := iH (fun W (hb : Bl w0 W) => l4zeroPat_any d.p W (hp.upper (uB hb)))
 have HIA := iH IA
 have HIB := iH IB
 have HSZ : Hd (usz (.mk d ka kb) = 1 + esz d.e + (sumN d.an (fun i => usz (ka i)) + sumN d.bn (fun i => usz (kb i)))) := (show usz (.mk d ka kb) = _ by rw [usz_mk]; unfold ownU; rw [hkv]; simp)
 have HCS : Hd (CS w0 w ((w.setCell ⟨g, 0, none⟩ (.int .i64 (L - 1))).alloc (.cells (uA 4 d.p d.e.d d.v (.slice d.ta nt d.tc) (.slice d.aa d.an d.ac) (.slice d.ba d.bn d.bc)) 103)) g (L - 1) (cellsU d 4 nt)) := CS.new hw hg hc _ 103 (L - 1)
 have c0 := fun o => ((bl_a (w := w) o).cell (p := ⟨g, 0, none⟩) hgw).trans hc.cell
 have f0 := fun o => ((bl_a (w := w) o).frozen (p := ⟨g, 0, none⟩) hgw).trans hc.fr
 have hwr : IntKind.i64.wrap (L - 1) = L - 1 := by rw [IntKind.wrap_i64]; omega
 have hdw : IntKind.i64.wrap (deep + 1) = deep + 1 := by rw [IntKind.wrap_i64]; omega
 rw [hkv, ← hnt]
 clear hp he hv ht htn an aR bn bR hka hkb hw hc IA IB hkv hnt
 go_in
 go_upto_region 2 with fail
 generalize ((w.setCell ⟨g, 0, none⟩ (.int .i64 (L - 1))).alloc (.cells (uA 4 d.p d.e.d d.v (.slice d.ta nt d.tc) (.slice d.aa d.an d.ac) (.slice d.ba d.bn d.bc)) 103)) = W1 at *
 clear c0 f0 hwr
 have hW1 := HCS.o.bl.size
 have cg := HCS.o.ct.cell
 have x0 := HCS.o.bx.2 0 _ rfl
 by_cases hLz : L - 1 < 0
 · have HNO : Hd (¬ (uOk (.mk d ka kb) deep ∧ ((usz (.mk d ka kb) : Nat) : Int) ≤ L)) := fun hh => by
    have h := hh.2
    have h2 := HSZ.o
    omega
   go_wp2
   go_ret
   exact CtrAns.no HNO.o HCS.o.ct HCS.o.pa
 by_cases hdz : deep > 10
 · have HNO : Hd (¬ (uOk (.mk d ka kb) deep ∧ ((usz (.mk d ka kb) : Nat) : Int) ≤ L)) := fun hh => by
    have h := hh.1.1
    omega
   go_wp2
   go_ret
   exact CtrAns.no HNO.o HCS.o.ct HCS.o.pa
 have hd10 : deep ≤ 10 := by omega
 obtain ⟨y1, y2, y3, y4, y5, y6, y7, y8, y9, y10, y11, y12, y13, y14, y15⟩ := bxB HCS.o.bx
 have ZP := HZP.o W1 HCS.o.bl
 go_wp2_with fail
 refine ZP.mono ?_
 rintro e w2 ⟨q2, rfl, hq2, hb2⟩
 have HC2 := iH (HCS.o.below HCS.o.bl.size hb2)
 clear ZP hb2 HCS x0 cg y1 y2 y3 y4 y5 y6 y7 y8 y9 y10 y11 y12 y13 y14 y15
 cases q2
 · have HNO : Hd (¬ NodeU d) := fun hh => by
    have h4 := hq2.2 (hh.p0 (by rw [HKV.o]; decide))
    cases h4
   clear hq2
   go_wp2
   go_ret
   exact CtrAns.no (uOk_no HNO.o) HC2.o.ct HC2.o.pa
 have HP0 := iH (fun (_ : d.k ≠ 0) => hq2.1 rfl)
 have HP1 : Hd (d.k = 0 → ptOk d.p) := fun h => absurd h (by rw [HKV.o]; decide)
 clear hq2
 obtain ⟨y0, y16, y17, y18, y19, y20, y21, y22, y23⟩ := bxC HC2.o.bx
 have EF := HEF.o w2 (L - 1) HC2.o.bl HC2.o.ct (by omega) (by omega) hd10
 go_wp2_with fail
 refine EF.mono ?_
 rintro e w3 ⟨q3, L3, rfl, hq3, hL3, hc3, hp3⟩
 have HC3 := iH (HC2.o.past hg hgw hp3 hc3)
 clear EF hc3 hp3 HC2 y0 y16 y17 y18 y19 y20 y21 y22 y23
 cases q3
 · have HNO : Hd (¬ (uOk (.mk d ka kb) deep ∧ ((usz (.mk d ka kb) : Nat) : Int) ≤ L)) := fun hh => by
    have h1 := hh.1.2.2.1 (by rw [HKV.o]; unfold hasX; omega)
    have h2 := HSZ.o
    have h3 := hh.2
    have h4 := hq3.2 ⟨h1, by omega⟩
    cases h4
   clear hq3 hL3
   go_wp2
   go_ret
   exact CtrAns.no HNO.o HC3.o.ct HC3.o.pa
 obtain ⟨h31, h32⟩ := hq3.1 rfl
 have h33 := hL3 rfl
 have HE1 := iH (fun (_ : hasX d.k) => h31)
 have HE0 : Hd (¬ hasX d.k → zeroE d.e) := fun h => absurd (by rw [HKV.o]; unfold hasX; omega) h
 have HL3 : Hd (L3 = L - (1 + esz d.e : Nat)) := (show L3 = _ by omega)
 have hL30 : 0 ≤ L3 := by omega
 have hL31 : L3 ≤ 100000 := by omega
 clear h31 h32 h33 hq3 hL3
 obtain ⟨x0, x24, x25, x26, x27⟩ := bxD HC3.o.bx
 by_cases hv1 : d.v.len = 0
 rotate_left
 · have HNO : Hd (¬ NodeU d) := fun hh => hv1 (HLV.o.1 (hh.v0 (by rw [HKV.o]; unfold hasN; omega)))
   have hvz : (0 : Int) < (d.v.len : Int) := by omega
   clear hv1
   go_wp2
   go_ret
   exact CtrAns.no (uOk_no HNO.o) HC3.o.ct HC3.o.pa
 have HV1 : Hd (hasN d.k → nameOk d.v.b = true) := fun h => absurd h (by rw [HKV.o]; unfold hasN; omega)
 have HV0 := iH (fun (_ : ¬ hasN d.k) => HLV.o.2 hv1)
 have hvz : ¬ (0 : Int) < (d.v.len : Int) := by omega
 clear hv1
 by_cases ht1 : nt = 0
 rotate_left
 · have HNO : Hd (¬ NodeU d) := fun hh => ht1 (by rw [HNT.o]; exact tb_nil.1 (hh.t0 (by rw [HKV.o]; decide)))
   have htz : (0 : Int) < (nt : Int) := by omega
   clear ht1
   go_wp2
   go_ret
   exact CtrAns.no (uOk_no HNO.o) HC3.o.ct HC3.o.pa
 have HT0 := iH (show d.tb.length = 0 by rw [← HNT.o]; exact ht1)
 have htz : ¬ (0 : Int) < (nt : Int) := by omega
 have htz2 : ¬ (8 : Int) < (nt : Int) := by omega
 clear ht1
 have HTO : Hd (∀ x ∈ d.tb, x.td.ok = true) := fun x hx => absurd hx (by rw [tb_nil.2 HT0.o]; exact List.not_mem_nil)
 have HT1 := iH (fun (_ : d.k ≠ 6) => tb_nil.2 HT0.o)
 have HTN := iH (show d.tb.length ≤ 8 by rw [HT0.o]; omega)
 go_wp2_with fail
 refine wp_loop_rounds 1 ?_
 rw [rounds_succ]
 by_cases ha1 : d.an = 0
 rotate_left
 · have HNO : Hd (¬ NodeU d) := fun hh => ha1 (hh.a0 (by rw [HKV.o]; unfold hasG; omega))
   have haz : (0 : Int) < (d.an : Int) := by omega
   clear ha1
   go_wp2
   go_ret
   exact CtrAns.no (uOk_no HNO.o) HC3.o.ct HC3.o.pa
 have HA0 := iH (fun (_ : ¬ hasG d.k) => ha1)
 have HAE : Hd (Value.slice d.aa d.an d.ac = .slice d.aa 0 d.ac) := (show _ = _ by rw [ha1])
 have haz : ¬ (0 : Int) < (d.an : Int) := by omega
 clear ha1
 by_cases hb1 : d.bn = 0
 rotate_left
 · have HNO : Hd (¬ NodeU d) := fun hh => hb1 (hh.b0 (by rw [HKV.o]; decide))
   have hbz : (0 : Int) < (d.bn : Int) := by omega
   clear hb1
   go_wp2
   go_ret
   exact CtrAns.no (uOk_no HNO.o) HC3.o.ct HC3.o.pa
 have HB0 := iH (fun (_ : d.k ≠ 2) => hb1)
 have HBE : Hd (Value.slice d.ba d.bn d.bc = .slice d.ba 0 d.bc) := (show _ = _ by rw [hb1])
 have hbz : ¬ (0 : Int) < (d.bn : Int) := by omega
 clear hb1
 have HND : Hd (NodeU d) := ⟨by rw [HKV.o]; decide, by rw [HKV.o]; decide, HP1.o, HP0.o, HE0.o, HV1.o, HV0.o, HT1.o, HTN.o, HTO.o, HA0.o, HB0.o⟩
 have GA := HIA.o L3 _ HC3.o.bl HC3.o.ct hL30 hL31 hd10
 have GAz := GA
 rw [HAE.o] at GAz
 go_wp2_with fail
 first | with_reducible refine GA.mono ?_ | with_reducible refine GAz.mono ?_
 rintro e w6 ⟨q6, L6, rfl, hq6, hL6, hc6, hp6⟩
 have HC6 := iH (HC3.o.past hg hgw hp6 hc6)
 clear GA hc6 hp6 HC3 GAz x0 x24 x25 x26 x27
 cases q6
 · have HNO : Hd (¬ (uOk (.mk d ka kb) deep ∧ ((usz (.mk d ka kb) : Nat) : Int) ≤ L)) := fun hh => by
    have h1 := hh.1.2.2.2.1
    have h2 := HSZ.o
    have h3 := hh.2
    have h5 := HL3.o
    have h4 := hq6.2 ⟨h1, by omega⟩
    cases h4
   clear hq6 hL6
   go_wp2
   go_ret
   exact CtrAns.no HNO.o HC6.o.ct HC6.o.pa
 obtain ⟨h61, h62⟩ := hq6.1 rfl
 have h63 := hL6 rfl
 have HOA := iH h61
 have HL6 := iH h63
 have hL60 : 0 ≤ L6 := by omega
 have hL61 : L6 ≤ 100000 := by omega
 clear h61 h62 h63 hq6 hL6
 have x27 := HC6.o.bx.2 27 _ rfl
 have GB := HIB.o L6 _ HC6.o.bl HC6.o.ct hL60 hL61 hd10
 have GBz := GB
 rw [HBE.o] at GBz
 go_wp2_with fail
 first | with_reducible refine GB.mono ?_ | with_reducible refine GBz.mono ?_
 rintro e w7 ⟨q7, L7, rfl, hq7, hL7, hc7, hp7⟩
 have HC7 := iH (HC6.o.past hg hgw hp7 hc7)
 clear GB hc7 hp7 HC6 x27 GBz
 cases q7
 · have HNO : Hd (¬ (uOk (.mk d ka kb) deep ∧ ((usz (.mk d ka kb) : Nat) : Int) ≤ L)) := fun hh => by
    have h1 := hh.1.2.2.2.2
    have h2 := HSZ.o
    have h3 := hh.2
    have h5 := HL3.o
    have h6 := HL6.o
    have h4 := hq7.2 ⟨h1, by omega⟩
    cases h4
   clear hq7 hL7
   go_wp2
   go_ret
   exact CtrAns.no HNO.o HC7.o.ct HC7.o.pa
 obtain ⟨h71, h72⟩ := hq7.1 rfl
 have h73 := hL7 rfl
 have HOB := iH h71
 have HFL : Hd (((usz (.mk d ka kb) : Nat) : Int) ≤ L ∧ L7 = L - (usz (.mk d ka kb) : Nat)) := (show _ ∧ _ by have h2 := HSZ.o; have h5 := HL3.o; have h6 := HL6.o; omega)
 clear h71 h72 h73 hq7 hL7
 go_wp2
 go_ret
 exact CtrAns.yes ⟨hd10, HND.o, HE1.o, HOA.o, HOB.o⟩ HFL.o.1 HFL.o.2 HC7.o.ct HC7.o.pa
theorem l4elem_5 (d : UN) (ka kb : Nat → UT) (hkv : d.k = 5) (deep L : Int) (g : Nat) (w0 w : World) (hl : (UT.mk d ka kb).lies 0 w0) (hw : Bl w0 w) (hg : w0.heap.size ≤ g) (hc : Ctr w g L) (hd0 : 0 ≤ deep) (hd1 : deep ≤ 100000) (hL0 : 0 ≤ L) (hL1 : L ≤ 100000)
 (IA : GIH w0 g deep d.aa d.an d.ac ka)
 (IB : GIH w0 g deep d.ba d.bn d.bc kb) :
 Calls Tryz.prog 94 #[.agg d.ar, .int .i64 deep, .pointer (some ⟨g, 0, none⟩)] w (CtrAns (uOk (.mk d ka kb) deep) (usz (.mk d ka kb)) g L w) := by
 try unfold UN.ar
 obtain ⟨hp, he, hv, ht, htn, ⟨an, aR⟩, ⟨bn, bR⟩, hka, hkb⟩ := hl
 have hgw := hc.lt
 have hsz := hw.size
 have HKV := iH hkv
 obtain ⟨nt, hnt⟩ : ∃ nt, nt = d.tb.length := ⟨_, rfl⟩
 have HNT := iH hnt
 have HLV := iH (nil_len hv.1.1)
 have HVR := iH (fun W (hb : Bl w0 W) => l4var_any d.v W (hv.upper (uB hb)))
 have HEF := iH (fun W L' (hb : Bl w0 W) (hc' : Ctr W g L') (h0 : 0 ≤ L') (h1 : L' ≤ 100000) (h10 : deep ≤ 10) => l4expr_any d.e (deep + 1) L' g w0 W he hb hg hc' (by omega) (by omega) h0 h1)
 have HZP := iH (fun W (hb : Bl w0 W) => l4zeroPat_any d.p W (hp.upper (uB hb)))
 have HIA := iH IA
 have HIB := iH IB
 have HSZ : Hd (usz (.mk d ka kb) = 1 + esz d.e + (sumN d.an (fun i => usz (ka i)) + sumN d.bn (fun i => usz (kb i)))) := (show usz (.mk d ka kb) = _ by rw [usz_mk]; unfold ownU; rw [hkv]; simp)
 have HCS : Hd (CS w0 w ((w.setCell ⟨g, 0, none⟩ (.int .i64 (L - 1))).alloc (.cells (uA 5 d.p d.e.d d.v (.slice d.ta nt d.tc) (.slice d.aa d.an d.ac) (.slice d.ba d.bn d.bc)) 103)) g (L - 1) (cellsU d 5 nt)) := CS.new hw hg hc _ 103 (L - 1)
 have c0 := fun o => ((bl_a (w := w) o).cell (p := ⟨g, 0, none⟩) hgw).trans hc.cell
 have f0 := fun o => ((bl_a (w := w) o).frozen (p := ⟨g, 0, none⟩) hgw).trans hc.fr
 have hwr : IntKind.i64.wrap (L - 1) = L - 1 := by rw [IntKind.wrap_i64]; omega
 have hdw : IntKind.i64.wrap (deep + 1) = deep + 1 := by rw [IntKind.wrap_i64]; omega
 rw [hkv, ← hnt]
 clear hp he hv ht htn an aR bn bR hka hkb hw hc IA IB hkv hnt
 go_in
 go_upto_region 2 with fail
 generalize ((w.setCell ⟨g, 0, none⟩ (.int .i64 (L - 1))).alloc (.cells (uA 5 d.p d.e.d d.v (.slice d.ta nt d.tc) (.slice d.aa d.an d.ac) (.slice d.ba d.bn d.bc)) 103)) = W1 at *
 clear c0 f0 hwr
 have hW1 := HCS.o.bl.size
 have cg := HCS.o.ct.cell
 have x0 := HCS.o.bx.2 0 _ rfl
 by_cases hLz : L - 1 < 0
 · have HNO : Hd (¬ (uOk (.mk d ka kb) deep ∧ ((usz (.mk d ka kb) : Nat) : Int) ≤ L)) := fun hh => by
    have h := hh.2
    have h2 := HSZ.o
    omega
   go_wp2
   go_ret
   exact CtrAns.no HNO.o HCS.o.ct HCS.o.pa
 by_cases hdz : deep > 10
 · have HNO : Hd (¬ (uOk (.mk d ka kb) deep ∧ ((usz (.mk d ka kb) : Nat) : Int) ≤ L)) := fun hh => by
    have h := hh.1.1
    omega
   go_wp2
   go_ret
   exact CtrAns.no HNO.o HCS.o.ct HCS.o.pa
 have hd10 : deep ≤ 10 := by omega
 obtain ⟨y1, y2, y3, y4, y5, y6, y7, y8, y9, y10, y11, y12, y13, y14, y15⟩ := bxB HCS.o.bx
 have ZP := HZP.o W1 HCS.o.bl
 go_wp2_with fail
 refine ZP.mono ?_
 rintro e w2 ⟨q2, rfl, hq2, hb2⟩
 have HC2 := iH (HCS.o.below HCS.o.bl.size hb2)
 clear ZP hb2 HCS x0 cg y1 y2 y3 y4 y5 y6 y7 y8 y9 y10 y11 y12 y13 y14 y15
 cases q2
 · have HNO : Hd (¬ NodeU d) := fun hh => by
    have h4 := hq2.2 (hh.p0 (by rw [HKV.o]; decide))
    cases h4
   clear hq2
   go_wp2
   go_ret
   exact CtrAns.no (uOk_no HNO.o) HC2.o.ct HC2.o.pa
 have HP0 := iH (fun (_ : d.k ≠ 0) => hq2.1 rfl)
 have HP1 : Hd (d.k = 0 → ptOk d.p) := fun h => absurd h (by rw [HKV.o]; decide)
 clear hq2
 obtain ⟨y0, y16, y17, y18, y19, y20, y21, y22, y23⟩ := bxC HC2.o.bx
 have EF := HEF.o w2 (L - 1) HC2.o.bl HC2.o.ct (by omega) (by omega) hd10
 go_wp2_with fail
 refine EF.mono ?_
 rintro e w3 ⟨q3, L3, rfl, hq3, hL3, hc3, hp3⟩
 have HC3 := iH (HC2.o.past hg hgw hp3 hc3)
 clear EF hc3 hp3 HC2 y0 y16 y17 y18 y19 y20 y21 y22 y23
 cases q3
 · have HNO : Hd (¬ (uOk (.mk d ka kb) deep ∧ ((usz (.mk d ka kb) : Nat) : Int) ≤ L)) := fun hh => by
    have h1 := hh.1.2.2.1 (by rw [HKV.o]; unfold hasX; omega)
    have h2 := HSZ.o
    have h3 := hh.2
    have h4 := hq3.2 ⟨h1, by omega⟩
    cases h4
   clear hq3 hL3
   go_wp2
   go_ret
   exact CtrAns.no HNO.o HC3.o.ct HC3.o.pa
 obtain ⟨h31, h32⟩ := hq3.1 rfl
 have h33 := hL3 rfl
 have HE1 := iH (fun (_ : hasX d.k) => h31)
 have HE0 : Hd (¬ hasX d.k → zeroE d.e) := fun h => absurd (by rw [HKV.o]; unfold hasX; omega) h
 have HL3 : Hd (L3 = L - (1 + esz d.e : Nat)) := (show L3 = _ by omega)
 have hL30 : 0 ≤ L3 := by omega
 have hL31 : L3 ≤ 100000 := by omega
 clear h31 h32 h33 hq3 hL3
 obtain ⟨x0, x24, x25, x26, x27⟩ := bxD HC3.o.bx
 by_cases hv1 : d.v.len = 0
 · have HNO : Hd (¬ NodeU d) := fun hh => name_pos (hh.v1 (by rw [HKV.o]; unfold hasN; omega)) (HLV.o.2 hv1)
   have hvz : ¬ (0 : Int) < (d.v.len : Int) := by omega
   clear hv1
   go_wp2
   go_ret
   exact CtrAns.no (uOk_no HNO.o) HC3.o.ct HC3.o.pa
 have hvz : (0 : Int) < (d.v.len : Int) := by omega
 clear hv1
 have VR := HVR.o w3 HC3.o.bl
 go_wp2_with fail
 refine VR.mono ?_
 rintro e w4 ⟨q4, rfl, hq4, hb4⟩
 have HC3 := iH (HC3.o.below HC3.o.bl.size hb4)
 clear VR hb4 x0 x24 x25 x26 x27
 cases q4
 · have HNO : Hd (¬ NodeU d) := fun hh => by
    have h4 := hq4.2 (hh.v1 (by rw [HKV.o]; unfold hasN; omega))
    cases h4
   clear hq4
   go_wp2
   go_ret
   exact CtrAns.no (uOk_no HNO.o) HC3.o.ct HC3.o.pa
 have HV1 := iH (fun (_ : hasN d.k) => hq4.1 rfl)
 have HV0 : Hd (¬ hasN d.k → d.v.b = []) := fun h => absurd (by rw [HKV.o]; unfold hasN; omega) h
 clear hq4
 have x0 := HC3.o.bx.2 0 _ rfl
 have x25 := HC3.o.bx.2 25 _ rfl
 have x26 := HC3.o.bx.2 26 _ rfl
 have x27 := HC3.o.bx.2 27 _ rfl
 by_cases ht1 : nt = 0
 rotate_left
 · have HNO : Hd (¬ NodeU d) := fun hh => ht1 (by rw [HNT.o]; exact tb_nil.1 (hh.t0 (by rw [HKV.o]; decide)))
   have htz : (0 : Int) < (nt : Int) := by omega
   clear ht1
   go_wp2
   go_ret
   exact CtrAns.no (uOk_no HNO.o) HC3.o.ct HC3.o.pa
 have HT0 := iH (show d.tb.length = 0 by rw [← HNT.o]; exact ht1)
 have htz : ¬ (0 : Int) < (nt : Int) := by omega
 have htz2 : ¬ (8 : Int) < (nt : Int) := by omega
 clear ht1
 have HTO : Hd (∀ x ∈ d.tb, x.td.ok = true) := fun x hx => absurd hx (by rw [tb_nil.2 HT0.o]; exact List.not_mem_nil)
 have HT1 := iH (fun (_ : d.k ≠ 6) => tb_nil.2 HT0.o)
 have HTN := iH (show d.tb.length ≤ 8 by rw [HT0.o]; omega)
 go_wp2_with fail
 refine wp_loop_rounds 1 ?_
 rw [rounds_succ]
 by_cases ha1 : d.an = 0
 rotate_left
 · have HNO : Hd (¬ NodeU d) := fun hh => ha1 (hh.a0 (by rw [HKV.o]; unfold hasG; omega))
   have haz : (0 : Int) < (d.an : Int) := by omega
   clear ha1
   go_wp2
   go_ret
   exact CtrAns.no (uOk_no HNO.o) HC3.o.ct HC3.o.pa
 have HA0 := iH (fun (_ : ¬ hasG d.k) => ha1)
 have HAE : Hd (Value.slice d.aa d.an d.ac = .slice d.aa 0 d.ac) := (show _ = _ by rw [ha1])
 have haz : ¬ (0 : Int) < (d.an : Int) := by omega
 clear ha1
 by_cases hb1 : d.bn = 0
 rotate_left
 · have HNO : Hd (¬ NodeU d) := fun hh => hb1 (hh.b0 (by rw [HKV.o]; decide))
   have hbz : (0 : Int) < (d.bn : Int) := by omega
   clear hb1
   go_wp2
   go_ret
   exact CtrAns.no (uOk_no HNO.o) HC3.o.ct HC3.o.pa
 have HB0 := iH (fun (_ : d.k ≠ 2) => hb1)
 have HBE : Hd (Value.slice d.ba d.bn d.bc = .slice d.ba 0 d.bc) := (show _ = _ by rw [hb1])
 have hbz : ¬ (0 : Int) < (d.bn : Int) := by omega
 clear hb1
 have HND : Hd (NodeU d) := ⟨by rw [HKV.o]; decide, by rw [HKV.o]; decide, HP1.o, HP0.o, HE0.o, HV1.o, HV0.o, HT1.o, HTN.o, HTO.o, HA0.o, HB0.o⟩
 have GA := HIA.o L3 _ HC3.o.bl HC3.o.ct hL30 hL31 hd10
 have GAz := GA
 rw [HAE.o] at GAz
 go_wp2_with fail
 first | with_reducible refine GA.mono ?_ | with_reducible refine GAz.mono ?_
 rintro e w6 ⟨q6, L6, rfl, hq6, hL6, hc6, hp6⟩
 have HC6 := iH (HC3.o.past hg hgw hp6 hc6)
 clear GA hc6 hp6 HC3 GAz x0 x25 x26 x27
 cases q6
 · have HNO : Hd (¬ (uOk (.mk d ka kb) deep ∧ ((usz (.mk d ka kb) : Nat) : Int) ≤ L)) := fun hh => by
    have h1 := hh.1.2.2.2.1
    have h2 := HSZ.o
    have h3 := hh.2
    have h5 := HL3.o
    have h4 := hq6.2 ⟨h1, by omega⟩
    cases h4
   clear hq6 hL6
   go_wp2
   go_ret
   exact CtrAns.no HNO.o HC6.o.ct HC6.o.pa
 obtain ⟨h61, h62⟩ := hq6.1 rfl
 have h63 := hL6 rfl
 have HOA := iH h61
 have HL6 := iH h63
 have hL60 : 0 ≤ L6 := by omega
 have hL61 : L6 ≤ 100000 := by omega
 clear h61 h62 h63 hq6 hL6
 have x27 := HC6.o.bx.2 27 _ rfl
 have GB := HIB.o L6 _ HC6.o.bl HC6.o.ct hL60 hL61 hd10
 have GBz := GB
 rw [HBE.o] at GBz
 go_wp2_with fail
 first | with_reducible refine GB.mono ?_ | with_reducible refine GBz.mono ?_
 rintro e w7 ⟨q7, L7, rfl, hq7, hL7, hc7, hp7⟩
 have HC7 := iH (HC6.o.past hg hgw hp7 hc7)
 clear GB hc7 hp7 HC6 x27 GBz
 cases q7
 · have HNO : Hd (¬ (uOk (.mk d ka kb) deep ∧ ((usz (.mk d ka kb) : Nat) : Int) ≤ L)) := fun hh => by
    have h1 := hh.1.2.2.2.2
    have h2 := HSZ.o
    have h3 := hh.2
    have h5 := HL3.o
    have h6 := HL6.o
    have h4 := hq7.2 ⟨h1, by omega⟩
    cases h4
   clear hq7 hL7
   go_wp2
   go_ret
   exact CtrAns.no HNO.o HC7.o.ct HC7.o.pa
 obtain ⟨h71, h72⟩ := hq7.1 rfl
 have h73 := hL7 rfl
 have HOB := iH h71
 have HFL : Hd (((usz (.mk d ka kb) : Nat) : Int) ≤ L ∧ L7 = L - (usz (.mk d ka kb) : Nat)) := (show _ ∧ _ by have h2 := HSZ.o; have h5 := HL3.o; have h6 := HL6.o; omega)
 clear h71 h72 h73 hq7 hL7
 go_wp2
 go_ret
 exact CtrAns.yes ⟨hd10, HND.o, HE1.o, HOA.o, HOB.o⟩ HFL.o.1 HFL.o.2 HC7.o.ct HC7.o.pa
end Go.Proofs.YthljoojcpbignaaGreatDoor
