import Derived.Test.YthljoojcpbignaaGreatDoorMk07
import Derived.Test.YthljoojcpbignaaGreatDoorMk01
namespace Go.Proofs.YthljoojcpbignaaGreatDoor
/- UtG4 -/
open Go.RowKit Go.Deep
set_option maxHeartbeats 40000000
set_option maxRecDepth 100000
theorem l4elem_4 (d : UN) (ka kb : Nat → UT) (hkv : d.k = 4) (deep L : Int) (g : Nat) (w0 w : World) (hl : (UT.mk d ka kb).lies 0 w0) (hw : Bl w0 w) (hg : w0.heap.size ≤ g) (hc : Ctr w g L) (hd0 : 0 ≤ deep) (hd1 : deep ≤ 100000) (hL0 : 0 ≤ L) (hL1 : L ≤ 100000)
   (IA : ∀ (L' : Int) (W : World), Bl w0 W → Ctr W g L' → 0 ≤ L' → L' ≤ 100000 → deep ≤ 10 → Calls Tryz.prog 63 #[.slice d.aa d.an d.ac, .int .i64 (deep + 1), .pointer (some ⟨g, 0, none⟩)] W (CtrAns (∀ i, i < d.an → uOk (ka i) (deep + 1)) (sumN d.an (fun i => usz (ka i))) g L' W))
   (IB : ∀ (L' : Int) (W : World), Bl w0 W → Ctr W g L' → 0 ≤ L' → L' ≤ 100000 → deep ≤ 10 → Calls Tryz.prog 63 #[.slice d.ba d.bn d.bc, .int .i64 (deep + 1), .pointer (some ⟨g, 0, none⟩)] W (CtrAns (∀ i, i < d.bn → uOk (kb i) (deep + 1)) (sumN d.bn (fun i => usz (kb i))) g L' W)) :
   Calls Tryz.prog 94 #[.agg d.ar, .int .i64 deep, .pointer (some ⟨g, 0, none⟩)] w (CtrAns (uOk (.mk d ka kb) deep) (usz (.mk d ka kb)) g L w) := by
 try unfold UN.ar
 obtain ⟨hp, he, hv, ht, htn, ⟨an, aR⟩, ⟨bn, bR⟩, hka, hkb⟩ := hl
 have hgw := hc.lt
 have hsz := hw.size
 have HKV := hid hkv
 obtain ⟨nt, hnt⟩ : ∃ nt, nt = d.tb.length := ⟨_, rfl⟩
 have HNT := hid hnt
 have HLV := hid (nil_len hv.1.1)
 have HEF := hid (fun W L' (hb : Bl w0 W) (hc' : Ctr W g L') (h0 : 0 ≤ L') (h1 : L' ≤ 100000) (h10 : deep ≤ 10) => l4expr_any d.e (deep + 1) L' g w0 W he hb hg hc' (by omega) (by omega) h0 h1)
 have HZP := hid (fun W (hb : Bl w0 W) => l4zeroPat_any d.p W (hp.upper (uB hb)))
 have HIA := hid IA
 have HIB := hid IB
 have HSZ : Hid (usz (.mk d ka kb) = 1 + esz d.e + (sumN d.an (fun i => usz (ka i)) + sumN d.bn (fun i => usz (kb i)))) := (show usz (.mk d ka kb) = _ by rw [usz_mk]; unfold ownU; rw [hkv]; simp)
 have HCS : Hid (CS w0 w ((w.setCell ⟨g, 0, none⟩ (.int .i64 (L - 1))).alloc (.cells (uA 4 d.p d.e.d d.v (.slice d.ta nt d.tc) (.slice d.aa d.an d.ac) (.slice d.ba d.bn d.bc)) 103)) g (L - 1) (cellsU d 4 nt)) := CS.new hw hg hc _ 103 (L - 1)
 have c0 := fun o => ((bl_a (w := w) o).cell (p := ⟨g, 0, none⟩) hgw).trans hc.cell
 have f0 := fun o => ((bl_a (w := w) o).frozen (p := ⟨g, 0, none⟩) hgw).trans hc.fr
 have hwr : IntKind.i64.wrap (L - 1) = L - 1 := by rw [IntKind.wrap_i64]; omega
 have hdw : IntKind.i64.wrap (deep + 1) = deep + 1 := by rw [IntKind.wrap_i64]; omega
 rw [hkv, ← hnt]
 clear hp he hv ht htn an aR bn bR hka hkb hw hc IA IB hkv hnt
 go_in
 go_upto_region 2 with fail
 generalize ((w.setCell ⟨g, 0, none⟩ (.int .i64 (L - 1))).alloc (.cells (uA 4 d.p d.e.d d.v (.slice d.ta nt d.tc) (.slice d.aa d.an d.ac) (.slice d.ba d.bn d.bc)) 103)) = W1 at *
 clear c0 f0 hwr
 have hW1 := HCS.out.bl.size
 have cg := HCS.out.ct.cell
 have x0 := HCS.out.bx.2 0 _ rfl
 by_cases hLz : L - 1 < 0
 · have HNO : Hid (¬ (uOk (.mk d ka kb) deep ∧ ((usz (.mk d ka kb) : Nat) : Int) ≤ L)) := fun hh => by
     have h := hh.2
     have h2 := HSZ.out
     omega
   go_wp2_with fail
   go_ret
   exact CtrAns.no HNO.out HCS.out.ct HCS.out.pa
 by_cases hdz : deep > 10
 · have HNO : Hid (¬ (uOk (.mk d ka kb) deep ∧ ((usz (.mk d ka kb) : Nat) : Int) ≤ L)) := fun hh => by
     have h := hh.1.1
     omega
   go_wp2_with fail
   go_ret
   exact CtrAns.no HNO.out HCS.out.ct HCS.out.pa
 have hd10 : deep ≤ 10 := by omega
 have y1 := HCS.out.bx.2 1 _ rfl
 have y2 := HCS.out.bx.2 2 _ rfl
 have y3 := HCS.out.bx.2 3 _ rfl
 have y4 := HCS.out.bx.2 4 _ rfl
 have y5 := HCS.out.bx.2 5 _ rfl
 have y6 := HCS.out.bx.2 6 _ rfl
 have y7 := HCS.out.bx.2 7 _ rfl
 have y8 := HCS.out.bx.2 8 _ rfl
 have y9 := HCS.out.bx.2 9 _ rfl
 have y10 := HCS.out.bx.2 10 _ rfl
 have y11 := HCS.out.bx.2 11 _ rfl
 have y12 := HCS.out.bx.2 12 _ rfl
 have y13 := HCS.out.bx.2 13 _ rfl
 have y14 := HCS.out.bx.2 14 _ rfl
 have y15 := HCS.out.bx.2 15 _ rfl
 have ZP := HZP.out W1 HCS.out.bl
 go_wp2_with fail
 refine ZP.mono ?_
 rintro e w2 ⟨q2, rfl, hq2, hb2⟩
 have HC2 := hid (HCS.out.below HCS.out.bl.size hb2)
 clear ZP hb2 HCS x0 cg y1 y2 y3 y4 y5 y6 y7 y8 y9 y10 y11 y12 y13 y14 y15
 cases q2
 · have HNO : Hid (¬ NodeU d) := fun hh => by
     have h4 := hq2.2 (hh.p0 (by rw [HKV.out]; decide))
     cases h4
   clear hq2
   go_wp2_with fail
   go_ret
   exact CtrAns.no (uOk_no HNO.out) HC2.out.ct HC2.out.pa
 have HP0 := hid (fun (_ : d.k ≠ 0) => hq2.1 rfl)
 have HP1 : Hid (d.k = 0 → ptOk d.p) := fun h => absurd h (by rw [HKV.out]; decide)
 clear hq2
 have y0 := HC2.out.bx.2 0 _ rfl
 have y16 := HC2.out.bx.2 16 _ rfl
 have y17 := HC2.out.bx.2 17 _ rfl
 have y18 := HC2.out.bx.2 18 _ rfl
 have y19 := HC2.out.bx.2 19 _ rfl
 have y20 := HC2.out.bx.2 20 _ rfl
 have y21 := HC2.out.bx.2 21 _ rfl
 have y22 := HC2.out.bx.2 22 _ rfl
 have y23 := HC2.out.bx.2 23 _ rfl
 have EF := HEF.out w2 (L - 1) HC2.out.bl HC2.out.ct (by omega) (by omega) hd10
 go_wp2_with fail
 refine EF.mono ?_
 rintro e w3 ⟨q3, L3, rfl, hq3, hL3, hc3, hp3⟩
 have HC3 := hid (HC2.out.past hg hgw hp3 hc3)
 clear EF hc3 hp3 HC2 y0 y16 y17 y18 y19 y20 y21 y22 y23
 cases q3
 · have HNO : Hid (¬ (uOk (.mk d ka kb) deep ∧ ((usz (.mk d ka kb) : Nat) : Int) ≤ L)) := fun hh => by
     have h1 := hh.1.2.2.1 (by rw [HKV.out]; unfold hasX; omega)
     have h2 := HSZ.out
     have h3 := hh.2
     have h4 := hq3.2 ⟨h1, by omega⟩
     cases h4
   clear hq3 hL3
   go_wp2_with fail
   go_ret
   exact CtrAns.no HNO.out HC3.out.ct HC3.out.pa
 obtain ⟨h31, h32⟩ := hq3.1 rfl
 have h33 := hL3 rfl
 have HE1 := hid (fun (_ : hasX d.k) => h31)
 have HE0 : Hid (¬ hasX d.k → zeroE d.e) := fun h => absurd (by rw [HKV.out]; unfold hasX; omega) h
 have HL3 : Hid (L3 = L - (1 + esz d.e : Nat)) := (show L3 = _ by omega)
 have hL30 : 0 ≤ L3 := by omega
 have hL31 : L3 ≤ 100000 := by omega
 clear h31 h32 h33 hq3 hL3
 have x0 := HC3.out.bx.2 0 _ rfl
 have x24 := HC3.out.bx.2 24 _ rfl
 have x25 := HC3.out.bx.2 25 _ rfl
 have x26 := HC3.out.bx.2 26 _ rfl
 have x27 := HC3.out.bx.2 27 _ rfl
 by_cases hv1 : d.v.len = 0
 rotate_left
 · have HNO : Hid (¬ NodeU d) := fun hh => hv1 (HLV.out.1 (hh.v0 (by rw [HKV.out]; unfold hasN; omega)))
   have hvz : (0 : Int) < (d.v.len : Int) := by omega
   clear hv1
   go_wp2_with fail
   go_ret
   exact CtrAns.no (uOk_no HNO.out) HC3.out.ct HC3.out.pa
 have HV1 : Hid (hasN d.k → nameOk d.v.b = true) := fun h => absurd h (by rw [HKV.out]; unfold hasN; omega)
 have HV0 := hid (fun (_ : ¬ hasN d.k) => HLV.out.2 hv1)
 have hvz : ¬ (0 : Int) < (d.v.len : Int) := by omega
 clear hv1
 by_cases ht1 : nt = 0
 rotate_left
 · have HNO : Hid (¬ NodeU d) := fun hh => ht1 (by rw [HNT.out]; exact tb_nil.1 (hh.t0 (by rw [HKV.out]; decide)))
   have htz : (0 : Int) < (nt : Int) := by omega
   clear ht1
   go_wp2_with fail
   go_ret
   exact CtrAns.no (uOk_no HNO.out) HC3.out.ct HC3.out.pa
 have HT0 := hid (show d.tb.length = 0 by rw [← HNT.out]; exact ht1)
 have htz : ¬ (0 : Int) < (nt : Int) := by omega
 have htz2 : ¬ (8 : Int) < (nt : Int) := by omega
 clear ht1
 have HTO : Hid (∀ x ∈ d.tb, x.td.ok = true) := fun x hx => absurd hx (by rw [tb_nil.2 HT0.out]; exact List.not_mem_nil)
 have HT1 := hid (fun (_ : d.k ≠ 6) => tb_nil.2 HT0.out)
 have HTN := hid (show d.tb.length ≤ 8 by rw [HT0.out]; omega)
 go_wp2_with fail
 refine wp_loop_rounds 1 ?_
 rw [rounds_succ]
 by_cases ha1 : d.an = 0
 rotate_left
 · have HNO : Hid (¬ NodeU d) := fun hh => ha1 (hh.a0 (by rw [HKV.out]; unfold hasG; omega))
   have haz : (0 : Int) < (d.an : Int) := by omega
   clear ha1
   go_wp2_with fail
   go_ret
   exact CtrAns.no (uOk_no HNO.out) HC3.out.ct HC3.out.pa
 have HA0 := hid (fun (_ : ¬ hasG d.k) => ha1)
 have HAE : Hid (Value.slice d.aa d.an d.ac = .slice d.aa 0 d.ac) := (show _ = _ by rw [ha1])
 have haz : ¬ (0 : Int) < (d.an : Int) := by omega
 clear ha1
 by_cases hb1 : d.bn = 0
 rotate_left
 · have HNO : Hid (¬ NodeU d) := fun hh => hb1 (hh.b0 (by rw [HKV.out]; decide))
   have hbz : (0 : Int) < (d.bn : Int) := by omega
   clear hb1
   go_wp2_with fail
   go_ret
   exact CtrAns.no (uOk_no HNO.out) HC3.out.ct HC3.out.pa
 have HB0 := hid (fun (_ : d.k ≠ 2) => hb1)
 have HBE : Hid (Value.slice d.ba d.bn d.bc = .slice d.ba 0 d.bc) := (show _ = _ by rw [hb1])
 have hbz : ¬ (0 : Int) < (d.bn : Int) := by omega
 clear hb1
 have HND : Hid (NodeU d) := ⟨by rw [HKV.out]; decide, by rw [HKV.out]; decide, HP1.out, HP0.out, HE0.out, HV1.out, HV0.out, HT1.out, HTN.out, HTO.out, HA0.out, HB0.out⟩
 have GA := HIA.out L3 _ HC3.out.bl HC3.out.ct hL30 hL31 hd10
 have GAz := GA
 rw [HAE.out] at GAz
 go_wp2_with fail
 first | with_reducible refine GA.mono ?_ | with_reducible refine GAz.mono ?_
 rintro e w6 ⟨q6, L6, rfl, hq6, hL6, hc6, hp6⟩
 have HC6 := hid (HC3.out.past hg hgw hp6 hc6)
 clear GA hc6 hp6 HC3 GAz x0 x24 x25 x26 x27
 cases q6
 · have HNO : Hid (¬ (uOk (.mk d ka kb) deep ∧ ((usz (.mk d ka kb) : Nat) : Int) ≤ L)) := fun hh => by
     have h1 := hh.1.2.2.2.1
     have h2 := HSZ.out
     have h3 := hh.2
     have h5 := HL3.out
     have h4 := hq6.2 ⟨h1, by omega⟩
     cases h4
   clear hq6 hL6
   go_wp2_with fail
   go_ret
   exact CtrAns.no HNO.out HC6.out.ct HC6.out.pa
 obtain ⟨h61, h62⟩ := hq6.1 rfl
 have h63 := hL6 rfl
 have HOA := hid h61
 have HL6 := hid h63
 have hL60 : 0 ≤ L6 := by omega
 have hL61 : L6 ≤ 100000 := by omega
 clear h61 h62 h63 hq6 hL6
 have x27 := HC6.out.bx.2 27 _ rfl
 have GB := HIB.out L6 _ HC6.out.bl HC6.out.ct hL60 hL61 hd10
 have GBz := GB
 rw [HBE.out] at GBz
 go_wp2_with fail
 first | with_reducible refine GB.mono ?_ | with_reducible refine GBz.mono ?_
 rintro e w7 ⟨q7, L7, rfl, hq7, hL7, hc7, hp7⟩
 have HC7 := hid (HC6.out.past hg hgw hp7 hc7)
 clear GB hc7 hp7 HC6 x27 GBz
 cases q7
 · have HNO : Hid (¬ (uOk (.mk d ka kb) deep ∧ ((usz (.mk d ka kb) : Nat) : Int) ≤ L)) := fun hh => by
     have h1 := hh.1.2.2.2.2
     have h2 := HSZ.out
     have h3 := hh.2
     have h5 := HL3.out
     have h6 := HL6.out
     have h4 := hq7.2 ⟨h1, by omega⟩
     cases h4
   clear hq7 hL7
   go_wp2_with fail
   go_ret
   exact CtrAns.no HNO.out HC7.out.ct HC7.out.pa
 obtain ⟨h71, h72⟩ := hq7.1 rfl
 have h73 := hL7 rfl
 have HOB := hid h71
 have HFL : Hid (((usz (.mk d ka kb) : Nat) : Int) ≤ L ∧ L7 = L - (usz (.mk d ka kb) : Nat)) := (show _ ∧ _ by have h2 := HSZ.out; have h5 := HL3.out; have h6 := HL6.out; omega)
 clear h71 h72 h73 hq7 hL7
 go_wp2_with fail
 go_ret
 exact CtrAns.yes ⟨hd10, HND.out, HE1.out, HOA.out, HOB.out⟩ HFL.out.1 HFL.out.2 HC7.out.ct HC7.out.pa
/- UtG5 -/
theorem l4elem_5 (d : UN) (ka kb : Nat → UT) (hkv : d.k = 5) (deep L : Int) (g : Nat) (w0 w : World) (hl : (UT.mk d ka kb).lies 0 w0) (hw : Bl w0 w) (hg : w0.heap.size ≤ g) (hc : Ctr w g L) (hd0 : 0 ≤ deep) (hd1 : deep ≤ 100000) (hL0 : 0 ≤ L) (hL1 : L ≤ 100000)
   (IA : ∀ (L' : Int) (W : World), Bl w0 W → Ctr W g L' → 0 ≤ L' → L' ≤ 100000 → deep ≤ 10 → Calls Tryz.prog 63 #[.slice d.aa d.an d.ac, .int .i64 (deep + 1), .pointer (some ⟨g, 0, none⟩)] W (CtrAns (∀ i, i < d.an → uOk (ka i) (deep + 1)) (sumN d.an (fun i => usz (ka i))) g L' W))
   (IB : ∀ (L' : Int) (W : World), Bl w0 W → Ctr W g L' → 0 ≤ L' → L' ≤ 100000 → deep ≤ 10 → Calls Tryz.prog 63 #[.slice d.ba d.bn d.bc, .int .i64 (deep + 1), .pointer (some ⟨g, 0, none⟩)] W (CtrAns (∀ i, i < d.bn → uOk (kb i) (deep + 1)) (sumN d.bn (fun i => usz (kb i))) g L' W)) :
   Calls Tryz.prog 94 #[.agg d.ar, .int .i64 deep, .pointer (some ⟨g, 0, none⟩)] w (CtrAns (uOk (.mk d ka kb) deep) (usz (.mk d ka kb)) g L w) := by
 try unfold UN.ar
 obtain ⟨hp, he, hv, ht, htn, ⟨an, aR⟩, ⟨bn, bR⟩, hka, hkb⟩ := hl
 have hgw := hc.lt
 have hsz := hw.size
 have HKV := hid hkv
 obtain ⟨nt, hnt⟩ : ∃ nt, nt = d.tb.length := ⟨_, rfl⟩
 have HNT := hid hnt
 have HLV := hid (nil_len hv.1.1)
 have HVR := hid (fun W (hb : Bl w0 W) => l4var_any d.v W (hv.upper (uB hb)))
 have HEF := hid (fun W L' (hb : Bl w0 W) (hc' : Ctr W g L') (h0 : 0 ≤ L') (h1 : L' ≤ 100000) (h10 : deep ≤ 10) => l4expr_any d.e (deep + 1) L' g w0 W he hb hg hc' (by omega) (by omega) h0 h1)
 have HZP := hid (fun W (hb : Bl w0 W) => l4zeroPat_any d.p W (hp.upper (uB hb)))
 have HIA := hid IA
 have HIB := hid IB
 have HSZ : Hid (usz (.mk d ka kb) = 1 + esz d.e + (sumN d.an (fun i => usz (ka i)) + sumN d.bn (fun i => usz (kb i)))) := (show usz (.mk d ka kb) = _ by rw [usz_mk]; unfold ownU; rw [hkv]; simp)
 have HCS : Hid (CS w0 w ((w.setCell ⟨g, 0, none⟩ (.int .i64 (L - 1))).alloc (.cells (uA 5 d.p d.e.d d.v (.slice d.ta nt d.tc) (.slice d.aa d.an d.ac) (.slice d.ba d.bn d.bc)) 103)) g (L - 1) (cellsU d 5 nt)) := CS.new hw hg hc _ 103 (L - 1)
 have c0 := fun o => ((bl_a (w := w) o).cell (p := ⟨g, 0, none⟩) hgw).trans hc.cell
 have f0 := fun o => ((bl_a (w := w) o).frozen (p := ⟨g, 0, none⟩) hgw).trans hc.fr
 have hwr : IntKind.i64.wrap (L - 1) = L - 1 := by rw [IntKind.wrap_i64]; omega
 have hdw : IntKind.i64.wrap (deep + 1) = deep + 1 := by rw [IntKind.wrap_i64]; omega
 rw [hkv, ← hnt]
 clear hp he hv ht htn an aR bn bR hka hkb hw hc IA IB hkv hnt
 go_in
 go_upto_region 2 with fail
 generalize ((w.setCell ⟨g, 0, none⟩ (.int .i64 (L - 1))).alloc (.cells (uA 5 d.p d.e.d d.v (.slice d.ta nt d.tc) (.slice d.aa d.an d.ac) (.slice d.ba d.bn d.bc)) 103)) = W1 at *
 clear c0 f0 hwr
 have hW1 := HCS.out.bl.size
 have cg := HCS.out.ct.cell
 have x0 := HCS.out.bx.2 0 _ rfl
 by_cases hLz : L - 1 < 0
 · have HNO : Hid (¬ (uOk (.mk d ka kb) deep ∧ ((usz (.mk d ka kb) : Nat) : Int) ≤ L)) := fun hh => by
     have h := hh.2
     have h2 := HSZ.out
     omega
   go_wp2_with fail
   go_ret
   exact CtrAns.no HNO.out HCS.out.ct HCS.out.pa
 by_cases hdz : deep > 10
 · have HNO : Hid (¬ (uOk (.mk d ka kb) deep ∧ ((usz (.mk d ka kb) : Nat) : Int) ≤ L)) := fun hh => by
     have h := hh.1.1
     omega
   go_wp2_with fail
   go_ret
   exact CtrAns.no HNO.out HCS.out.ct HCS.out.pa
 have hd10 : deep ≤ 10 := by omega
 have y1 := HCS.out.bx.2 1 _ rfl
 have y2 := HCS.out.bx.2 2 _ rfl
 have y3 := HCS.out.bx.2 3 _ rfl
 have y4 := HCS.out.bx.2 4 _ rfl
 have y5 := HCS.out.bx.2 5 _ rfl
 have y6 := HCS.out.bx.2 6 _ rfl
 have y7 := HCS.out.bx.2 7 _ rfl
 have y8 := HCS.out.bx.2 8 _ rfl
 have y9 := HCS.out.bx.2 9 _ rfl
 have y10 := HCS.out.bx.2 10 _ rfl
 have y11 := HCS.out.bx.2 11 _ rfl
 have y12 := HCS.out.bx.2 12 _ rfl
 have y13 := HCS.out.bx.2 13 _ rfl
 have y14 := HCS.out.bx.2 14 _ rfl
 have y15 := HCS.out.bx.2 15 _ rfl
 have ZP := HZP.out W1 HCS.out.bl
 go_wp2_with fail
 refine ZP.mono ?_
 rintro e w2 ⟨q2, rfl, hq2, hb2⟩
 have HC2 := hid (HCS.out.below HCS.out.bl.size hb2)
 clear ZP hb2 HCS x0 cg y1 y2 y3 y4 y5 y6 y7 y8 y9 y10 y11 y12 y13 y14 y15
 cases q2
 · have HNO : Hid (¬ NodeU d) := fun hh => by
     have h4 := hq2.2 (hh.p0 (by rw [HKV.out]; decide))
     cases h4
   clear hq2
   go_wp2_with fail
   go_ret
   exact CtrAns.no (uOk_no HNO.out) HC2.out.ct HC2.out.pa
 have HP0 := hid (fun (_ : d.k ≠ 0) => hq2.1 rfl)
 have HP1 : Hid (d.k = 0 → ptOk d.p) := fun h => absurd h (by rw [HKV.out]; decide)
 clear hq2
 have y0 := HC2.out.bx.2 0 _ rfl
 have y16 := HC2.out.bx.2 16 _ rfl
 have y17 := HC2.out.bx.2 17 _ rfl
 have y18 := HC2.out.bx.2 18 _ rfl
 have y19 := HC2.out.bx.2 19 _ rfl
 have y20 := HC2.out.bx.2 20 _ rfl
 have y21 := HC2.out.bx.2 21 _ rfl
 have y22 := HC2.out.bx.2 22 _ rfl
 have y23 := HC2.out.bx.2 23 _ rfl
 have EF := HEF.out w2 (L - 1) HC2.out.bl HC2.out.ct (by omega) (by omega) hd10
 go_wp2_with fail
 refine EF.mono ?_
 rintro e w3 ⟨q3, L3, rfl, hq3, hL3, hc3, hp3⟩
 have HC3 := hid (HC2.out.past hg hgw hp3 hc3)
 clear EF hc3 hp3 HC2 y0 y16 y17 y18 y19 y20 y21 y22 y23
 cases q3
 · have HNO : Hid (¬ (uOk (.mk d ka kb) deep ∧ ((usz (.mk d ka kb) : Nat) : Int) ≤ L)) := fun hh => by
     have h1 := hh.1.2.2.1 (by rw [HKV.out]; unfold hasX; omega)
     have h2 := HSZ.out
     have h3 := hh.2
     have h4 := hq3.2 ⟨h1, by omega⟩
     cases h4
   clear hq3 hL3
   go_wp2_with fail
   go_ret
   exact CtrAns.no HNO.out HC3.out.ct HC3.out.pa
 obtain ⟨h31, h32⟩ := hq3.1 rfl
 have h33 := hL3 rfl
 have HE1 := hid (fun (_ : hasX d.k) => h31)
 have HE0 : Hid (¬ hasX d.k → zeroE d.e) := fun h => absurd (by rw [HKV.out]; unfold hasX; omega) h
 have HL3 : Hid (L3 = L - (1 + esz d.e : Nat)) := (show L3 = _ by omega)
 have hL30 : 0 ≤ L3 := by omega
 have hL31 : L3 ≤ 100000 := by omega
 clear h31 h32 h33 hq3 hL3
 have x0 := HC3.out.bx.2 0 _ rfl
 have x24 := HC3.out.bx.2 24 _ rfl
 have x25 := HC3.out.bx.2 25 _ rfl
 have x26 := HC3.out.bx.2 26 _ rfl
 have x27 := HC3.out.bx.2 27 _ rfl
 by_cases hv1 : d.v.len = 0
 · have HNO : Hid (¬ NodeU d) := fun hh => name_pos (hh.v1 (by rw [HKV.out]; unfold hasN; omega)) (HLV.out.2 hv1)
   have hvz : ¬ (0 : Int) < (d.v.len : Int) := by omega
   clear hv1
   go_wp2_with fail
   go_ret
   exact CtrAns.no (uOk_no HNO.out) HC3.out.ct HC3.out.pa
 have hvz : (0 : Int) < (d.v.len : Int) := by omega
 clear hv1
 have VR := HVR.out w3 HC3.out.bl
 go_wp2_with fail
 refine VR.mono ?_
 rintro e w4 ⟨q4, rfl, hq4, hb4⟩
 have HC3 := hid (HC3.out.below HC3.out.bl.size hb4)
 clear VR hb4 x0 x24 x25 x26 x27
 cases q4
 · have HNO : Hid (¬ NodeU d) := fun hh => by
     have h4 := hq4.2 (hh.v1 (by rw [HKV.out]; unfold hasN; omega))
     cases h4
   clear hq4
   go_wp2_with fail
   go_ret
   exact CtrAns.no (uOk_no HNO.out) HC3.out.ct HC3.out.pa
 have HV1 := hid (fun (_ : hasN d.k) => hq4.1 rfl)
 have HV0 : Hid (¬ hasN d.k → d.v.b = []) := fun h => absurd (by rw [HKV.out]; unfold hasN; omega) h
 clear hq4
 have x0 := HC3.out.bx.2 0 _ rfl
 have x25 := HC3.out.bx.2 25 _ rfl
 have x26 := HC3.out.bx.2 26 _ rfl
 have x27 := HC3.out.bx.2 27 _ rfl
 by_cases ht1 : nt = 0
 rotate_left
 · have HNO : Hid (¬ NodeU d) := fun hh => ht1 (by rw [HNT.out]; exact tb_nil.1 (hh.t0 (by rw [HKV.out]; decide)))
   have htz : (0 : Int) < (nt : Int) := by omega
   clear ht1
   go_wp2_with fail
   go_ret
   exact CtrAns.no (uOk_no HNO.out) HC3.out.ct HC3.out.pa
 have HT0 := hid (show d.tb.length = 0 by rw [← HNT.out]; exact ht1)
 have htz : ¬ (0 : Int) < (nt : Int) := by omega
 have htz2 : ¬ (8 : Int) < (nt : Int) := by omega
 clear ht1
 have HTO : Hid (∀ x ∈ d.tb, x.td.ok = true) := fun x hx => absurd hx (by rw [tb_nil.2 HT0.out]; exact List.not_mem_nil)
 have HT1 := hid (fun (_ : d.k ≠ 6) => tb_nil.2 HT0.out)
 have HTN := hid (show d.tb.length ≤ 8 by rw [HT0.out]; omega)
 go_wp2_with fail
 refine wp_loop_rounds 1 ?_
 rw [rounds_succ]
 by_cases ha1 : d.an = 0
 rotate_left
 · have HNO : Hid (¬ NodeU d) := fun hh => ha1 (hh.a0 (by rw [HKV.out]; unfold hasG; omega))
   have haz : (0 : Int) < (d.an : Int) := by omega
   clear ha1
   go_wp2_with fail
   go_ret
   exact CtrAns.no (uOk_no HNO.out) HC3.out.ct HC3.out.pa
 have HA0 := hid (fun (_ : ¬ hasG d.k) => ha1)
 have HAE : Hid (Value.slice d.aa d.an d.ac = .slice d.aa 0 d.ac) := (show _ = _ by rw [ha1])
 have haz : ¬ (0 : Int) < (d.an : Int) := by omega
 clear ha1
 by_cases hb1 : d.bn = 0
 rotate_left
 · have HNO : Hid (¬ NodeU d) := fun hh => hb1 (hh.b0 (by rw [HKV.out]; decide))
   have hbz : (0 : Int) < (d.bn : Int) := by omega
   clear hb1
   go_wp2_with fail
   go_ret
   exact CtrAns.no (uOk_no HNO.out) HC3.out.ct HC3.out.pa
 have HB0 := hid (fun (_ : d.k ≠ 2) => hb1)
 have HBE : Hid (Value.slice d.ba d.bn d.bc = .slice d.ba 0 d.bc) := (show _ = _ by rw [hb1])
 have hbz : ¬ (0 : Int) < (d.bn : Int) := by omega
 clear hb1
 have HND : Hid (NodeU d) := ⟨by rw [HKV.out]; decide, by rw [HKV.out]; decide, HP1.out, HP0.out, HE0.out, HV1.out, HV0.out, HT1.out, HTN.out, HTO.out, HA0.out, HB0.out⟩
 have GA := HIA.out L3 _ HC3.out.bl HC3.out.ct hL30 hL31 hd10
 have GAz := GA
 rw [HAE.out] at GAz
 go_wp2_with fail
 first | with_reducible refine GA.mono ?_ | with_reducible refine GAz.mono ?_
 rintro e w6 ⟨q6, L6, rfl, hq6, hL6, hc6, hp6⟩
 have HC6 := hid (HC3.out.past hg hgw hp6 hc6)
 clear GA hc6 hp6 HC3 GAz x0 x25 x26 x27
 cases q6
 · have HNO : Hid (¬ (uOk (.mk d ka kb) deep ∧ ((usz (.mk d ka kb) : Nat) : Int) ≤ L)) := fun hh => by
     have h1 := hh.1.2.2.2.1
     have h2 := HSZ.out
     have h3 := hh.2
     have h5 := HL3.out
     have h4 := hq6.2 ⟨h1, by omega⟩
     cases h4
   clear hq6 hL6
   go_wp2_with fail
   go_ret
   exact CtrAns.no HNO.out HC6.out.ct HC6.out.pa
 obtain ⟨h61, h62⟩ := hq6.1 rfl
 have h63 := hL6 rfl
 have HOA := hid h61
 have HL6 := hid h63
 have hL60 : 0 ≤ L6 := by omega
 have hL61 : L6 ≤ 100000 := by omega
 clear h61 h62 h63 hq6 hL6
 have x27 := HC6.out.bx.2 27 _ rfl
 have GB := HIB.out L6 _ HC6.out.bl HC6.out.ct hL60 hL61 hd10
 have GBz := GB
 rw [HBE.out] at GBz
 go_wp2_with fail
 first | with_reducible refine GB.mono ?_ | with_reducible refine GBz.mono ?_
 rintro e w7 ⟨q7, L7, rfl, hq7, hL7, hc7, hp7⟩
 have HC7 := hid (HC6.out.past hg hgw hp7 hc7)
 clear GB hc7 hp7 HC6 x27 GBz
 cases q7
 · have HNO : Hid (¬ (uOk (.mk d ka kb) deep ∧ ((usz (.mk d ka kb) : Nat) : Int) ≤ L)) := fun hh => by
     have h1 := hh.1.2.2.2.2
     have h2 := HSZ.out
     have h3 := hh.2
     have h5 := HL3.out
     have h6 := HL6.out
     have h4 := hq7.2 ⟨h1, by omega⟩
     cases h4
   clear hq7 hL7
   go_wp2_with fail
   go_ret
   exact CtrAns.no HNO.out HC7.out.ct HC7.out.pa
 obtain ⟨h71, h72⟩ := hq7.1 rfl
 have h73 := hL7 rfl
 have HOB := hid h71
 have HFL : Hid (((usz (.mk d ka kb) : Nat) : Int) ≤ L ∧ L7 = L - (usz (.mk d ka kb) : Nat)) := (show _ ∧ _ by have h2 := HSZ.out; have h5 := HL3.out; have h6 := HL6.out; omega)
 clear h71 h72 h73 hq7 hL7
 go_wp2_with fail
 go_ret
 exact CtrAns.yes ⟨hd10, HND.out, HE1.out, HOA.out, HOB.out⟩ HFL.out.1 HFL.out.2 HC7.out.ct HC7.out.pa
/- UtG6 -/
theorem l4elem_6 (d : UN) (ka kb : Nat → UT) (hkv : d.k = 6) (deep L : Int) (g : Nat) (w0 w : World) (hl : (UT.mk d ka kb).lies 0 w0) (hw : Bl w0 w) (hg : w0.heap.size ≤ g) (hc : Ctr w g L) (hd0 : 0 ≤ deep) (hd1 : deep ≤ 100000) (hL0 : 0 ≤ L) (hL1 : L ≤ 100000)
   (IA : ∀ (L' : Int) (W : World), Bl w0 W → Ctr W g L' → 0 ≤ L' → L' ≤ 100000 → deep ≤ 10 → Calls Tryz.prog 63 #[.slice d.aa d.an d.ac, .int .i64 (deep + 1), .pointer (some ⟨g, 0, none⟩)] W (CtrAns (∀ i, i < d.an → uOk (ka i) (deep + 1)) (sumN d.an (fun i => usz (ka i))) g L' W))
   (IB : ∀ (L' : Int) (W : World), Bl w0 W → Ctr W g L' → 0 ≤ L' → L' ≤ 100000 → deep ≤ 10 → Calls Tryz.prog 63 #[.slice d.ba d.bn d.bc, .int .i64 (deep + 1), .pointer (some ⟨g, 0, none⟩)] W (CtrAns (∀ i, i < d.bn → uOk (kb i) (deep + 1)) (sumN d.bn (fun i => usz (kb i))) g L' W)) :
   Calls Tryz.prog 94 #[.agg d.ar, .int .i64 deep, .pointer (some ⟨g, 0, none⟩)] w (CtrAns (uOk (.mk d ka kb) deep) (usz (.mk d ka kb)) g L w) := by
 try unfold UN.ar
 obtain ⟨hp, he, hv, ht, htn, ⟨an, aR⟩, ⟨bn, bR⟩, hka, hkb⟩ := hl
 have hgw := hc.lt
 have hsz := hw.size
 have HKV := hid hkv
 obtain ⟨nt, hnt⟩ : ∃ nt, nt = d.tb.length := ⟨_, rfl⟩
 have HNT := hid hnt
 have HLV := hid (nil_len hv.1.1)
 have HVR := hid (fun W (hb : Bl w0 W) => l4var_any d.v W (hv.upper (uB hb)))
 have HZE := hid (fun W (hb : Bl w0 W) => l4zeroExpr_any d.e W (ET.lies.upper (uB hb) he))
 have HZP := hid (fun W (hb : Bl w0 W) => l4zeroPat_any d.p W (hp.upper (uB hb)))
 have HTM : Hid (∀ x ∈ d.tb, ∀ W, Bl w0 W → Cl 133 #[.agg #[.int .i64 x.t.k, .slice x.t.a x.t.len x.t.cap, .int .i64 x.t.n, .int .i64 x.t.s]] W (Tells (x.td.ok = true) W)) := fun x hx W hb => (specTermOk_any x.t.k x.t.n x.t.s x.t.a x.t.len x.t.cap x.b W ((ht.2.2 x hx).1.upper (uB hb)).1 (ht.2.2 x hx).2.1 (ht.2.2 x hx).2.2.1).mono fun e w' ⟨h1, o, h2⟩ => by
   subst h1 h2
   exact Tells.of Iff.rfl (bl_a _)
 have HTR := hid ht.1
 have HIA := hid IA
 have HIB := hid IB
 have HSZ : Hid (usz (.mk d ka kb) = 1 + 0 + (sumN d.an (fun i => usz (ka i)) + sumN d.bn (fun i => usz (kb i)))) := (show usz (.mk d ka kb) = _ by rw [usz_mk]; unfold ownU; rw [hkv]; simp)
 have HCS : Hid (CS w0 w ((w.setCell ⟨g, 0, none⟩ (.int .i64 (L - 1))).alloc (.cells (uA 6 d.p d.e.d d.v (.slice d.ta nt d.tc) (.slice d.aa d.an d.ac) (.slice d.ba d.bn d.bc)) 103)) g (L - 1) (cellsU d 6 nt)) := CS.new hw hg hc _ 103 (L - 1)
 have c0 := fun o => ((bl_a (w := w) o).cell (p := ⟨g, 0, none⟩) hgw).trans hc.cell
 have f0 := fun o => ((bl_a (w := w) o).frozen (p := ⟨g, 0, none⟩) hgw).trans hc.fr
 have hwr : IntKind.i64.wrap (L - 1) = L - 1 := by rw [IntKind.wrap_i64]; omega
 have hdw : IntKind.i64.wrap (deep + 1) = deep + 1 := by rw [IntKind.wrap_i64]; omega
 rw [hkv, ← hnt]
 clear hp he hv ht htn an aR bn bR hka hkb hw hc IA IB hkv hnt
 go_in
 go_upto_region 2 with fail
 generalize ((w.setCell ⟨g, 0, none⟩ (.int .i64 (L - 1))).alloc (.cells (uA 6 d.p d.e.d d.v (.slice d.ta nt d.tc) (.slice d.aa d.an d.ac) (.slice d.ba d.bn d.bc)) 103)) = W1 at *
 clear c0 f0 hwr
 have hW1 := HCS.out.bl.size
 have cg := HCS.out.ct.cell
 have x0 := HCS.out.bx.2 0 _ rfl
 by_cases hLz : L - 1 < 0
 · have HNO : Hid (¬ (uOk (.mk d ka kb) deep ∧ ((usz (.mk d ka kb) : Nat) : Int) ≤ L)) := fun hh => by
     have h := hh.2
     have h2 := HSZ.out
     omega
   go_wp2_with fail
   go_ret
   exact CtrAns.no HNO.out HCS.out.ct HCS.out.pa
 by_cases hdz : deep > 10
 · have HNO : Hid (¬ (uOk (.mk d ka kb) deep ∧ ((usz (.mk d ka kb) : Nat) : Int) ≤ L)) := fun hh => by
     have h := hh.1.1
     omega
   go_wp2_with fail
   go_ret
   exact CtrAns.no HNO.out HCS.out.ct HCS.out.pa
 have hd10 : deep ≤ 10 := by omega
 have y1 := HCS.out.bx.2 1 _ rfl
 have y2 := HCS.out.bx.2 2 _ rfl
 have y3 := HCS.out.bx.2 3 _ rfl
 have y4 := HCS.out.bx.2 4 _ rfl
 have y5 := HCS.out.bx.2 5 _ rfl
 have y6 := HCS.out.bx.2 6 _ rfl
 have y7 := HCS.out.bx.2 7 _ rfl
 have y8 := HCS.out.bx.2 8 _ rfl
 have y9 := HCS.out.bx.2 9 _ rfl
 have y10 := HCS.out.bx.2 10 _ rfl
 have y11 := HCS.out.bx.2 11 _ rfl
 have y12 := HCS.out.bx.2 12 _ rfl
 have y13 := HCS.out.bx.2 13 _ rfl
 have y14 := HCS.out.bx.2 14 _ rfl
 have y15 := HCS.out.bx.2 15 _ rfl
 have ZP := HZP.out W1 HCS.out.bl
 go_wp2_with fail
 refine ZP.mono ?_
 rintro e w2 ⟨q2, rfl, hq2, hb2⟩
 have HC2 := hid (HCS.out.below HCS.out.bl.size hb2)
 clear ZP hb2 HCS x0 cg y1 y2 y3 y4 y5 y6 y7 y8 y9 y10 y11 y12 y13 y14 y15
 cases q2
 · have HNO : Hid (¬ NodeU d) := fun hh => by
     have h4 := hq2.2 (hh.p0 (by rw [HKV.out]; decide))
     cases h4
   clear hq2
   go_wp2_with fail
   go_ret
   exact CtrAns.no (uOk_no HNO.out) HC2.out.ct HC2.out.pa
 have HP0 := hid (fun (_ : d.k ≠ 0) => hq2.1 rfl)
 have HP1 : Hid (d.k = 0 → ptOk d.p) := fun h => absurd h (by rw [HKV.out]; decide)
 clear hq2
 have y0 := HC2.out.bx.2 0 _ rfl
 have y16 := HC2.out.bx.2 16 _ rfl
 have y17 := HC2.out.bx.2 17 _ rfl
 have y18 := HC2.out.bx.2 18 _ rfl
 have y19 := HC2.out.bx.2 19 _ rfl
 have y20 := HC2.out.bx.2 20 _ rfl
 have y21 := HC2.out.bx.2 21 _ rfl
 have y22 := HC2.out.bx.2 22 _ rfl
 have y23 := HC2.out.bx.2 23 _ rfl
 have ZE := HZE.out w2 HC2.out.bl
 go_wp2_with fail
 refine ZE.mono ?_
 rintro e w3 ⟨q3, rfl, hq3, hb3⟩
 have HC3 := hid (HC2.out.below HC2.out.bl.size hb3)
 clear ZE hb3 HC2 y0 y16 y17 y18 y19 y20 y21 y22 y23
 cases q3
 · have HNO : Hid (¬ NodeU d) := fun hh => by
     have h4 := hq3.2 (hh.e0 (by rw [HKV.out]; unfold hasX; omega))
     cases h4
   clear hq3
   go_wp2_with fail
   go_ret
   exact CtrAns.no (uOk_no HNO.out) HC3.out.ct HC3.out.pa
 have HE0 := hid (fun (_ : ¬ hasX d.k) => hq3.1 rfl)
 have HE1 : Hid (hasX d.k → eOk 10 d.e (deep + 1)) := fun h => absurd h (by rw [HKV.out]; unfold hasX; omega)
 obtain ⟨L3, hL3e⟩ : ∃ L3, L3 = L - 1 := ⟨_, rfl⟩
 have HL3 : Hid (L3 = L - (1 + 0 : Nat)) := (show L3 = _ by omega)
 have hL30 : 0 ≤ L3 := by omega
 have hL31 : L3 ≤ 100000 := by omega
 rw [← hL3e] at HC3
 clear hq3 hL3e
 have x0 := HC3.out.bx.2 0 _ rfl
 have x24 := HC3.out.bx.2 24 _ rfl
 have x25 := HC3.out.bx.2 25 _ rfl
 have x26 := HC3.out.bx.2 26 _ rfl
 have x27 := HC3.out.bx.2 27 _ rfl
 by_cases hv1 : d.v.len = 0
 · have HNO : Hid (¬ NodeU d) := fun hh => name_pos (hh.v1 (by rw [HKV.out]; unfold hasN; omega)) (HLV.out.2 hv1)
   have hvz : ¬ (0 : Int) < (d.v.len : Int) := by omega
   clear hv1
   go_wp2_with fail
   go_ret
   exact CtrAns.no (uOk_no HNO.out) HC3.out.ct HC3.out.pa
 have hvz : (0 : Int) < (d.v.len : Int) := by omega
 clear hv1
 have VR := HVR.out w3 HC3.out.bl
 go_wp2_with fail
 refine VR.mono ?_
 rintro e w4 ⟨q4, rfl, hq4, hb4⟩
 have HC3 := hid (HC3.out.below HC3.out.bl.size hb4)
 clear VR hb4 x0 x24 x25 x26 x27
 cases q4
 · have HNO : Hid (¬ NodeU d) := fun hh => by
     have h4 := hq4.2 (hh.v1 (by rw [HKV.out]; unfold hasN; omega))
     cases h4
   clear hq4
   go_wp2_with fail
   go_ret
   exact CtrAns.no (uOk_no HNO.out) HC3.out.ct HC3.out.pa
 have HV1 := hid (fun (_ : hasN d.k) => hq4.1 rfl)
 have HV0 : Hid (¬ hasN d.k → d.v.b = []) := fun h => absurd (by rw [HKV.out]; unfold hasN; omega) h
 clear hq4
 have x0 := HC3.out.bx.2 0 _ rfl
 have x25 := HC3.out.bx.2 25 _ rfl
 have x26 := HC3.out.bx.2 26 _ rfl
 have x27 := HC3.out.bx.2 27 _ rfl
 by_cases ht1 : nt ≤ 8
 rotate_left
 · have HNO : Hid (¬ NodeU d) := fun hh => ht1 (by rw [HNT.out]; exact hh.tn)
   have htz2 : (8 : Int) < (nt : Int) := by omega
   clear ht1
   go_wp2_with fail
   go_ret
   exact CtrAns.no (uOk_no HNO.out) HC3.out.ct HC3.out.pa
 have htz2 : ¬ (8 : Int) < (nt : Int) := by omega
 have HTN := hid (show d.tb.length ≤ 8 by rw [← HNT.out]; exact ht1)
 have HT1 : Hid (d.k ≠ 6 → d.tb = []) := fun h => absurd HKV.out h
 go_wp2_with fail
 clear x0 x25 x26 x27
 go_loopw [9] (fun i wr => ∃ (k : Nat), k ≤ nt ∧ i = .int .i64 k ∧ Hid (∀ j x, j < k → d.tb[j]? = some x → x.td.ok = true) ∧ Hid (CS w0 w wr g L3 (cellsU d 6 nt))) (fun i _ => nt - (intOf i).toNat)
 case atStart => exact ⟨0, Nat.zero_le _, rfl, fun j x hj => absurd hj (Nat.not_lt_zero _), HC3⟩
 clear HC3
 obtain ⟨k, hk, rfl, HOKS, HCr⟩ := hrel
 have x0 := HCr.out.bx.2 0 _ rfl
 have x25 := HCr.out.bx.2 25 _ rfl
 have x26 := HCr.out.bx.2 26 _ rfl
 have x27 := HCr.out.bx.2 27 _ rfl
 by_cases hlk : k < nt
 · have hlkz : (k : Int) < (nt : Int) := by omega
   obtain ⟨x, hx⟩ : ∃ x, d.tb[k]? = some x := ⟨_, List.getElem?_eq_getElem (by rw [← HNT.out]; exact hlk)⟩
   obtain ⟨hk2, hxe⟩ := List.getElem?_eq_some_iff.1 hx
   obtain ⟨b, off, eT, hbt, hct⟩ := HTR.out.resolve_left (fun e => by rw [e] at hk2; exact absurd hk2 (Nat.not_lt_zero _))
   have hcx := TRow.at (l := d.tb) (b := b) (off := off) (w := wr) (fun j u hu => (HCr.out.bl.cell (p := ⟨b, off + j, none⟩) hbt).trans (hct j u hu)) k hk2
   rw [hxe] at hcx
   obtain ⟨z0, z1, z2, z3⟩ := hcx
   rw [eT] at x25
   have HX := hid hx
   have Z := HTM.out x (List.mem_of_getElem? hx) wr HCr.out.bl
   clear hx hxe hk2 hct eT hbt
   go_wp2_with fail
   refine Z.mono ?_
   rintro e w5 ⟨q5, rfl, hq5, hb5⟩
   have HC5 := hid (HCr.out.below HCr.out.bl.size hb5)
   clear Z z0 z1 z2 z3 hb5 x0 x25 x26 x27 HCr
   cases q5
   · have HNO : Hid (¬ NodeU d) := fun hh => by
       have h7 := hq5.2 (hh.tm x (List.mem_of_getElem? HX.out))
       cases h7
     clear hq5
     go_wp2_with fail
     go_ret
     exact CtrAns.no (uOk_no HNO.out) HC5.out.ct HC5.out.pa
   have HN5 := hid (hq5.1 rfl)
   clear hq5
   go_wp2_with fail
   go_roundw
   case rel =>
     refine ⟨k + 1, by omega, by go_num, fun j y hj hy => ?_, HC5⟩
     by_cases e : j = k
     · subst e
       rw [HX.out] at hy
       cases hy
       exact HN5.out
     exact HOKS.out j y (by omega) hy
   case measure => simp [intOf]; omega
 obtain rfl : nt = k := by omega
 have hlkz : ¬ (nt : Int) < (nt : Int) := by omega
 have HTO : Hid (∀ x ∈ d.tb, x.td.ok = true) := fun x hx => by
   obtain ⟨j, hj, rfl⟩ := List.mem_iff_getElem.1 hx
   exact HOKS.out j _ (by rw [HNT.out]; exact hj) (List.getElem?_eq_getElem hj)
 by_cases ha1 : d.an = 0
 rotate_left
 · have HNO : Hid (¬ NodeU d) := fun hh => ha1 (hh.a0 (by rw [HKV.out]; unfold hasG; omega))
   have haz : (0 : Int) < (d.an : Int) := by omega
   clear ha1
   go_wp2_with fail
   go_ret
   exact CtrAns.no (uOk_no HNO.out) HCr.out.ct HCr.out.pa
 have HA0 := hid (fun (_ : ¬ hasG d.k) => ha1)
 have HAE : Hid (Value.slice d.aa d.an d.ac = .slice d.aa 0 d.ac) := (show _ = _ by rw [ha1])
 have haz : ¬ (0 : Int) < (d.an : Int) := by omega
 clear ha1
 by_cases hb1 : d.bn = 0
 rotate_left
 · have HNO : Hid (¬ NodeU d) := fun hh => hb1 (hh.b0 (by rw [HKV.out]; decide))
   have hbz : (0 : Int) < (d.bn : Int) := by omega
   clear hb1
   go_wp2_with fail
   go_ret
   exact CtrAns.no (uOk_no HNO.out) HCr.out.ct HCr.out.pa
 have HB0 := hid (fun (_ : d.k ≠ 2) => hb1)
 have HBE : Hid (Value.slice d.ba d.bn d.bc = .slice d.ba 0 d.bc) := (show _ = _ by rw [hb1])
 have hbz : ¬ (0 : Int) < (d.bn : Int) := by omega
 clear hb1
 have HND : Hid (NodeU d) := ⟨by rw [HKV.out]; decide, by rw [HKV.out]; decide, HP1.out, HP0.out, HE0.out, HV1.out, HV0.out, HT1.out, HTN.out, HTO.out, HA0.out, HB0.out⟩
 have GA := HIA.out L3 _ HCr.out.bl HCr.out.ct hL30 hL31 hd10
 have GAz := GA
 rw [HAE.out] at GAz
 go_wp2_with fail
 first | with_reducible refine GA.mono ?_ | with_reducible refine GAz.mono ?_
 rintro e w6 ⟨q6, L6, rfl, hq6, hL6, hc6, hp6⟩
 have HC6 := hid (HCr.out.past hg hgw hp6 hc6)
 clear GA hc6 hp6 HCr GAz x0 x25 x26 x27
 cases q6
 · have HNO : Hid (¬ (uOk (.mk d ka kb) deep ∧ ((usz (.mk d ka kb) : Nat) : Int) ≤ L)) := fun hh => by
     have h1 := hh.1.2.2.2.1
     have h2 := HSZ.out
     have h3 := hh.2
     have h5 := HL3.out
     have h4 := hq6.2 ⟨h1, by omega⟩
     cases h4
   clear hq6 hL6
   go_wp2_with fail
   go_ret
   exact CtrAns.no HNO.out HC6.out.ct HC6.out.pa
 obtain ⟨h61, h62⟩ := hq6.1 rfl
 have h63 := hL6 rfl
 have HOA := hid h61
 have HL6 := hid h63
 have hL60 : 0 ≤ L6 := by omega
 have hL61 : L6 ≤ 100000 := by omega
 clear h61 h62 h63 hq6 hL6
 have x27 := HC6.out.bx.2 27 _ rfl
 have GB := HIB.out L6 _ HC6.out.bl HC6.out.ct hL60 hL61 hd10
 have GBz := GB
 rw [HBE.out] at GBz
 go_wp2_with fail
 first | with_reducible refine GB.mono ?_ | with_reducible refine GBz.mono ?_
 rintro e w7 ⟨q7, L7, rfl, hq7, hL7, hc7, hp7⟩
 have HC7 := hid (HC6.out.past hg hgw hp7 hc7)
 clear GB hc7 hp7 HC6 x27 GBz
 cases q7
 · have HNO : Hid (¬ (uOk (.mk d ka kb) deep ∧ ((usz (.mk d ka kb) : Nat) : Int) ≤ L)) := fun hh => by
     have h1 := hh.1.2.2.2.2
     have h2 := HSZ.out
     have h3 := hh.2
     have h5 := HL3.out
     have h6 := HL6.out
     have h4 := hq7.2 ⟨h1, by omega⟩
     cases h4
   clear hq7 hL7
   go_wp2_with fail
   go_ret
   exact CtrAns.no HNO.out HC7.out.ct HC7.out.pa
 obtain ⟨h71, h72⟩ := hq7.1 rfl
 have h73 := hL7 rfl
 have HOB := hid h71
 have HFL : Hid (((usz (.mk d ka kb) : Nat) : Int) ≤ L ∧ L7 = L - (usz (.mk d ka kb) : Nat)) := (show _ ∧ _ by have h2 := HSZ.out; have h5 := HL3.out; have h6 := HL6.out; omega)
 clear h71 h72 h73 hq7 hL7
 go_wp2_with fail
 go_ret
 exact CtrAns.yes ⟨hd10, HND.out, HE1.out, HOA.out, HOB.out⟩ HFL.out.1 HFL.out.2 HC7.out.ct HC7.out.pa
end Go.Proofs.YthljoojcpbignaaGreatDoor
