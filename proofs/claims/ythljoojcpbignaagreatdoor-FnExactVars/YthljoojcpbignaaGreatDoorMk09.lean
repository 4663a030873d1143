import Derived.Test.YthljoojcpbignaaGreatDoorMk07
import Derived.Test.YthljoojcpbignaaGreatDoorMk08
namespace Go.Proofs.YthljoojcpbignaaGreatDoor
open Go.RowKit Go.Deep
set_option maxHeartbeats 40000000
set_option maxRecDepth 100000
theorem l4elem_6 (d : UN) (ka kb : Nat → UT) (hkv : d.k = 6) (deep L : Int) (g : Nat) (w0 w : World) (hl : (UT.mk d ka kb).lies 0 w0) (hw : Bl w0 w) (hg : w0.heap.size ≤ g) (hc : Ctr w g L) (hd0 : 0 ≤ deep) (hd1 : deep ≤ 100000) (hL0 : 0 ≤ L) (hL1 : L ≤ 100000)
 (IA : GIH w0 g deep d.aa d.an d.ac ka)
 (IB : GIH w0 g deep d.ba d.bn d.bc kb) :
 Calls Tryz.prog 94 #[.agg d.ar, .int .i64 deep, .pointer (some ⟨g, 0, none⟩)] w (CtrAns (uOk (.mk d ka kb) deep) (usz (.mk d ka kb)) g L w) := by
 try unfold UN.ar
 obtain ⟨hp, he, hv, ht, htn, ⟨an, aR⟩, ⟨bn, bR⟩, hka, hkb⟩ := hl
 have hgw := hc.lt
 have hsz := hw.size
 have HKV := iH hkv
 obtain ⟨nt, hnt⟩ : ∃ nt, nt = d.tb.length := ⟨_, rfl⟩
 have HNT := iH hnt
 have HLV := iH (nil_len hv.1.1)
 have HVR := iH (fun W (hb : Bl w0 W) => l4var_any d.v W (hv.upper (uB hb)))
 have HZE := iH (fun W (hb : Bl w0 W) => l4zeroExpr_any d.e W (ET.lies.upper (uB hb) he))
 have HZP := iH (fun W (hb : Bl w0 W) => l4zeroPat_any d.p W (hp.upper (uB hb)))
 have HTM : Hd (∀ x ∈ d.tb, ∀ W, Bl w0 W → Cl 133 #[.agg #[.int .i64 x.t.k, .slice x.t.a x.t.len x.t.cap, .int .i64 x.t.n, .int .i64 x.t.s]] W (Tells (x.td.ok = true) W)) := fun x hx W hb => (specTermOk_any x.t.k x.t.n x.t.s x.t.a x.t.len x.t.cap x.b W ((ht.2.2 x hx).1.upper (uB hb)).1 (ht.2.2 x hx).2.1 (ht.2.2 x hx).2.2.1).mono fun e w' ⟨h1, o, h2⟩ => by
  subst h1 h2
  exact Tells.of Iff.rfl (bl_a _)
 have HTR := iH ht.1
 have HIA := iH IA
 have HIB := iH IB
 have HSZ : Hd (usz (.mk d ka kb) = 1 + 0 + (sumN d.an (fun i => usz (ka i)) + sumN d.bn (fun i => usz (kb i)))) := (show usz (.mk d ka kb) = _ by rw [usz_mk]; unfold ownU; rw [hkv]; simp)
 have HCS : Hd (CS w0 w ((w.setCell ⟨g, 0, none⟩ (.int .i64 (L - 1))).alloc (.cells (uA 6 d.p d.e.d d.v (.slice d.ta nt d.tc) (.slice d.aa d.an d.ac) (.slice d.ba d.bn d.bc)) 103)) g (L - 1) (cellsU d 6 nt)) := CS.new hw hg hc _ 103 (L - 1)
 have c0 := fun o => ((bl_a (w := w) o).cell (p := ⟨g, 0, none⟩) hgw).trans hc.cell
 have f0 := fun o => ((bl_a (w := w) o).frozen (p := ⟨g, 0, none⟩) hgw).trans hc.fr
 have hwr : IntKind.i64.wrap (L - 1) = L - 1 := by rw [IntKind.wrap_i64]; omega
 have hdw : IntKind.i64.wrap (deep + 1) = deep + 1 := by rw [IntKind.wrap_i64]; omega
 rw [hkv, ← hnt]
 clear hp he hv ht htn an aR bn bR hka hkb hw hc IA IB hkv hnt
 go_in
 go_upto_region 2 with fail
 generalize ((w.setCell ⟨g, 0, none⟩ (.int .i64 (L - 1))).alloc (.cells (uA 6 d.p d.e.d d.v (.slice d.ta nt d.tc) (.slice d.aa d.an d.ac) (.slice d.ba d.bn d.bc)) 103)) = W1 at *
 clear c0 f0 hwr
 have hW1 := HCS.o.bl.size
 have cg := HCS.o.ct.cell
 have x0 := HCS.o.bx.2 0 _ rfl
 by_cases hLz : L - 1 < 0
 · have HNO : Hd (¬ (uOk (.mk d ka kb) deep ∧ ((usz (.mk d ka kb) : Nat) : Int) ≤ L)) := fun hh => by
    have h := hh.2
    have h2 := HSZ.o
    omega
   go_wp2
   go_ret
   exact CtrAns.no HNO.o HCS.o.ct HCS.o.pa
 by_cases hdz : deep > 10
 · have HNO : Hd (¬ (uOk (.mk d ka kb) deep ∧ ((usz (.mk d ka kb) : Nat) : Int) ≤ L)) := fun hh => by
    have h := hh.1.1
    omega
   go_wp2
   go_ret
   exact CtrAns.no HNO.o HCS.o.ct HCS.o.pa
 have hd10 : deep ≤ 10 := by omega
 obtain ⟨y1, y2, y3, y4, y5, y6, y7, y8, y9, y10, y11, y12, y13, y14, y15⟩ := bxB HCS.o.bx
 have ZP := HZP.o W1 HCS.o.bl
 go_wp2_with fail
 refine ZP.mono ?_
 rintro e w2 ⟨q2, rfl, hq2, hb2⟩
 have HC2 := iH (HCS.o.below HCS.o.bl.size hb2)
 clear ZP hb2 HCS x0 cg y1 y2 y3 y4 y5 y6 y7 y8 y9 y10 y11 y12 y13 y14 y15
 cases q2
 · have HNO : Hd (¬ NodeU d) := fun hh => by
    have h4 := hq2.2 (hh.p0 (by rw [HKV.o]; decide))
    cases h4
   clear hq2
   go_wp2
   go_ret
   exact CtrAns.no (uOk_no HNO.o) HC2.o.ct HC2.o.pa
 have HP0 := iH (fun (_ : d.k ≠ 0) => hq2.1 rfl)
 have HP1 : Hd (d.k = 0 → ptOk d.p) := fun h => absurd h (by rw [HKV.o]; decide)
 clear hq2
 obtain ⟨y0, y16, y17, y18, y19, y20, y21, y22, y23⟩ := bxC HC2.o.bx
 have ZE := HZE.o w2 HC2.o.bl
 go_wp2_with fail
 refine ZE.mono ?_
 rintro e w3 ⟨q3, rfl, hq3, hb3⟩
 have HC3 := iH (HC2.o.below HC2.o.bl.size hb3)
 clear ZE hb3 HC2 y0 y16 y17 y18 y19 y20 y21 y22 y23
 cases q3
 · have HNO : Hd (¬ NodeU d) := fun hh => by
    have h4 := hq3.2 (hh.e0 (by rw [HKV.o]; unfold hasX; omega))
    cases h4
   clear hq3
   go_wp2
   go_ret
   exact CtrAns.no (uOk_no HNO.o) HC3.o.ct HC3.o.pa
 have HE0 := iH (fun (_ : ¬ hasX d.k) => hq3.1 rfl)
 have HE1 : Hd (hasX d.k → eOk 10 d.e (deep + 1)) := fun h => absurd h (by rw [HKV.o]; unfold hasX; omega)
 obtain ⟨L3, hL3e⟩ : ∃ L3, L3 = L - 1 := ⟨_, rfl⟩
 have HL3 : Hd (L3 = L - (1 + 0 : Nat)) := (show L3 = _ by omega)
 have hL30 : 0 ≤ L3 := by omega
 have hL31 : L3 ≤ 100000 := by omega
 rw [← hL3e] at HC3
 clear hq3 hL3e
 obtain ⟨x0, x24, x25, x26, x27⟩ := bxD HC3.o.bx
 by_cases hv1 : d.v.len = 0
 · have HNO : Hd (¬ NodeU d) := fun hh => name_pos (hh.v1 (by rw [HKV.o]; unfold hasN; omega)) (HLV.o.2 hv1)
   have hvz : ¬ (0 : Int) < (d.v.len : Int) := by omega
   clear hv1
   go_wp2
   go_ret
   exact CtrAns.no (uOk_no HNO.o) HC3.o.ct HC3.o.pa
 have hvz : (0 : Int) < (d.v.len : Int) := by omega
 clear hv1
 have VR := HVR.o w3 HC3.o.bl
 go_wp2_with fail
 refine VR.mono ?_
 rintro e w4 ⟨q4, rfl, hq4, hb4⟩
 have HC3 := iH (HC3.o.below HC3.o.bl.size hb4)
 clear VR hb4 x0 x24 x25 x26 x27
 cases q4
 · have HNO : Hd (¬ NodeU d) := fun hh => by
    have h4 := hq4.2 (hh.v1 (by rw [HKV.o]; unfold hasN; omega))
    cases h4
   clear hq4
   go_wp2
   go_ret
   exact CtrAns.no (uOk_no HNO.o) HC3.o.ct HC3.o.pa
 have HV1 := iH (fun (_ : hasN d.k) => hq4.1 rfl)
 have HV0 : Hd (¬ hasN d.k → d.v.b = []) := fun h => absurd (by rw [HKV.o]; unfold hasN; omega) h
 clear hq4
 have x0 := HC3.o.bx.2 0 _ rfl
 have x25 := HC3.o.bx.2 25 _ rfl
 have x26 := HC3.o.bx.2 26 _ rfl
 have x27 := HC3.o.bx.2 27 _ rfl
 by_cases ht1 : nt ≤ 8
 rotate_left
 · have HNO : Hd (¬ NodeU d) := fun hh => ht1 (by rw [HNT.o]; exact hh.tn)
   have htz2 : (8 : Int) < (nt : Int) := by omega
   clear ht1
   go_wp2
   go_ret
   exact CtrAns.no (uOk_no HNO.o) HC3.o.ct HC3.o.pa
 have htz2 : ¬ (8 : Int) < (nt : Int) := by omega
 have HTN := iH (show d.tb.length ≤ 8 by rw [← HNT.o]; exact ht1)
 have HT1 : Hd (d.k ≠ 6 → d.tb = []) := fun h => absurd HKV.o h
 go_wp2_with fail
 clear x0 x25 x26 x27
 go_loopw [9] (fun i wr => ∃ (k : Nat), k ≤ nt ∧ i = .int .i64 k ∧ Hd (∀ j x, j < k → d.tb[j]? = some x → x.td.ok = true) ∧ Hd (CS w0 w wr g L3 (cellsU d 6 nt))) (fun i _ => nt - (intOf i).toNat)
 case atStart => exact ⟨0, nZ, rfl, fun j x hj => absurd hj nN, HC3⟩
 clear HC3
 obtain ⟨k, hk, rfl, HOKS, HCr⟩ := hrel
 have x0 := HCr.o.bx.2 0 _ rfl
 have x25 := HCr.o.bx.2 25 _ rfl
 have x26 := HCr.o.bx.2 26 _ rfl
 have x27 := HCr.o.bx.2 27 _ rfl
 by_cases hlk : k < nt
 · have hlkz : (k : Int) < (nt : Int) := by omega
   obtain ⟨x, hx⟩ : ∃ x, d.tb[k]? = some x := ⟨_, List.getElem?_eq_getElem (by rw [← HNT.o]; exact hlk)⟩
   obtain ⟨hk2, hxe⟩ := List.getElem?_eq_some_iff.1 hx
   obtain ⟨b, off, eT, hbt, hct⟩ := HTR.o.resolve_left (fun e => by rw [e] at hk2; exact absurd hk2 nN)
   have hcx := TRow.at (l := d.tb) (b := b) (off := off) (w := wr) (fun j u hu => (HCr.o.bl.cell (p := ⟨b, off + j, none⟩) hbt).trans (hct j u hu)) k hk2
   rw [hxe] at hcx
   obtain ⟨z0, z1, z2, z3⟩ := hcx
   rw [eT] at x25
   have HX := iH hx
   have Z := HTM.o x (List.mem_of_getElem? hx) wr HCr.o.bl
   clear hx hxe hk2 hct eT hbt
   go_wp2_with fail
   refine Z.mono ?_
   rintro e w5 ⟨q5, rfl, hq5, hb5⟩
   have HC5 := iH (HCr.o.below HCr.o.bl.size hb5)
   clear Z z0 z1 z2 z3 hb5 x0 x25 x26 x27 HCr
   cases q5
   · have HNO : Hd (¬ NodeU d) := fun hh => by
      have h7 := hq5.2 (hh.tm x (List.mem_of_getElem? HX.o))
      cases h7
     clear hq5
     go_wp2
     go_ret
     exact CtrAns.no (uOk_no HNO.o) HC5.o.ct HC5.o.pa
   have HN5 := iH (hq5.1 rfl)
   clear hq5
   go_wp2
   go_roundw
   case rel =>
    refine ⟨k + 1, by omega, by go_num, fun j y hj hy => ?_, HC5⟩
    by_cases e : j = k
    · subst e
      rw [HX.o] at hy
      cases hy
      exact HN5.o
    exact HOKS.o j y (by omega) hy
   case measure => simp [intOf]; omega
 obtain rfl : nt = k := by omega
 have hlkz : ¬ (nt : Int) < (nt : Int) := by omega
 have HTO : Hd (∀ x ∈ d.tb, x.td.ok = true) := fun x hx => by
  obtain ⟨j, hj, rfl⟩ := List.mem_iff_getElem.1 hx
  exact HOKS.o j _ (by rw [HNT.o]; exact hj) (List.getElem?_eq_getElem hj)
 by_cases ha1 : d.an = 0
 rotate_left
 · have HNO : Hd (¬ NodeU d) := fun hh => ha1 (hh.a0 (by rw [HKV.o]; unfold hasG; omega))
   have haz : (0 : Int) < (d.an : Int) := by omega
   clear ha1
   go_wp2
   go_ret
   exact CtrAns.no (uOk_no HNO.o) HCr.o.ct HCr.o.pa
 have HA0 := iH (fun (_ : ¬ hasG d.k) => ha1)
 have HAE : Hd (Value.slice d.aa d.an d.ac = .slice d.aa 0 d.ac) := (show _ = _ by rw [ha1])
 have haz : ¬ (0 : Int) < (d.an : Int) := by omega
 clear ha1
 by_cases hb1 : d.bn = 0
 rotate_left
 · have HNO : Hd (¬ NodeU d) := fun hh => hb1 (hh.b0 (by rw [HKV.o]; decide))
   have hbz : (0 : Int) < (d.bn : Int) := by omega
   clear hb1
   go_wp2
   go_ret
   exact CtrAns.no (uOk_no HNO.o) HCr.o.ct HCr.o.pa
 have HB0 := iH (fun (_ : d.k ≠ 2) => hb1)
 have HBE : Hd (Value.slice d.ba d.bn d.bc = .slice d.ba 0 d.bc) := (show _ = _ by rw [hb1])
 have hbz : ¬ (0 : Int) < (d.bn : Int) := by omega
 clear hb1
 have HND : Hd (NodeU d) := ⟨by rw [HKV.o]; decide, by rw [HKV.o]; decide, HP1.o, HP0.o, HE0.o, HV1.o, HV0.o, HT1.o, HTN.o, HTO.o, HA0.o, HB0.o⟩
 have GA := HIA.o L3 _ HCr.o.bl HCr.o.ct hL30 hL31 hd10
 have GAz := GA
 rw [HAE.o] at GAz
 go_wp2_with fail
 first | with_reducible refine GA.mono ?_ | with_reducible refine GAz.mono ?_
 rintro e w6 ⟨q6, L6, rfl, hq6, hL6, hc6, hp6⟩
 have HC6 := iH (HCr.o.past hg hgw hp6 hc6)
 clear GA hc6 hp6 HCr GAz x0 x25 x26 x27
 cases q6
 · have HNO : Hd (¬ (uOk (.mk d ka kb) deep ∧ ((usz (.mk d ka kb) : Nat) : Int) ≤ L)) := fun hh => by
    have h1 := hh.1.2.2.2.1
    have h2 := HSZ.o
    have h3 := hh.2
    have h5 := HL3.o
    have h4 := hq6.2 ⟨h1, by omega⟩
    cases h4
   clear hq6 hL6
   go_wp2
   go_ret
   exact CtrAns.no HNO.o HC6.o.ct HC6.o.pa
 obtain ⟨h61, h62⟩ := hq6.1 rfl
 have h63 := hL6 rfl
 have HOA := iH h61
 have HL6 := iH h63
 have hL60 : 0 ≤ L6 := by omega
 have hL61 : L6 ≤ 100000 := by omega
 clear h61 h62 h63 hq6 hL6
 have x27 := HC6.o.bx.2 27 _ rfl
 have GB := HIB.o L6 _ HC6.o.bl HC6.o.ct hL60 hL61 hd10
 have GBz := GB
 rw [HBE.o] at GBz
 go_wp2_with fail
 first | with_reducible refine GB.mono ?_ | with_reducible refine GBz.mono ?_
 rintro e w7 ⟨q7, L7, rfl, hq7, hL7, hc7, hp7⟩
 have HC7 := iH (HC6.o.past hg hgw hp7 hc7)
 clear GB hc7 hp7 HC6 x27 GBz
 cases q7
 · have HNO : Hd (¬ (uOk (.mk d ka kb) deep ∧ ((usz (.mk d ka kb) : Nat) : Int) ≤ L)) := fun hh => by
    have h1 := hh.1.2.2.2.2
    have h2 := HSZ.o
    have h3 := hh.2
    have h5 := HL3.o
    have h6 := HL6.o
    have h4 := hq7.2 ⟨h1, by omega⟩
    cases h4
   clear hq7 hL7
   go_wp2
   go_ret
   exact CtrAns.no HNO.o HC7.o.ct HC7.o.pa
 obtain ⟨h71, h72⟩ := hq7.1 rfl
 have h73 := hL7 rfl
 have HOB := iH h71
 have HFL : Hd (((usz (.mk d ka kb) : Nat) : Int) ≤ L ∧ L7 = L - (usz (.mk d ka kb) : Nat)) := (show _ ∧ _ by have h2 := HSZ.o; have h5 := HL3.o; have h6 := HL6.o; omega)
 clear h71 h72 h73 hq7 hL7
 go_wp2
 go_ret
 exact CtrAns.yes ⟨hd10, HND.o, HE1.o, HOA.o, HOB.o⟩ HFL.o.1 HFL.o.2 HC7.o.ct HC7.o.pa
theorem l4group_of (a : Option Addr) (cap n : Nat) (kid : Nat → UT) (deep L : Int) (g : Nat) (w0 w : World) (hn : n ≤ 1048576) (hR : KRow 0 w0 28 a n (fun i => (kid i).d.cells)) (hw : Bl w0 w) (hg : w0.heap.size ≤ g) (hc : Ctr w g L) (hL0 : 0 ≤ L) (hL1 : L ≤ 100000)
 (IH : ∀ i, i < n → ∀ (L' : Int) (W : World), Bl w0 W → Ctr W g L' → 0 ≤ L' → L' ≤ 100000 → Calls Tryz.prog 94 #[.agg (kid i).d.ar, .int .i64 deep, .pointer (some ⟨g, 0, none⟩)] W (CtrAns (uOk (kid i) deep) (usz (kid i)) g L' W)) :
 Calls Tryz.prog 63 #[.slice a n cap, .int .i64 deep, .pointer (some ⟨g, 0, none⟩)] w (CtrAns (∀ i, i < n → uOk (kid i) deep) (sumN n (fun i => usz (kid i))) g L w) := by
 try unfold UN.ar
 have hgw := hc.lt
 by_cases hn0 : n = 0
 · subst hn0
   have HC := iH hc
   clear hR IH hn hc hw
   go_in
   go_wp2_with fail
   refine wp_loop_rounds 1 ?_
   rw [rounds_succ]
   go_wp2
   go_ret
   exact CtrAns.yes (fun i hi => absurd hi nN) (by show ((0 : Nat) : Int) ≤ L; omega) (by show L = L - ((0 : Nat) : Int); omega) HC.o (Past.of_below brf)
 obtain ⟨b, off, rfl, _, hlt, hck⟩ := hR.resolve_left hn0
 have HC := iH hck
 have HI := iH IH
 have HC0 := iH hc
 have HW := iH hw
 have hsz := hw.size
 clear hR hck IH hc hw
 go_in
 go_wp2_with fail
 go_loopw [7] (fun i wr => ∃ (k : Nat) (Lr : Int), k ≤ n ∧ i = .int .i64 k ∧ 0 ≤ Lr ∧ Lr ≤ 100000 ∧ Hd (Lr = L - (sumN k (fun i => usz (kid i)) : Nat)) ∧ Hd (∀ j, j < k → uOk (kid j) deep) ∧ Hd (Ctr wr g Lr) ∧ Hd (Past g w wr) ∧ Hd (Bl w0 wr)) (fun i _ => n - (intOf i).toNat)
 case atStart => exact ⟨0, L, nZ, rfl, hL0, hL1, (show L = L - ((0 : Nat) : Int) by omega), fun j hj => absurd hj nN, HC0, Past.of_below brf, HW⟩
 clear HC0 HW
 obtain ⟨k, Lr, hk, rfl, hLr0, hLr1, HLR, HOKS, HCr, HPr, HBr⟩ := hrel
 by_cases hlk : k < n
 · have hlkz : (k : Int) < (n : Int) := by omega
   have hcx : wr.rangeAt b (off + k * 28) (kid k).d.cl := fun c u hu => (HBr.o.cell (p := ⟨b, off + k * 28 + c, none⟩) hlt).trans (HC.o k hlk c u hu)
   have Z := HI.o k hlk Lr wr HBr.o HCr.o hLr0 hLr1
   go_wp2_with (with_reducible refine wpq_at ?_; refine wpList_load_mid rfl 103 _ rfl b (off + k * 28) rfl (kid k).d.cl _ hcx Tryz.underlying103 rfl (by kernel_rfl) ?_; try simp only [Act.put, sA, zA, cA])
   refine Z.mono ?_
   rintro e w5 ⟨q5, L5, rfl, hq5, hL5, hc5, hp5⟩
   have HC5 := iH hc5
   have HP5 := iH (HPr.o.trans hp5)
   have HB5 := iH (HBr.o.trans (hp5.below hg (by have := HBr.o.size; omega)))
   have HS : Hd (sumN (k + 1) (fun i => usz (kid i)) = sumN k (fun i => usz (kid i)) + usz (kid k)) := rfl
   clear Z hcx hc5 hp5 HCr HPr HBr
   cases q5
   · have HNO : Hd (¬ ((∀ i, i < n → uOk (kid i) deep) ∧ ((sumN n (fun i => usz (kid i)) : Nat) : Int) ≤ L)) := fun hh => by
      have h1 := hh.1 k hlk
      have h3 := sumN_mono (f := fun i => usz (kid i)) (show k + 1 ≤ n by omega)
      have h4 := HLR.o
      have h5 := HS.o
      have h6 := hh.2
      have h7 := hq5.2 ⟨h1, by omega⟩
      cases h7
     clear hq5 hL5
     go_wp2
     go_ret
     exact CtrAns.no HNO.o HC5.o HP5.o
   obtain ⟨h51, h52⟩ := hq5.1 rfl
   have h53 := hL5 rfl
   have HN5 := iH h51
   have HL5 : Hd (L5 = L - (sumN (k + 1) (fun i => usz (kid i)) : Nat)) := (show L5 = _ by have h1 := HS.o; have h2 := HLR.o; omega)
   have hL50 : 0 ≤ L5 := by omega
   have hL51 : L5 ≤ 100000 := by omega
   clear h51 h52 h53 hq5 hL5
   go_wp2
   go_roundw
   case rel =>
    refine ⟨k + 1, L5, by omega, by go_num, hL50, hL51, HL5, fun j hj => ?_, HC5, HP5, HB5⟩
    by_cases e : j = k
    · subst e
      exact HN5.o
    exact HOKS.o j (by omega)
   case measure => simp [intOf]; omega
 obtain rfl : k = n := by omega
 have hlkz : ¬ (k : Int) < (k : Int) := by omega
 have HFL : Hd (((sumN k (fun i => usz (kid i)) : Nat) : Int) ≤ L ∧ Lr = L - (sumN k (fun i => usz (kid i)) : Nat)) := (show _ ∧ _ by have h4 := HLR.o; omega)
 go_wp2
 go_ret
 exact CtrAns.yes HOKS.o HFL.o.1 HFL.o.2 HCr.o HPr.o
theorem l4elem_out (d : UN) (ka kb : Nat → UT) (hkv : d.k < 0 ∨ 6 < d.k) (deep L : Int) (g : Nat) (w0 w : World) (hw : Bl w0 w) (hg : w0.heap.size ≤ g) (hc : Ctr w g L) (hL0 : 0 ≤ L) (hL1 : L ≤ 100000) :
 Calls Tryz.prog 94 #[.agg d.ar, .int .i64 deep, .pointer (some ⟨g, 0, none⟩)] w (CtrAns (uOk (.mk d ka kb) deep) (usz (.mk d ka kb)) g L w) := by
 have hgw := hc.lt
 have HNO : Hd (¬ NodeU d) := fun hh => by
  have h1 := hh.k0
  have h2 := hh.k6
  omega
 have HCS : Hd (CS w0 w ((w.setCell ⟨g, 0, none⟩ (.int .i64 (L - 1))).alloc (.cells d.ar 103)) g (L - 1) d.cells) := CS.new hw hg hc _ 103 (L - 1)
 have c0 := fun o => ((bl_a (w := w) o).cell (p := ⟨g, 0, none⟩) hgw).trans hc.cell
 have f0 := fun o => ((bl_a (w := w) o).frozen (p := ⟨g, 0, none⟩) hgw).trans hc.fr
 have hwr : IntKind.i64.wrap (L - 1) = L - 1 := by rw [IntKind.wrap_i64]; omega
 clear hw hc
 go_in
 go_upto_region 2 with fail
 generalize ((w.setCell ⟨g, 0, none⟩ (.int .i64 (L - 1))).alloc (.cells d.ar 103)) = W1 at *
 clear c0 f0 hwr
 have cg := HCS.o.ct.cell
 have x0 := HCS.o.bx.2 0 _ rfl
 by_cases hLz : L - 1 < 0
 · clear hkv
   go_wp2
   go_ret
   exact CtrAns.no (uOk_no HNO.o) HCS.o.ct HCS.o.pa
 by_cases hdz : deep > 10
 · clear hkv
   go_wp2
   go_ret
   exact CtrAns.no (uOk_no HNO.o) HCS.o.ct HCS.o.pa
 by_cases hk0 : d.k < 0
 · clear hkv
   go_wp2
   go_ret
   exact CtrAns.no (uOk_no HNO.o) HCS.o.ct HCS.o.pa
 have hk7 : d.k > 6 := by omega
 clear hkv
 go_wp2
 go_ret
 exact CtrAns.no (uOk_no HNO.o) HCS.o.ct HCS.o.pa
theorem l4elem_any (e : UT) : ∀ (deep L : Int) (g : Nat) (w0 w : World), e.lies 0 w0 → Bl w0 w → w0.heap.size ≤ g → Ctr w g L → 0 ≤ deep → deep ≤ 100000 → 0 ≤ L → L ≤ 100000 →
 Calls Tryz.prog 94 #[.agg e.d.ar, .int .i64 deep, .pointer (some ⟨g, 0, none⟩)] w (CtrAns (uOk e deep) (usz e) g L w) := by
 induction e with
 | nil => exact fun _ _ _ _ _ h => False.elim h
 | mk d ka kb ia ib =>
  intro deep L g w0 w hl hw hg hc hd0 hd1 hL0 hL1
  obtain ⟨_, _, _, _, _, ⟨an, aR⟩, ⟨bn, bR⟩, hka, hkb⟩ := id hl
  have IA := fun (L' : Int) (W : World) (hb : Bl w0 W) (hc' : Ctr W g L') (h0 : 0 ≤ L') (h1 : L' ≤ 100000) (h10 : deep ≤ 10) => l4group_of d.aa d.ac d.an ka (deep + 1) L' g w0 W an aR hb hg hc' h0 h1 fun i hi L2 W2 hb2 hc2 h02 h12 => ia i (deep + 1) L2 g w0 W2 (hka i hi) hb2 hg hc2 (by omega) (by omega) h02 h12
  have IB := fun (L' : Int) (W : World) (hb : Bl w0 W) (hc' : Ctr W g L') (h0 : 0 ≤ L') (h1 : L' ≤ 100000) (h10 : deep ≤ 10) => l4group_of d.ba d.bc d.bn kb (deep + 1) L' g w0 W bn bR hb hg hc' h0 h1 fun i hi L2 W2 hb2 hc2 h02 h12 => ib i (deep + 1) L2 g w0 W2 (hkb i hi) hb2 hg hc2 (by omega) (by omega) h02 h12
  by_cases hout : d.k < 0 ∨ 6 < d.k
  · exact l4elem_out d ka kb hout deep L g w0 w hw hg hc hL0 hL1
  rcases (by omega : d.k = 0 ∨ d.k = 1 ∨ d.k = 2 ∨ d.k = 3 ∨ d.k = 4 ∨ d.k = 5 ∨ d.k = 6) with h | h | h | h | h | h | h
  · exact l4elem_0 d ka kb h deep L g w0 w hl hw hg hc hd0 hd1 hL0 hL1 IA IB
  · exact l4elem_1 d ka kb h deep L g w0 w hl hw hg hc hd0 hd1 hL0 hL1 IA IB
  · exact l4elem_2 d ka kb h deep L g w0 w hl hw hg hc hd0 hd1 hL0 hL1 IA IB
  · exact l4elem_3 d ka kb h deep L g w0 w hl hw hg hc hd0 hd1 hL0 hL1 IA IB
  · exact l4elem_4 d ka kb h deep L g w0 w hl hw hg hc hd0 hd1 hL0 hL1 IA IB
  · exact l4elem_5 d ka kb h deep L g w0 w hl hw hg hc hd0 hd1 hL0 hL1 IA IB
  exact l4elem_6 d ka kb h deep L g w0 w hl hw hg hc hd0 hd1 hL0 hL1 IA IB
def foldN {α : Type} : Nat → (Nat → α → α) → α → α
 | 0, _, a => a
 | n + 1, f, a => f n (foldN n f a)
def eV : ET → List (List Int) → List (List Int)
 | .nil, l => l
 | .mk d kid, l => foldN d.n (fun i acc => eV (kid i) acc) (addV l d.v.b)
def ptV (p : PB) (l : List (List Int)) : List (List Int) := addV (addV (addV l p.s.v.b) p.p.v.b) p.o.v.b
def ac : AT → Nat
 | .nil => 0
 | .mk d kid => 3 * d.pn + esz d.e + 1 + sumN d.n (fun i => ac (kid i))
theorem foldN_congr {α : Type} {n : Nat} {f g : Nat → α → α} (h : ∀ i, i < n → ∀ a, f i a = g i a) (a : α) : foldN n f a = foldN n g a := by
 induction n with
 | zero => rfl
 | succ n ih =>
  show f n (foldN n f a) = g n (foldN n g a)
  rw [ih (fun i hi => h i (by omega)), h n (by omega)]
theorem foldN_len {n : Nat} {f : Nat → List (List Int) → List (List Int)} {c : Nat → Nat} (h : ∀ i l, i < n → (f i l).length ≤ l.length + c i) (l : List (List Int)) : (foldN n f l).length ≤ l.length + sumN n c := by
 induction n with
 | zero => exact nR
 | succ n ih =>
  have h1 := ih (fun i l hi => h i l (by omega))
  have h2 := h n (foldN n f l) (by omega)
  show (f n (foldN n f l)).length ≤ l.length + (sumN n c + c n)
  omega
theorem eV_len (e : ET) : ∀ l, (eV e l).length ≤ l.length + esz e := by
 induction e with
 | nil => exact fun l => nR
 | mk d kid ih =>
  intro l
  have h1 := addV_len l d.v.b
  have h2 := foldN_len (f := fun i acc => eV (kid i) acc) (c := fun i => esz (kid i)) (n := d.n) (fun i l _ => ih i l) (addV l d.v.b)
  show (foldN d.n (fun i acc => eV (kid i) acc) (addV l d.v.b)).length ≤ l.length + (1 + sumN d.n (fun i => esz (kid i)))
  omega
theorem ptV_len (p : PB) (l : List (List Int)) : (ptV p l).length ≤ l.length + 3 := by
 have h1 := addV_len l p.s.v.b
 have h2 := addV_len (addV l p.s.v.b) p.p.v.b
 have h3 := addV_len (addV (addV l p.s.v.b) p.p.v.b) p.o.v.b
 unfold ptV
 omega
theorem eV_same {e : ET} : ∀ {e' : ET} {l : List (List Int)}, e.same e' → eV e l = eV e' l := by
 induction e with
 | nil => exact fun h => False.elim h
 | mk d kid ih =>
  intro e' l h
  cases e' with
  | nil => exact False.elim h
  | mk d' kid' =>
  obtain ⟨_, _, h2, _, h4, h5⟩ := h
  show foldN d.n _ (addV l d.v.b) = foldN d'.n _ (addV l d'.v.b)
  rw [← h4, ← h2]
  exact foldN_congr (fun i hi a => ih i (h5 i hi)) _
theorem VL.ne {w0 w : World} {B : Nat} {v : Value} {L : List SL} (h : VL w0 w B v L) : v.ownBlock ≠ some w.heap.size := fun e => by have := (h.lo _ e).2; omega
theorem Kp.ne {v v' : Value} {w W wr : World} {o : Obj} (h : Kp v W v' wr) (hW : W = w.alloc o) (hv : v.ownBlock ≠ some w.heap.size) : v'.ownBlock ≠ some w.heap.size := fun e => by
 rcases h.blk _ e with e' | e'
 · exact hv e'
 rw [hW] at e'
 have : (w.alloc o).heap.size = w.heap.size + 1 := by simp
 omega
theorem l4exprVars_any (e : ET) : ∀ (v : Value) (L : List SL) (B : Nat) (w0 w : World), e.lies 0 w0 → VL w0 w B v L → Bl w0 w → L.length + esz e ≤ 1000000 → B ≤ w.heap.size → w0.heap.size ≤ B →
 Calls Tryz.prog 52 #[v, .agg e.d.ar] w (AddAns w0 B v (eV e (L.map SL.b)) w) := by
 try unfold EN.ar
 induction e with
 | nil => exact fun _ _ _ _ _ h => False.elim h
 | mk d kid ih =>
  intro v L B w0 w hl hV hw hn hB hwB
  show Calls Tryz.prog 52 #[v, .agg d.ar] w (AddAns w0 B v (foldN d.n (fun i acc => eV (kid i) acc) (addV (L.map SL.b) d.v.b)) w)
  obtain ⟨hv, _, _, hn20, hR, hk⟩ := hl
  have hsum : esz (.mk d kid) = 1 + sumN d.n (fun i => esz (kid i)) := rfl
  obtain ⟨W, hW⟩ : ∃ W, W = w.alloc (.cells d.ar 100) := ⟨_, rfl⟩
  have hbW : Bl w W := by rw [hW]; exact bl_a _
  have HX0 : Hd (Box W w.heap.size d.cl) := (show Box _ _ _ by rw [hW]; exact Box.new w _ 100 _)
  have HNV := iH hV.ne
  have HLV := iH (fun g (hg : v.ownBlock = some g) => (hV.lo g hg).1)
  have AD := l4add_any v L d.v B w0 W (hV.below hbW) (hw.trans (hbW.mono hw.size)) hv (by omega) (Nat.le_trans hB hbW.size)
  have HBW : Hd (Bl w W ∧ B ≤ W.heap.size ∧ Bl w0 W) := ⟨hbW, Nat.le_trans hB hbW.size, hw.trans (hbW.mono hw.size)⟩
  have HWE := iH hW
  have HKR := iH hR
  have HIH := iH (fun i (hi : i < d.n) (v' : Value) (L' : List SL) (W' : World) (h1 : VL w0 W' B v' L') (h2 : Bl w0 W') (h3 : L'.length + esz (kid i) ≤ 1000000) (h4 : B ≤ W'.heap.size) => ih i v' L' B w0 W' (hk i hi) h1 h2 h3 h4 hwB)
  have HLEN : Hd (∀ k, k < d.n → (foldN k (fun i acc => eV (kid i) acc) (addV (L.map SL.b) d.v.b)).length + esz (kid k) ≤ 1000000) := fun k hk => by
   have h1 := foldN_len (f := fun i acc => eV (kid i) acc) (c := fun i => esz (kid i)) (n := k) (fun i l _ => eV_len (kid i) l) (addV (L.map SL.b) d.v.b)
   have h2 := addV_len (L.map SL.b) d.v.b
   rw [List.length_map] at h2
   have h3 := sumN_mono (f := fun i => esz (kid i)) (show k + 1 ≤ d.n by omega)
   have h4 : sumN (k + 1) (fun i => esz (kid i)) = sumN k (fun i => esz (kid i)) + esz (kid k) := rfl
   omega
  clear hR hk ih hv hV hw hn hB hbW hsum
  go_in
  go_upto_region 1 with fail
  rw [← hW]
  clear hW
  have c2 := HX0.o.2 2 _ rfl
  go_wp2_with fail
  refine AD.mono ?_
  rintro e w1 ⟨v1, L1, rfl, hV1, hR1, hK1⟩
  have HV1 := iH hV1
  have HR1 : Hd (L1.map SL.b = foldN 0 (fun i acc => eV (kid i) acc) (addV (L.map SL.b) d.v.b)) := hR1
  have HK1 := iH hK1
  clear AD hV1 hR1 hK1 c2
  go_wp2_with fail
  go_loopw [0, 5] (fun lv i wr => ∃ (k : Nat) (v' : Value) (L' : List SL), k ≤ d.n ∧ v' = lv ∧ i = .int .i64 k ∧ Hd (VL w0 wr B v' L') ∧ Hd (L'.map SL.b = foldN k (fun i acc => eV (kid i) acc) (addV (L.map SL.b) d.v.b)) ∧ Hd (Kp v W v' wr)) (fun _ i _ => d.n - (intOf i).toNat)
  case atStart => exact ⟨0, v1, L1, nZ, rfl, rfl, HV1, HR1, HK1⟩
  clear HV1 HR1 HK1
  obtain ⟨k, v', L', hk, rfl, rfl, HVr, HRr, HKr⟩ := hrel
  have x7 := (HKr.o.box HX0.o HNV.o).2 7 _ rfl
  by_cases hlk : k < d.n
  · have hlkz : (k : Int) < (d.n : Int) := by omega
    obtain ⟨b, off, eK, _, hbk, hck⟩ := HKR.o.resolve_left (by omega)
    have hbr := HBW.o.2.2.trans ((HKr.o.low HLV.o HBW.o.2.1).mono hwB)
    have hcx : wr.rangeAt b (off + k * 8) (kid k).d.cl := fun c u hu => (hbr.cell (p := ⟨b, off + k * 8 + c, none⟩) hbk).trans (hck k hlk c u hu)
    have hll : L'.length = (foldN k (fun i acc => eV (kid i) acc) (addV (L.map SL.b) d.v.b)).length := by rw [← HRr.o, List.length_map]
    have Z := HIH.o k hlk v' L' wr HVr.o hbr (by rw [hll]; exact HLEN.o k hlk) (Nat.le_trans HBW.o.2.1 HKr.o.size)
    rw [HRr.o] at Z
    have HS : Hd (foldN (k + 1) (fun i acc => eV (kid i) acc) (addV (L.map SL.b) d.v.b) = eV (kid k) (foldN k (fun i acc => eV (kid i) acc) (addV (L.map SL.b) d.v.b))) := rfl
    rw [eK] at x7
    clear eK hck hbr hll
    go_wp2_with (refine wpList_load_mid rfl 100 _ rfl b (off + k * 8) rfl (kid k).d.cl _ hcx Tryz.underlying100 rfl (by kernel_rfl) ?_; try simp only [Act.put, sA, zA, cA])
    refine Z.mono ?_
    rintro e w5 ⟨v5, L5, rfl, hV5, hR5, hK5⟩
    have HN1 := iH hV5
    have HN2 : Hd (L5.map SL.b = foldN (k + 1) (fun i acc => eV (kid i) acc) (addV (L.map SL.b) d.v.b)) := (show _ = _ by rw [HS.o]; exact hR5)
    have HN3 := iH (HKr.o.trans hK5)
    clear Z hcx hV5 hR5 hK5 x7 HVr HRr HKr
    go_wp2
    go_roundw
    case rel => exact ⟨k + 1, v5, L5, by omega, rfl, by go_num, HN1, HN2, HN3⟩
    case measure => simp [intOf]; omega
  obtain rfl : k = d.n := by omega
  have hlkz : ¬ (d.n : Int) < (d.n : Int) := by omega
  go_wp2
  go_ret
  exact ⟨_, L', rfl, HVr.o, HRr.o, Kp.pre HBW.o.1 HKr.o⟩
end Go.Proofs.YthljoojcpbignaaGreatDoor
