import Derived.Test.YtoloadogihbdeaaGreatMk20
namespace Go.Proofs.YtoloadogihbdeaaGreat
open Go.RowKit Go.Deep
set_option maxHeartbeats 40000000
set_option maxRecDepth 100000
theorem l7planOk_4 (d : PN) (kid : Nat → PT) (hkv : d.k = 4) (deep L : Int) (g : Nat) (w0 w : World) (hl : (PT.mk d kid).lies 0 w0) (hw : Bl w0 w) (hg : w0.heap.size ≤ g) (hc : Ctr w g L) (hd0 : 0 ≤ deep) (hd1 : deep ≤ 100000) (hL0 : 0 ≤ L) (hL1 : L ≤ 100000)
 (IH : ∀ i, i < d.n → ∀ (L' : Int) (W : World), Bl w0 W → Ctr W g L' → 0 ≤ L' → L' ≤ 100000 → deep ≤ 480 → Calls Tryz.prog 75 #[.agg (kid i).d.ar, .int .i64 (deep + 1), .pointer (some ⟨g, 0, none⟩)] W (CtrAns (pOk (kid i) (deep + 1)) (psz (kid i)) g L' W)) :
 Calls Tryz.prog 75 #[.agg d.ar, .int .i64 deep, .pointer (some ⟨g, 0, none⟩)] w (CtrAns (pOk (.mk d kid) deep) (psz (.mk d kid)) g L w) := by
 try unfold PN.ar
 obtain ⟨hp, he, hv, ht, htn, hn, hR, hk⟩ := hl
 have hgw : g < w.heap.size := hc.lt
 have hsz : w0.heap.size ≤ w.heap.size := hw.size
 have HKV : Hd (d.k = 4) := hkv
 obtain ⟨nt, hnt⟩ : ∃ nt, nt = d.tb.length := ⟨_, rfl⟩
 have HNT : Hd (nt = d.tb.length) := hnt
 have HLV : Hd (d.v.b = [] ↔ d.v.len = 0) := nil_len hv.1.1
 have HVR : Hd (∀ W, Bl w0 W → Cl 108 #[.slice d.v.a d.v.len d.v.cap] W (Tells (nameOk d.v.b = true) W)) := fun W hb => l4var_any d.v W (hv.upper (uB hb))
 have HZE : Hd (∀ W, Bl w0 W → Cl 107 #[.agg d.e.d.ar] W (Tells (zeroE d.e) W)) := fun W hb => l4zeroExpr_any d.e W (ET.lies.upper (uB hb) he)
 have HEF : Hd (∀ W L', Bl w0 W → Ctr W g L' → 0 ≤ L' → L' ≤ 100000 → Cl 106 #[.agg d.e.d.ar, .int .i64 1, .pointer (some ⟨g, 0, none⟩)] W (CtrAns (eOk 120 d.e 1) (esz d.e) g L' W)) := fun W L' hb hc' h0 h1 => l5fits_any d.e 1 L' g w0 W he hb hg hc' (by omega) (by omega) h0 h1
 have HPT : Hd (∀ W, Bl w0 W → Cl 109 #[.agg d.p.ar] W (Tells (ptOk d.p) W)) := fun W hb => l4pat_any d.p W (hp.upper (uB hb))
 have HZP : Hd (∀ W, Bl w0 W → Cl 114 #[.agg d.p.ar] W (Tells (zeroP d.p) W)) := fun W hb => l4zeroPat_any d.p W (hp.upper (uB hb))
 have HTM : Hd (∀ x ∈ d.tb, ∀ W, Bl w0 W → Cl 110 #[.agg #[.int .i64 x.t.k, .slice x.t.a x.t.len x.t.cap, .int .i64 x.t.n, .int .i64 x.t.s]] W (Tells (x.td.ok = true) W)) := fun x hx W hb => (specTermOk_any x.t.k x.t.n x.t.s x.t.a x.t.len x.t.cap x.b W ((ht.2.2 x hx).1.upper (uB hb)).1 (ht.2.2 x hx).2.1 (ht.2.2 x hx).2.2.1).mono fun e w' ⟨h1, o, h2⟩ => by
  subst h1 h2
  exact Tells.of Iff.rfl (bl_a _)
 have HIH : Hd (∀ i, i < d.n → ∀ (L' : Int) (W : World), Bl w0 W → Ctr W g L' → 0 ≤ L' → L' ≤ 100000 → deep ≤ 480 → Cl 75 #[.agg (kid i).d.ar, .int .i64 (deep + 1), .pointer (some ⟨g, 0, none⟩)] W (CtrAns (pOk (kid i) (deep + 1)) (psz (kid i)) g L' W)) := IH
 have HTR : Hd (TRow w0 d.ta d.tb) := ht.1
 have HKR : Hd (KRow 0 w0 28 d.ka d.n (fun i => (kid i).d.cells)) := hR
 have HSZ : Hd (psz (.mk d kid) = 1 + 0 + sumN d.n (fun i => psz (kid i))) := (show psz (.mk d kid) = _ by rw [psz_mk]; unfold ownP; rw [hkv]; simp)
 have HCS : Hd (CS w0 w ((w.setCell ⟨g, 0, none⟩ (.int .i64 (L - 1))).alloc (.cells (wA 4 d.ord d.p d.e.d d.v (.slice d.ta nt d.tc) (.slice d.ka d.n d.kc)) 46)) g (L - 1) (cellsT d 4 nt)) := CS.new hw hg hc (wA 4 d.ord d.p d.e.d d.v (.slice d.ta nt d.tc) (.slice d.ka d.n d.kc)) 46 (L - 1)
 have c0 := fun o => ((bl_a (w := w) o).cell (p := ⟨g, 0, none⟩) hgw).trans hc.cell
 have f0 := fun o => ((bl_a (w := w) o).frozen (p := ⟨g, 0, none⟩) hgw).trans hc.fr
 have hwr : IntKind.i64.wrap (L - 1) = L - 1 := by rw [IntKind.wrap_i64]; omega
 rw [hkv, ← hnt]
 clear hp he hv ht htn hn hR hk hw hc IH hkv hnt
 go_enter Tryz.func75, Tryz.ntmps75
 go_upto_region 2 with fail
 generalize ((w.setCell ⟨g, 0, none⟩ (.int .i64 (L - 1))).alloc (.cells (wA 4 d.ord d.p d.e.d d.v (.slice d.ta nt d.tc) (.slice d.ka d.n d.kc)) 46)) = W1 at *
 clear c0 f0 hwr
 have hW1 : w0.heap.size ≤ W1.heap.size := HCS.o.bl.size
 have cg := HCS.o.ct.cell
 have x0 := HCS.o.bx.2 0 _ rfl
 have x1 := HCS.o.bx.2 1 _ rfl
 by_cases hLz : L - 1 < 0
 · have HNO : Hd (¬ (pOk (.mk d kid) deep ∧ ((psz (.mk d kid) : Nat) : Int) ≤ L)) := fun hh => by
    have h := hh.2
    have h2 := HSZ.o
    omega
   go_wp2
   go_ret
   exact CtrAns.no HNO.o HCS.o.ct HCS.o.pa
 by_cases hdz : deep > 480
 · have HNO : Hd (¬ (pOk (.mk d kid) deep ∧ ((psz (.mk d kid) : Nat) : Int) ≤ L)) := fun hh => by
    have h := hh.1.1
    omega
   go_wp2
   go_ret
   exact CtrAns.no HNO.o HCS.o.ct HCS.o.pa
 by_cases ho0 : d.ord < 0
 · have HNO : Hd (¬ NodeP d) := fun hh => by
    have h := hh.o0
    omega
   go_wp2
   go_ret
   exact CtrAns.no (pOk_no HNO.o) HCS.o.ct HCS.o.pa
 by_cases ho5 : d.ord > 5
 · have HNO : Hd (¬ NodeP d) := fun hh => by
    have h := hh.o5
    omega
   go_wp2
   go_ret
   exact CtrAns.no (pOk_no HNO.o) HCS.o.ct HCS.o.pa
 have hd10 : deep ≤ 480 := by omega
 have HO0 : Hd (0 ≤ d.ord) := (show 0 ≤ d.ord by omega)
 have HO5 : Hd (d.ord ≤ 5) := (show d.ord ≤ 5 by omega)
 have HCq : Hd (∀ o, CS w0 w (W1.alloc o) g (L - 1) (cellsT d 4 nt)) := fun o => HCS.o.below hW1 (bl_a o)
 have y0 := fun o => (HCq.o o).bx.2 0 _ rfl
 have y1 := fun o => (HCq.o o).bx.2 1 _ rfl
 have y26 := fun o => (HCq.o o).bx.2 26 _ rfl
 have y27 := fun o => (HCq.o o).bx.2 27 _ rfl
 have y2 := fun o => (HCq.o o).bx.2 2 _ rfl
 have y3 := fun o => (HCq.o o).bx.2 3 _ rfl
 have y4 := fun o => (HCq.o o).bx.2 4 _ rfl
 have y5 := fun o => (HCq.o o).bx.2 5 _ rfl
 have y6 := fun o => (HCq.o o).bx.2 6 _ rfl
 have y7 := fun o => (HCq.o o).bx.2 7 _ rfl
 have y8 := fun o => (HCq.o o).bx.2 8 _ rfl
 have y9 := fun o => (HCq.o o).bx.2 9 _ rfl
 have y10 := fun o => (HCq.o o).bx.2 10 _ rfl
 have y11 := fun o => (HCq.o o).bx.2 11 _ rfl
 have y12 := fun o => (HCq.o o).bx.2 12 _ rfl
 have y13 := fun o => (HCq.o o).bx.2 13 _ rfl
 have y14 := fun o => (HCq.o o).bx.2 14 _ rfl
 have y15 := fun o => (HCq.o o).bx.2 15 _ rfl
 have y16 := fun o => (HCq.o o).bx.2 16 _ rfl
 by_cases hn1 : d.n = 2
 rotate_left
 · have HNO : Hd (¬ NodeP d) := fun hh => hn1 (by have h := hh.n; rw [HKV.o] at h; exact h)
   have hne : ((2 : Int) == (d.n : Int)) = false := by simp; omega
   have hnf : ((2 : Int) != (d.n : Int)) = true := by simp; omega
   clear hn1
   go_wp2
   go_ret
   exact CtrAns.no (pOk_no HNO.o) (HCq.o _).ct (HCq.o _).pa
 have HN : Hd (d.n = 2) := hn1
 have hne : ((2 : Int) == (d.n : Int)) = true := by simp; omega
 have hnf : ((2 : Int) != (d.n : Int)) = false := by simp; omega
 clear hn1
 have ZP := fun o => HZP.o (W1.alloc o) (HCq.o o).bl
 go_wp2_with fail
 refine (ZP _).mono ?_
 rintro e w2 ⟨q2, rfl, hq2, hb2⟩
 have HC2 : Hd (CS w0 w w2 g (L - 1) (cellsT d 4 nt)) := (HCq.o _).below (HCq.o _).bl.size hb2
 clear ZP hb2 HCq y0 y1 y26 y27 y2 y3 y4 y5 y6 y7 y8 y9 y10 y11 y12 y13 y14 y15 y16 x0 x1 cg
 cases q2
 · have HNO : Hd (¬ NodeP d) := fun hh => by
    have h4 := hq2.2 (hh.p0 (by rw [HKV.o]; decide))
    cases h4
   clear hq2
   go_wp2
   go_ret
   exact CtrAns.no (pOk_no HNO.o) HC2.o.ct HC2.o.pa
 have HP0 : Hd (d.k ≠ 0 → zeroP d.p) := fun _ => hq2.1 rfl
 have HP1 : Hd (d.k = 0 → ptOk d.p) := fun h => absurd h (by rw [HKV.o]; decide)
 clear hq2
 have y0 := HC2.o.bx.2 0 _ rfl
 have y1 := HC2.o.bx.2 1 _ rfl
 have y26 := HC2.o.bx.2 26 _ rfl
 have y27 := HC2.o.bx.2 27 _ rfl
 by_cases hoz : d.ord = 0
 rotate_left
 · have HNO : Hd (¬ NodeP d) := fun hh => hoz (hh.oz (by rw [HKV.o]; decide))
   have hoe : (d.ord == (0 : Int)) = false := by simp; omega
   have hof : (d.ord != (0 : Int)) = true := by simp; omega
   clear hoz
   go_wp2
   go_ret
   exact CtrAns.no (pOk_no HNO.o) HC2.o.ct HC2.o.pa
 have HOZ : Hd (d.k ≠ 0 → d.ord = 0) := fun _ => hoz
 have hoe : (d.ord == (0 : Int)) = true := by simp; omega
 have hof : (d.ord != (0 : Int)) = false := by simp; omega
 clear hoz
 by_cases ht1 : nt = 0
 rotate_left
 · have HNO : Hd (¬ NodeP d) := fun hh => ht1 (by rw [HNT.o]; exact tb_nil.1 (hh.t0 (by rw [HKV.o]; decide)))
   have htz : (0 : Int) < (nt : Int) := by omega
   clear ht1
   go_wp2
   go_ret
   exact CtrAns.no (pOk_no HNO.o) HC2.o.ct HC2.o.pa
 have HT0 : Hd (d.tb.length = 0) := (show d.tb.length = 0 by rw [← HNT.o]; exact ht1)
 have htz : ¬ (0 : Int) < (nt : Int) := by omega
 have htz2 : ¬ (8 : Int) < (nt : Int) := by omega
 clear ht1
 have y17 := HC2.o.bx.2 17 _ rfl
 have y18 := HC2.o.bx.2 18 _ rfl
 have y19 := HC2.o.bx.2 19 _ rfl
 have y20 := HC2.o.bx.2 20 _ rfl
 have y21 := HC2.o.bx.2 21 _ rfl
 have y22 := HC2.o.bx.2 22 _ rfl
 have y23 := HC2.o.bx.2 23 _ rfl
 have y24 := HC2.o.bx.2 24 _ rfl
 have ZE := HZE.o w2 HC2.o.bl
 go_wp2_with fail
 refine ZE.mono ?_
 rintro e w3 ⟨q3, rfl, hq3, hb3⟩
 have HC3 : Hd (CS w0 w w3 g (L - 1) (cellsT d 4 nt)) := HC2.o.below HC2.o.bl.size hb3
 clear ZE hb3 HC2 y0 y1 y26 y27 y17 y18 y19 y20 y21 y22 y23 y24
 cases q3
 · have HNO : Hd (¬ NodeP d) := fun hh => by
    have h4 := hq3.2 (hh.e0 (by rw [HKV.o]; unfold hasE; omega))
    cases h4
   clear hq3
   go_wp2
   go_ret
   exact CtrAns.no (pOk_no HNO.o) HC3.o.ct HC3.o.pa
 have HE0 : Hd (¬ hasE d.k → zeroE d.e) := fun _ => hq3.1 rfl
 have HE1 : Hd (hasE d.k → eOk 120 d.e 1) := fun h => absurd h (by rw [HKV.o]; unfold hasE; omega)
 obtain ⟨L3, hL3e⟩ : ∃ L3, L3 = L - 1 := ⟨_, rfl⟩
 have HL3 : Hd (L3 = L - (1 + 0 : Nat)) := (show L3 = _ by omega)
 have hL30 : 0 ≤ L3 := by omega
 have hL31 : L3 ≤ 100000 := by omega
 rw [← hL3e] at HC3
 clear hq3 hL3e
 have x25 := HC3.o.bx.2 25 _ rfl
 by_cases hv1 : d.v.len = 0
 rotate_left
 · have HNO : Hd (¬ NodeP d) := fun hh => hv1 (HLV.o.1 (hh.v0 (by rw [HKV.o]; unfold hasV; omega)))
   have hvz : (0 : Int) < (d.v.len : Int) := by omega
   clear hv1
   go_wp2
   go_ret
   exact CtrAns.no (pOk_no HNO.o) HC3.o.ct HC3.o.pa
 have HV1 : Hd (hasV d.k → nameOk d.v.b = true) := fun h => absurd h (by rw [HKV.o]; unfold hasV; omega)
 have HV0 : Hd (¬ hasV d.k → d.v.b = []) := fun _ => HLV.o.2 hv1
 have hvz : ¬ (0 : Int) < (d.v.len : Int) := by omega
 clear hv1
 have x26 := HC3.o.bx.2 26 _ rfl
 have x27 := HC3.o.bx.2 27 _ rfl
 have HTO : Hd (∀ x ∈ d.tb, x.td.ok = true) := fun x hx => absurd hx (by rw [tb_nil.2 HT0.o]; exact List.not_mem_nil)
 have HND : Hd (NodeP d) := ⟨by rw [HKV.o]; decide, by rw [HKV.o]; decide, HO0.o, HO5.o, by rw [HKV.o, HN.o]; rfl, HP1.o, HP0.o, HOZ.o, fun _ => tb_nil.2 HT0.o, by rw [HT0.o]; omega, HE1.o, HE0.o, HV1.o, HV0.o, HTO.o⟩
 obtain ⟨b, off, eK, _, hbk, hck⟩ := HKR.o.resolve_left (by rw [HN.o]; omega)
 have HCK : Hd (∀ i, i < d.n → ∀ c u, ((kid i).d.cells)[c]? = some u → w0.cell? ⟨b, off + i * 28 + c, none⟩ = some u) := hck
 have hbk' : b < w0.heap.size := hbk
 have HEK : Hd (d.ka = some ⟨b, off, none⟩) := eK
 clear eK hck hbk
 go_wp2_with fail
 refine wp_loop_rounds 1 ?_
 rw [rounds_succ]
 go_wp2_with fail
 clear x26 x27 x25
 go_loopw [11] (fun i wr => ∃ (k : Nat) (Lr : Int), k ≤ d.n ∧ i = .int .i64 k ∧ 0 ≤ Lr ∧ Lr ≤ 100000 ∧ Hd (Lr = L3 - (sumN k (fun i => psz (kid i)) : Nat)) ∧ Hd (∀ j, j < k → pOk (kid j) (deep + 1)) ∧ Hd (CS w0 w wr g Lr (cellsT d 4 nt))) (fun i _ => d.n - (intOf i).toNat)
 case atStart => exact ⟨0, L3, nZ, rfl, by omega, by omega, (show L3 = L3 - ((0 : Nat) : Int) by omega), fun j hj => absurd hj nN, HC3⟩
 clear HC3
 obtain ⟨k, Lr, hk, rfl, hLr0, hLr1, HLR, HOKS, HCr⟩ := hrel
 have x27 := HCr.o.bx.2 27 _ rfl
 have hn2 : d.n ≤ 2 := (show d.n ≤ 2 by rw [HN.o]; omega)
 by_cases hlk : k < d.n
 · have hlkz : (k : Int) < (d.n : Int) := by omega
   rw [HEK.o] at x27
   have hcx : wr.rangeAt b (off + k * 28) (kid k).d.cl := fun c u hu => (HCr.o.bl.cell (p := ⟨b, off + k * 28 + c, none⟩) hbk').trans (HCK.o k hlk c u hu)
   have Z := HIH.o k hlk Lr wr HCr.o.bl HCr.o.ct hLr0 hLr1 hd10
   have hdw : IntKind.i64.wrap (deep + 1) = deep + 1 := by rw [IntKind.wrap_i64]; omega
   go_wp2_with (with_reducible refine wpq_at ?_; refine wpList_load_mid rfl 46 _ rfl b (off + k * 28) rfl (kid k).d.cl _ hcx Tryz.underlying46 rfl (by kernel_rfl) ?_; try simp only [Act.put, sA, zA, cA])
   refine Z.mono ?_
   rintro e w5 ⟨q5, L5, rfl, hq5, hL5, hc5, hp5⟩
   have HC5 : Hd (CS w0 w w5 g L5 (cellsT d 4 nt)) := HCr.o.past hg hgw hp5 hc5
   clear Z hcx hc5 hp5 x27 HCr hdw
   have HS : Hd (sumN (k + 1) (fun i => psz (kid i)) = sumN k (fun i => psz (kid i)) + psz (kid k)) := rfl
   cases q5
   · have HNO : Hd (¬ (pOk (.mk d kid) deep ∧ ((psz (.mk d kid) : Nat) : Int) ≤ L)) := fun hh => by
      have h1 := hh.1.2.2 k hlk
      have h2 := HSZ.o
      have h3 := sumN_mono (f := fun i => psz (kid i)) (show k + 1 ≤ d.n by omega)
      have h4 := HLR.o
      have h5 := HS.o
      have h6 := hh.2
      have h8 := HL3.o
      have h7 := hq5.2 ⟨h1, by omega⟩
      cases h7
     clear hq5 hL5
     go_wp2
     go_ret
     exact CtrAns.no HNO.o HC5.o.ct HC5.o.pa
   obtain ⟨h51, h52⟩ := hq5.1 rfl
   have h53 := hL5 rfl
   have HN5 : Hd (pOk (kid k) (deep + 1)) := h51
   have HL5 : Hd (L5 = L3 - (sumN (k + 1) (fun i => psz (kid i)) : Nat)) := (show L5 = _ by have h1 := HS.o; have h2 := HLR.o; omega)
   have hL50 : 0 ≤ L5 := by omega
   have hL51 : L5 ≤ 100000 := by omega
   clear h51 h52 h53 hq5 hL5
   go_wp2
   go_roundw
   case rel =>
    refine ⟨k + 1, L5, by omega, by go_num, hL50, hL51, HL5, fun j hj => ?_, HC5⟩
    by_cases e : j = k
    · subst e
      exact HN5.o
    exact HOKS.o j (by omega)
   case measure => simp [intOf]; omega
 obtain rfl : k = d.n := by omega
 have hlkz : ¬ (d.n : Int) < (d.n : Int) := by omega
 go_wp2
 go_ret
 have h2 := HSZ.o
 have h4 := HLR.o
 have h8 := HL3.o
 exact CtrAns.yes ⟨hd10, HND.o, fun i hi => HOKS.o i hi⟩ (by omega) (by omega) HCr.o.ct HCr.o.pa
end Go.Proofs.YtoloadogihbdeaaGreat
