import Derived.Test.YthljoojcpbignaaGreatDoorMk21
namespace Go.Proofs.YthljoojcpbignaaGreatDoor
open Go.RowKit Go.Deep
set_option maxHeartbeats 40000000
set_option maxRecDepth 100000
def cellsL (p : Int) (d : UN) : List Value := [.int .i64 p, .int .i64 10, .int .i64 d.k, .slice d.p.s.v.a d.p.s.v.len d.p.s.v.cap, .int .i64 d.p.s.t.t.k, .slice d.p.s.t.t.a d.p.s.t.t.len d.p.s.t.t.cap, .int .i64 d.p.s.t.t.n, .int .i64 d.p.s.t.t.s, .slice d.p.p.v.a d.p.p.v.len d.p.p.v.cap, .int .i64 d.p.p.t.t.k, .slice d.p.p.t.t.a d.p.p.t.t.len d.p.p.t.t.cap, .int .i64 d.p.p.t.t.n, .int .i64 d.p.p.t.t.s, .slice d.p.o.v.a d.p.o.v.len d.p.o.v.cap, .int .i64 d.p.o.t.t.k, .slice d.p.o.t.t.a d.p.o.t.t.len d.p.o.t.t.cap, .int .i64 d.p.o.t.t.n, .int .i64 d.p.o.t.t.s, .int .i64 d.e.d.k, .int .i64 d.e.d.op, .slice d.e.d.v.a d.e.d.v.len d.e.d.v.cap, .int .i64 d.e.d.t.t.k, .slice d.e.d.t.t.a d.e.d.t.t.len d.e.d.t.t.cap, .int .i64 d.e.d.t.t.n, .int .i64 d.e.d.t.t.s, .slice d.e.d.ka d.e.d.n d.e.d.kc, .slice d.v.a d.v.len d.v.cap, .slice d.ta d.tb.length d.tc, .slice d.aa d.an d.ac, .slice d.ba d.bn d.bc]
theorem hasExprU_any (d : UN) (w : World) : Calls Tryz.prog 102 #[.agg d.ar] w (Tells (hasX d.k) w) := by
 have HX : Hd (Box (w.alloc (.cells d.ar 103)) w.heap.size d.cells) := Box.new w _ 103 (0, 0)
 have HB : Hd (Bl w (w.alloc (.cells d.ar 103))) := bl_a _
 go_in
 go_upto_region 1 with fail
 generalize (w.alloc (.cells d.ar 103)) = W1 at *
 have x0 := HX.o.2 0 _ rfl
 by_cases h4 : d.k = 4
 · have HY : Hd (hasX d.k) := .inl h4
   have k4 : (d.k == 4) = true := by simp [h4]
   clear h4
   go_wp2
   go_ret
   exact Tells.yes HY.o HB.o
 have k4 : (d.k == 4) = false := by simp [h4]
 by_cases h5 : d.k = 5
 · have HY : Hd (hasX d.k) := .inr h5
   have k5 : (d.k == 5) = true := by simp [h5]
   clear h4 h5
   go_wp2
   go_ret
   exact Tells.yes HY.o HB.o
 have HN : Hd (¬ hasX d.k) := fun hh => hh.elim h4 h5
 have k5 : (d.k == 5) = false := by simp [h5]
 clear h4 h5
 go_wp2
 go_ret
 exact Tells.no HN.o HB.o
theorem elemOk_of (d : UN) (ka kb : Nat → UT) (p L : Int) (g : Nat) (w0 w : World) (hl : (UT.mk d ka kb).lies 0 w0) (hw : Bl w0 w) (hg : w0.heap.size ≤ g) (hc : Ctr w g L) (hp0 : 0 ≤ p) (hp1 : p ≤ 100000) (hL0 : 0 ≤ L) (hL1 : L ≤ 100000)
 (IA : ∀ (L' : Int) (W : World), Bl w0 W → Ctr W g L' → 0 ≤ L' → L' ≤ 100000 → p ≤ 10 → Calls Tryz.prog 42 #[.pointer (some ⟨g, 0, none⟩), .slice d.aa d.an d.ac, .agg #[.int .i64 (p + 1), .int .i64 10]] W (CtrAns (∀ i, i < d.an → uOk (ka i) (p + 1)) (sumN d.an (fun i => usz (ka i))) g L' W))
 (IB : ∀ (L' : Int) (W : World), Bl w0 W → Ctr W g L' → 0 ≤ L' → L' ≤ 100000 → p ≤ 10 → Calls Tryz.prog 42 #[.pointer (some ⟨g, 0, none⟩), .slice d.ba d.bn d.bc, .agg #[.int .i64 (p + 1), .int .i64 10]] W (CtrAns (∀ i, i < d.bn → uOk (kb i) (p + 1)) (sumN d.bn (fun i => usz (kb i))) g L' W)) :
 Calls Tryz.prog 70 #[.pointer (some ⟨g, 0, none⟩), .agg #[.int .i64 p, .int .i64 10, .int .i64 d.k, .slice d.p.s.v.a d.p.s.v.len d.p.s.v.cap, .int .i64 d.p.s.t.t.k, .slice d.p.s.t.t.a d.p.s.t.t.len d.p.s.t.t.cap, .int .i64 d.p.s.t.t.n, .int .i64 d.p.s.t.t.s, .slice d.p.p.v.a d.p.p.v.len d.p.p.v.cap, .int .i64 d.p.p.t.t.k, .slice d.p.p.t.t.a d.p.p.t.t.len d.p.p.t.t.cap, .int .i64 d.p.p.t.t.n, .int .i64 d.p.p.t.t.s, .slice d.p.o.v.a d.p.o.v.len d.p.o.v.cap, .int .i64 d.p.o.t.t.k, .slice d.p.o.t.t.a d.p.o.t.t.len d.p.o.t.t.cap, .int .i64 d.p.o.t.t.n, .int .i64 d.p.o.t.t.s, .int .i64 d.e.d.k, .int .i64 d.e.d.op, .slice d.e.d.v.a d.e.d.v.len d.e.d.v.cap, .int .i64 d.e.d.t.t.k, .slice d.e.d.t.t.a d.e.d.t.t.len d.e.d.t.t.cap, .int .i64 d.e.d.t.t.n, .int .i64 d.e.d.t.t.s, .slice d.e.d.ka d.e.d.n d.e.d.kc, .slice d.v.a d.v.len d.v.cap, .slice d.ta d.tb.length d.tc, .slice d.aa d.an d.ac, .slice d.ba d.bn d.bc]] w (CtrAns (uOk (.mk d ka kb) p) (usz (.mk d ka kb)) g L w) := by
 have hgw := hc.lt
 have hsz := hw.size
 have he := hl.2.1
 have HOWN := iH (fun W (hb : Bl w0 W) => hasOwnU_any d ka kb W (hl.below hb))
 have HEX := iH (fun W L' (hb : Bl w0 W) (hc' : Ctr W g L') (h0 : 0 ≤ L') (h1 : L' ≤ 100000) (h10 : p ≤ 10) => exprOk_any d.e (p + 1) 10 L' g w0 W he hb hg hc' (by omega) (by omega) (by omega) h0 h1)
 have HIA := iH IA
 have HIB := iH IB
 have HSX : Hd (hasX d.k → usz (.mk d ka kb) = 1 + esz d.e + (sumN d.an (fun i => usz (ka i)) + sumN d.bn (fun i => usz (kb i)))) := fun h => (by rw [usz_mk]; unfold ownU; rw [if_pos (show d.k = 4 ∨ d.k = 5 from h)])
 have HSN : Hd (¬ hasX d.k → usz (.mk d ka kb) = 1 + 0 + (sumN d.an (fun i => usz (ka i)) + sumN d.bn (fun i => usz (kb i)))) := fun h => (by rw [usz_mk]; unfold ownU; rw [if_neg (show ¬ (d.k = 4 ∨ d.k = 5) from h)])
 have HS1 := iH (show 1 ≤ usz (.mk d ka kb) by rw [usz_mk]; unfold ownU; split <;> omega)
 have HCS : Hd (CS w0 w (w.alloc (.cells #[.int .i64 p, .int .i64 10, .int .i64 d.k, .slice d.p.s.v.a d.p.s.v.len d.p.s.v.cap, .int .i64 d.p.s.t.t.k, .slice d.p.s.t.t.a d.p.s.t.t.len d.p.s.t.t.cap, .int .i64 d.p.s.t.t.n, .int .i64 d.p.s.t.t.s, .slice d.p.p.v.a d.p.p.v.len d.p.p.v.cap, .int .i64 d.p.p.t.t.k, .slice d.p.p.t.t.a d.p.p.t.t.len d.p.p.t.t.cap, .int .i64 d.p.p.t.t.n, .int .i64 d.p.p.t.t.s, .slice d.p.o.v.a d.p.o.v.len d.p.o.v.cap, .int .i64 d.p.o.t.t.k, .slice d.p.o.t.t.a d.p.o.t.t.len d.p.o.t.t.cap, .int .i64 d.p.o.t.t.n, .int .i64 d.p.o.t.t.s, .int .i64 d.e.d.k, .int .i64 d.e.d.op, .slice d.e.d.v.a d.e.d.v.len d.e.d.v.cap, .int .i64 d.e.d.t.t.k, .slice d.e.d.t.t.a d.e.d.t.t.len d.e.d.t.t.cap, .int .i64 d.e.d.t.t.n, .int .i64 d.e.d.t.t.s, .slice d.e.d.ka d.e.d.n d.e.d.kc, .slice d.v.a d.v.len d.v.cap, .slice d.ta d.tb.length d.tc, .slice d.aa d.an d.ac, .slice d.ba d.bn d.bc] 126)) g L (cellsL p d)) := ⟨Box.new w #[.int .i64 p, .int .i64 10, .int .i64 d.k, .slice d.p.s.v.a d.p.s.v.len d.p.s.v.cap, .int .i64 d.p.s.t.t.k, .slice d.p.s.t.t.a d.p.s.t.t.len d.p.s.t.t.cap, .int .i64 d.p.s.t.t.n, .int .i64 d.p.s.t.t.s, .slice d.p.p.v.a d.p.p.v.len d.p.p.v.cap, .int .i64 d.p.p.t.t.k, .slice d.p.p.t.t.a d.p.p.t.t.len d.p.p.t.t.cap, .int .i64 d.p.p.t.t.n, .int .i64 d.p.p.t.t.s, .slice d.p.o.v.a d.p.o.v.len d.p.o.v.cap, .int .i64 d.p.o.t.t.k, .slice d.p.o.t.t.a d.p.o.t.t.len d.p.o.t.t.cap, .int .i64 d.p.o.t.t.n, .int .i64 d.p.o.t.t.s, .int .i64 d.e.d.k, .int .i64 d.e.d.op, .slice d.e.d.v.a d.e.d.v.len d.e.d.v.cap, .int .i64 d.e.d.t.t.k, .slice d.e.d.t.t.a d.e.d.t.t.len d.e.d.t.t.cap, .int .i64 d.e.d.t.t.n, .int .i64 d.e.d.t.t.s, .slice d.e.d.ka d.e.d.n d.e.d.kc, .slice d.v.a d.v.len d.v.cap, .slice d.ta d.tb.length d.tc, .slice d.aa d.an d.ac, .slice d.ba d.bn d.bc] 126 (0, 0), hc.below (bl_a _), Past.of_below (bl_a _), hw.trans ((bl_a _).mono hw.size)⟩
 have HF : Hd (∀ w', Box w' w.heap.size (cellsL p d) → w'.cell? ⟨w.heap.size, 0, none⟩ = some (.int .i64 p) ∧ w'.cell? ⟨w.heap.size, 1, none⟩ = some (.int .i64 10) ∧ w'.cell? ⟨w.heap.size, 28, none⟩ = some (.slice d.aa d.an d.ac) ∧ w'.cell? ⟨w.heap.size, 29, none⟩ = some (.slice d.ba d.bn d.bc)) := fun w' h => ⟨h.2 0 _ rfl, h.2 1 _ rfl, h.2 28 _ rfl, h.2 29 _ rfl⟩
 have HRD : Hd (∀ w', Box w' w.heap.size (cellsL p d) → w'.rangeAt w.heap.size 2 d.cl) := fun w' h => h.range 2 _ rfl
 have HRE : Hd (∀ w', Box w' w.heap.size (cellsL p d) → w'.rangeAt w.heap.size 18 d.e.d.cl) := fun w' h => h.range 18 _ rfl
 clear hl he IA IB hw hc
 go_in
 go_upto_region 1 with fail
 generalize (w.alloc (.cells #[.int .i64 p, .int .i64 10, .int .i64 d.k, .slice d.p.s.v.a d.p.s.v.len d.p.s.v.cap, .int .i64 d.p.s.t.t.k, .slice d.p.s.t.t.a d.p.s.t.t.len d.p.s.t.t.cap, .int .i64 d.p.s.t.t.n, .int .i64 d.p.s.t.t.s, .slice d.p.p.v.a d.p.p.v.len d.p.p.v.cap, .int .i64 d.p.p.t.t.k, .slice d.p.p.t.t.a d.p.p.t.t.len d.p.p.t.t.cap, .int .i64 d.p.p.t.t.n, .int .i64 d.p.p.t.t.s, .slice d.p.o.v.a d.p.o.v.len d.p.o.v.cap, .int .i64 d.p.o.t.t.k, .slice d.p.o.t.t.a d.p.o.t.t.len d.p.o.t.t.cap, .int .i64 d.p.o.t.t.n, .int .i64 d.p.o.t.t.s, .int .i64 d.e.d.k, .int .i64 d.e.d.op, .slice d.e.d.v.a d.e.d.v.len d.e.d.v.cap, .int .i64 d.e.d.t.t.k, .slice d.e.d.t.t.a d.e.d.t.t.len d.e.d.t.t.cap, .int .i64 d.e.d.t.t.n, .int .i64 d.e.d.t.t.s, .slice d.e.d.ka d.e.d.n d.e.d.kc, .slice d.v.a d.v.len d.v.cap, .slice d.ta d.tb.length d.tc, .slice d.aa d.an d.ac, .slice d.ba d.bn d.bc] 126)) = W1 at *
 generalize Value.agg #[.int .i64 p, .int .i64 10, .int .i64 d.k, .slice d.p.s.v.a d.p.s.v.len d.p.s.v.cap, .int .i64 d.p.s.t.t.k, .slice d.p.s.t.t.a d.p.s.t.t.len d.p.s.t.t.cap, .int .i64 d.p.s.t.t.n, .int .i64 d.p.s.t.t.s, .slice d.p.p.v.a d.p.p.v.len d.p.p.v.cap, .int .i64 d.p.p.t.t.k, .slice d.p.p.t.t.a d.p.p.t.t.len d.p.p.t.t.cap, .int .i64 d.p.p.t.t.n, .int .i64 d.p.p.t.t.s, .slice d.p.o.v.a d.p.o.v.len d.p.o.v.cap, .int .i64 d.p.o.t.t.k, .slice d.p.o.t.t.a d.p.o.t.t.len d.p.o.t.t.cap, .int .i64 d.p.o.t.t.n, .int .i64 d.p.o.t.t.s, .int .i64 d.e.d.k, .int .i64 d.e.d.op, .slice d.e.d.v.a d.e.d.v.len d.e.d.v.cap, .int .i64 d.e.d.t.t.k, .slice d.e.d.t.t.a d.e.d.t.t.len d.e.d.t.t.cap, .int .i64 d.e.d.t.t.n, .int .i64 d.e.d.t.t.s, .slice d.e.d.ka d.e.d.n d.e.d.kc, .slice d.v.a d.v.len d.v.cap, .slice d.ta d.tb.length d.tc, .slice d.aa d.an d.ac, .slice d.ba d.bn d.bc] = vg
 obtain ⟨x0, x1, _, _⟩ := HF.o W1 HCS.o.bx
 have AD := admits_any g L p 10 W1 HCS.o.ct hL0 hL1
 go_wp2_with fail
 refine AD.mono ?_
 rintro e w2 ⟨q2, rfl, hq2, hc2, hp2⟩
 have HC2 := iH (HCS.o.past hg hgw hp2 hc2)
 clear AD x0 x1 hc2 hp2 HCS
 cases q2
 · have HNO : Hd (¬ (uOk (.mk d ka kb) p ∧ ((usz (.mk d ka kb) : Nat) : Int) ≤ L)) := fun hh => by
    have h1 := hh.1.1
    have h2 := hh.2
    have h3 := HS1.o
    have h4 := hq2.2 (by omega)
    cases h4
   clear hq2
   go_wp2
   go_ret
   exact CtrAns.no HNO.o HC2.o.ct HC2.o.pa
 have hpl := (by have h := hq2.1 rfl; omega)
 obtain ⟨hL2, hp10⟩ := hpl
 clear hq2
 have lr := HRD.o w2 HC2.o.bx
 go_wp2_with (with_reducible refine wpq_at ?_; refine wpq_stop 103 _ rfl ?_)
 change wpList _ _ _ _ _ _
 refine wpq_load ?hw 103 _ rfl w.heap.size 2 rfl _ _ lr Tryz.underlying103 rfl (by kernel_rfl) ?_
 case hw => rfl
 simp only [Act.put, sA, zA, cA]
 go_wp2_with fail
 refine (HOWN.o _ HC2.o.bl).mono ?_
 rintro e w3 ⟨q3, rfl, hq3, hb3⟩
 have HC3 := iH (HC2.o.below HC2.o.bl.size hb3)
 clear lr hb3 HC2
 cases q3
 · have HNO : Hd (¬ NodeU d) := fun hh => by
    have h4 := hq3.2 hh
    cases h4
   clear hq3
   go_wp2
   go_ret
   exact CtrAns.no (uOk_no HNO.o) HC3.o.ct HC3.o.pa
 have HND := iH (hq3.1 rfl)
 clear hq3
 go_wp2_with fail
 refine whd (fun w' => Box w' w.heap.size (cellsL p d)) ?_ fun hHeld => ?_
 · exact HC3.o.bx.below bdr
 refine tkB 0 16 ?_
 refine takeq (i := 1) 17 (v := .agg d.ar) rfl rfl (by kernel_rfl) (by kernel_rfl) (by kernel_rfl) (fun _ _ _ h => h) (yieldsIf_load_mid (by rfl) 103 _ rfl w.heap.size 2 rfl _ _ HRD.o Tryz.underlying103 rfl (by kernel_rfl)) hHeld ?_
 try simp only [Act.put, sA, zA, cA]
 refine rdA 2 fun K hK => ?_
 go_simp
 refine (hasExprU_any d _).mono ?_
 rintro e w4 ⟨q4, rfl, hq4, hb4⟩
 have HC4 := iH (HC3.o.below HC3.o.bl.size (bdr.trans hb4))
 clear hb4 HC3
 cases q4
 · have HNX : Hd (¬ hasX d.k) := fun hh => by
    have h4 := hq4.2 hh
    cases h4
   clear hq4
   have HSZ := iH (HSN.o HNX.o)
   have HEO : Hd (hasX d.k → eOk 10 d.e (p + 1)) := fun h => absurd h HNX.o
   go_wp2_with fail
   refine hK.out _ _ ?_ fun hHeld => ?_
   · exact HC4.o.bx
   clear hK K
   refine tkB 3 19 ?_
   refine tkU 4 20 ?_
   refine tkU 5 21 ?_
   refine tkU 6 22 ?_
   refine tkU 7 23 ?_
   refine tkU 8 24 ?_
   refine tkU 9 25 ?_
   refine tkU 10 26 ?_
   refine tkU 11 27 ?_
   refine tkU 12 28 ?_
   refine tkU 13 29 ?_
   refine tkB 14 30 ?_
   refine wpAnyH_done (by kernel_rfl) ?_ _
   clear hHeld
   obtain ⟨Lx, hLx⟩ : ∃ Lx, Lx = L - 1 := ⟨_, rfl⟩
   have HLX : Hd (Lx = L - (1 + 0 : Nat)) := (show Lx = _ by omega)
   have hx0 : 0 ≤ Lx := by omega
   have hx1 : Lx ≤ 100000 := by omega
   rw [← hLx] at HC4
   clear hLx
   go_wp2_with fail
   refine whd (fun w' => Box w' w.heap.size (cellsL p d)) ?_ fun hHeld => ?_
   · exact HC4.o.bx.below bdr
   refine tkB 0 31 ?_
   refine tkB 1 32 ?_
   refine tkB 2 33 ?_
   refine tkA 3 34 (v := ?v7) ?y7 ?_
   case y7 => (intro w' hSw; obtain ⟨z0, z1, z2, z3⟩ := HF.o w' hSw; go_simp; (try with_reducible rfl))
   refine tkB 4 35 ?_
   refine tkA 5 36 (v := ?v9) ?y9 ?_
   case y9 => (intro w' hSw; obtain ⟨z0, z1, z2, z3⟩ := HF.o w' hSw; go_simp; (try with_reducible rfl))
   try simp only [Act.put, sA, zA, cA]
   refine rdA 6 fun K hK => ?_
   go_simp
   refine (placeBelow_any p 10 _ hp0 hp1).mono ?_
   rintro e w6 ⟨rfl, hb6⟩
   have HC6 := iH (HC4.o.below HC4.o.bl.size (bdr.trans hb6))
   clear hb6 HC4
   go_wp2_with fail
   refine hK.out _ _ ?_ fun hHeld => ?_
   · exact HC6.o.bx
   clear hK K
   try simp only [Act.put, sA, zA, cA]
   refine rdA 7 fun K hK => ?_
   go_simp
   refine (HIA.o Lx _ HC6.o.bl HC6.o.ct hx0 hx1 hp10).mono ?_
   rintro e w7 ⟨q7, L7, rfl, hq7, hL7, hc7, hp7⟩
   have HC7 := iH (HC6.o.past hg hgw hp7 hc7)
   clear hc7 hp7 HC6
   cases q7
   · have HNO : Hd (¬ (uOk (.mk d ka kb) p ∧ ((usz (.mk d ka kb) : Nat) : Int) ≤ L)) := fun hh => by
      have h1 := hh.1.2.2.2.1
      have h2 := HSZ.o
      have h3 := hh.2
      have h4 := hq7.2 ⟨h1, by have h5 := HLX.o; omega⟩
      cases h4
     clear hq7 hL7
     go_wp2_with fail
     refine hK.out _ _ ?_ fun hHeld => ?_
     · exact HC7.o.bx
     clear hK K
     refine tkB 8 39 ?_
     refine tkU 9 40 ?_
     refine tkU 10 41 ?_
     refine tkU 11 42 ?_
     refine tkU 12 43 ?_
     refine tkU 13 44 ?_
     refine tkU 14 45 ?_
     refine tkU 15 46 ?_
     refine tkU 16 47 ?_
     refine tkB 17 48 ?_
     refine tkB 18 4 ?_
     refine wpAnyH_done (by kernel_rfl) ?_ _
     clear hHeld
     go_wp2
     go_ret
     exact CtrAns.no HNO.o HC7.o.ct HC7.o.pa
   obtain ⟨h71, h72⟩ := hq7.1 rfl
   have h73 := hL7 rfl
   have HOA := iH h71
   have HL7 := iH h73
   have hL70 : 0 ≤ L7 := by omega
   have hL71 : L7 ≤ 100000 := by omega
   clear h71 h72 h73 hq7 hL7
   go_wp2_with fail
   refine hK.out _ _ ?_ fun hHeld => ?_
   · exact HC7.o.bx
   clear hK K
   refine tkB 8 39 ?_
   refine tkB 9 40 ?_
   refine tkB 10 41 ?_
   refine tkB 11 42 ?_
   refine tkA 12 43 (v := ?v17) ?y17 ?_
   case y17 => (intro w' hSw; obtain ⟨z0, z1, z2, z3⟩ := HF.o w' hSw; go_simp; (try with_reducible rfl))
   refine tkB 13 44 ?_
   refine tkA 14 45 (v := ?v19) ?y19 ?_
   case y19 => (intro w' hSw; obtain ⟨z0, z1, z2, z3⟩ := HF.o w' hSw; go_simp; (try with_reducible rfl))
   try simp only [Act.put, sA, zA, cA]
   refine rdA 15 fun K hK => ?_
   go_simp
   refine (placeBelow_any p 10 _ hp0 hp1).mono ?_
   rintro e w8 ⟨rfl, hb8⟩
   have HC8 := iH (HC7.o.below HC7.o.bl.size hb8)
   clear hb8 HC7
   go_wp2_with fail
   refine hK.out _ _ ?_ fun hHeld => ?_
   · exact HC8.o.bx
   clear hK K
   try simp only [Act.put, sA, zA, cA]
   refine rdA 16 fun K hK => ?_
   go_simp
   refine (HIB.o L7 _ HC8.o.bl HC8.o.ct hL70 hL71 hp10).mono ?_
   rintro e w9 ⟨q9, L9, rfl, hq9, hL9, hc9, hp9⟩
   have HC9 := iH (HC8.o.past hg hgw hp9 hc9)
   clear hc9 hp9 HC8
   cases q9
   · have HNO : Hd (¬ (uOk (.mk d ka kb) p ∧ ((usz (.mk d ka kb) : Nat) : Int) ≤ L)) := fun hh => by
      have h1 := hh.1.2.2.2.2
      have h2 := HSZ.o
      have h3 := hh.2
      have h6 := HL7.o
      have h4 := hq9.2 ⟨h1, by have h5 := HLX.o; omega⟩
      cases h4
     clear hq9 hL9
     go_wp2_with fail
     refine hK.out _ _ ?_ fun hHeld => ?_
     · exact HC9.o.bx
     clear hK K
     refine tkB 17 48 ?_
     refine tkB 18 4 ?_
     refine wpAnyH_done (by kernel_rfl) ?_ _
     clear hHeld
     go_wp2
     go_ret
     exact CtrAns.no HNO.o HC9.o.ct HC9.o.pa
   obtain ⟨h91, h92⟩ := hq9.1 rfl
   have h93 := hL9 rfl
   have HOB := iH h91
   have HFL : Hd (((usz (.mk d ka kb) : Nat) : Int) ≤ L ∧ L9 = L - (usz (.mk d ka kb) : Nat)) := (show _ ∧ _ by have h2 := HSZ.o; have h5 := HLX.o; have h6 := HL7.o; omega)
   clear h91 h92 h93 hq9 hL9
   go_wp2_with fail
   refine hK.out _ _ ?_ fun hHeld => ?_
   · exact HC9.o.bx
   clear hK K
   refine tkB 17 48 ?_
   refine tkB 18 4 ?_
   refine wpAnyH_done (by kernel_rfl) ?_ _
   clear hHeld
   go_wp2
   go_ret
   exact CtrAns.yes ⟨hp10, HND.o, HEO.o, HOA.o, HOB.o⟩ HFL.o.1 HFL.o.2 HC9.o.ct HC9.o.pa
 have HHX := iH (hq4.1 rfl)
 clear hq4
 have HSZ := iH (HSX.o HHX.o)
 go_wp2_with fail
 refine hK.out _ _ ?_ fun hHeld => ?_
 · exact HC4.o.bx
 clear hK K
 refine tkB 3 19 ?_
 refine tkB 4 20 ?_
 refine tkB 5 21 ?_
 refine tkA 6 22 (v := ?v27) ?y27 ?_
 case y27 => (intro w' hSw; obtain ⟨z0, z1, z2, z3⟩ := HF.o w' hSw; go_simp; (try with_reducible rfl))
 refine tkB 8 24 ?_
 refine tkB 9 25 ?_
 refine takeq (i := 10) 26 (v := .agg d.e.d.ar) rfl rfl (by kernel_rfl) (by kernel_rfl) (by kernel_rfl) (fun _ _ _ h => h) (yieldsIf_load_mid (by rfl) 100 _ rfl w.heap.size 18 rfl _ _ HRE.o Tryz.underlying100 rfl (by kernel_rfl)) hHeld ?_
 try simp only [Act.put, sA, zA, cA]
 refine rdA 7 fun K hK => ?_
 go_simp
 refine (placeBelow_any p 10 _ hp0 hp1).mono ?_
 rintro e w5 ⟨rfl, hb5⟩
 have HC5 := iH (HC4.o.below HC4.o.bl.size hb5)
 clear hb5 HC4
 go_wp2_with fail
 refine hK.out _ _ ?_ fun hHeld => ?_
 · exact HC5.o.bx
 clear hK K
 refine tkB 11 27 ?_
 refine rdA 12 fun K hK => ?_
 go_simp
 refine (HEX.o _ (L - 1) HC5.o.bl HC5.o.ct (by omega) (by omega) hp10).mono ?_
 rintro e wx ⟨qx, Lx, rfl, hqx, hLx, hcx, hpx⟩
 have HCx := iH (HC5.o.past hg hgw hpx hcx)
 clear hcx hpx HC5
 cases qx
 · have HNO : Hd (¬ (uOk (.mk d ka kb) p ∧ ((usz (.mk d ka kb) : Nat) : Int) ≤ L)) := fun hh => by
    have h1 := hh.1.2.2.1 HHX.o
    have h2 := HSZ.o
    have h3 := hh.2
    have h4 := hqx.2 ⟨h1, by omega⟩
    cases h4
   clear hqx hLx
   go_wp2_with fail
   refine hK.out _ _ ?_ fun hHeld => ?_
   · exact HCx.o.bx
   clear hK K
   refine tkB 13 29 ?_
   refine tkB 14 30 ?_
   refine wpAnyH_done (by kernel_rfl) ?_ _
   clear hHeld
   go_wp2
   go_ret
   exact CtrAns.no HNO.o HCx.o.ct HCx.o.pa
 obtain ⟨hx1', hx2'⟩ := hqx.1 rfl
 have hx3' := hLx rfl
 have HEO := iH (fun (_ : hasX d.k) => hx1')
 have HLX : Hd (Lx = L - (1 + esz d.e : Nat)) := (show Lx = _ by omega)
 have hx0 : 0 ≤ Lx := by omega
 have hx1 : Lx ≤ 100000 := by omega
 clear hx1' hx2' hx3' hqx hLx
 go_wp2_with fail
 refine hK.out _ _ ?_ fun hHeld => ?_
 · exact HCx.o.bx
 clear hK K
 refine tkB 13 29 ?_
 refine tkB 14 30 ?_
 refine wpAnyH_done (by kernel_rfl) ?_ _
 clear hHeld
 go_wp2_with fail
 refine whd (fun w' => Box w' w.heap.size (cellsL p d)) ?_ fun hHeld => ?_
 · exact HCx.o.bx.below bdr
 refine tkB 0 31 ?_
 refine tkB 1 32 ?_
 refine tkB 2 33 ?_
 refine tkA 3 34 (v := ?v38) ?y38 ?_
 case y38 => (intro w' hSw; obtain ⟨z0, z1, z2, z3⟩ := HF.o w' hSw; go_simp; (try with_reducible rfl))
 refine tkB 4 35 ?_
 refine tkA 5 36 (v := ?v40) ?y40 ?_
 case y40 => (intro w' hSw; obtain ⟨z0, z1, z2, z3⟩ := HF.o w' hSw; go_simp; (try with_reducible rfl))
 try simp only [Act.put, sA, zA, cA]
 refine rdA 6 fun K hK => ?_
 go_simp
 refine (placeBelow_any p 10 _ hp0 hp1).mono ?_
 rintro e w6 ⟨rfl, hb6⟩
 have HC6 := iH (HCx.o.below HCx.o.bl.size (bdr.trans hb6))
 clear hb6 HCx
 go_wp2_with fail
 refine hK.out _ _ ?_ fun hHeld => ?_
 · exact HC6.o.bx
 clear hK K
 try simp only [Act.put, sA, zA, cA]
 refine rdA 7 fun K hK => ?_
 go_simp
 refine (HIA.o Lx _ HC6.o.bl HC6.o.ct hx0 hx1 hp10).mono ?_
 rintro e w7 ⟨q7, L7, rfl, hq7, hL7, hc7, hp7⟩
 have HC7 := iH (HC6.o.past hg hgw hp7 hc7)
 clear hc7 hp7 HC6
 cases q7
 · have HNO : Hd (¬ (uOk (.mk d ka kb) p ∧ ((usz (.mk d ka kb) : Nat) : Int) ≤ L)) := fun hh => by
    have h1 := hh.1.2.2.2.1
    have h2 := HSZ.o
    have h3 := hh.2
    have h4 := hq7.2 ⟨h1, by have h5 := HLX.o; omega⟩
    cases h4
   clear hq7 hL7
   go_wp2_with fail
   refine hK.out _ _ ?_ fun hHeld => ?_
   · exact HC7.o.bx
   clear hK K
   refine tkB 8 39 ?_
   refine tkU 9 40 ?_
   refine tkU 10 41 ?_
   refine tkU 11 42 ?_
   refine tkU 12 43 ?_
   refine tkU 13 44 ?_
   refine tkU 14 45 ?_
   refine tkU 15 46 ?_
   refine tkU 16 47 ?_
   refine tkB 17 48 ?_
   refine tkB 18 4 ?_
   refine wpAnyH_done (by kernel_rfl) ?_ _
   clear hHeld
   go_wp2
   go_ret
   exact CtrAns.no HNO.o HC7.o.ct HC7.o.pa
 obtain ⟨h71, h72⟩ := hq7.1 rfl
 have h73 := hL7 rfl
 have HOA := iH h71
 have HL7 := iH h73
 have hL70 : 0 ≤ L7 := by omega
 have hL71 : L7 ≤ 100000 := by omega
 clear h71 h72 h73 hq7 hL7
 go_wp2_with fail
 refine hK.out _ _ ?_ fun hHeld => ?_
 · exact HC7.o.bx
 clear hK K
 refine tkB 8 39 ?_
 refine tkB 9 40 ?_
 refine tkB 10 41 ?_
 refine tkB 11 42 ?_
 refine tkA 12 43 (v := ?v48) ?y48 ?_
 case y48 => (intro w' hSw; obtain ⟨z0, z1, z2, z3⟩ := HF.o w' hSw; go_simp; (try with_reducible rfl))
 refine tkB 13 44 ?_
 refine tkA 14 45 (v := ?v50) ?y50 ?_
 case y50 => (intro w' hSw; obtain ⟨z0, z1, z2, z3⟩ := HF.o w' hSw; go_simp; (try with_reducible rfl))
 try simp only [Act.put, sA, zA, cA]
 refine rdA 15 fun K hK => ?_
 go_simp
 refine (placeBelow_any p 10 _ hp0 hp1).mono ?_
 rintro e w8 ⟨rfl, hb8⟩
 have HC8 := iH (HC7.o.below HC7.o.bl.size hb8)
 clear hb8 HC7
 go_wp2_with fail
 refine hK.out _ _ ?_ fun hHeld => ?_
 · exact HC8.o.bx
 clear hK K
 try simp only [Act.put, sA, zA, cA]
 refine rdA 16 fun K hK => ?_
 go_simp
 refine (HIB.o L7 _ HC8.o.bl HC8.o.ct hL70 hL71 hp10).mono ?_
 rintro e w9 ⟨q9, L9, rfl, hq9, hL9, hc9, hp9⟩
 have HC9 := iH (HC8.o.past hg hgw hp9 hc9)
 clear hc9 hp9 HC8
 cases q9
 · have HNO : Hd (¬ (uOk (.mk d ka kb) p ∧ ((usz (.mk d ka kb) : Nat) : Int) ≤ L)) := fun hh => by
    have h1 := hh.1.2.2.2.2
    have h2 := HSZ.o
    have h3 := hh.2
    have h6 := HL7.o
    have h4 := hq9.2 ⟨h1, by have h5 := HLX.o; omega⟩
    cases h4
   clear hq9 hL9
   go_wp2_with fail
   refine hK.out _ _ ?_ fun hHeld => ?_
   · exact HC9.o.bx
   clear hK K
   refine tkB 17 48 ?_
   refine tkB 18 4 ?_
   refine wpAnyH_done (by kernel_rfl) ?_ _
   clear hHeld
   go_wp2
   go_ret
   exact CtrAns.no HNO.o HC9.o.ct HC9.o.pa
 obtain ⟨h91, h92⟩ := hq9.1 rfl
 have h93 := hL9 rfl
 have HOB := iH h91
 have HFL : Hd (((usz (.mk d ka kb) : Nat) : Int) ≤ L ∧ L9 = L - (usz (.mk d ka kb) : Nat)) := (show _ ∧ _ by have h2 := HSZ.o; have h5 := HLX.o; have h6 := HL7.o; omega)
 clear h91 h92 h93 hq9 hL9
 go_wp2_with fail
 refine hK.out _ _ ?_ fun hHeld => ?_
 · exact HC9.o.bx
 clear hK K
 refine tkB 17 48 ?_
 refine tkB 18 4 ?_
 refine wpAnyH_done (by kernel_rfl) ?_ _
 clear hHeld
 go_wp2
 go_ret
 exact CtrAns.yes ⟨hp10, HND.o, HEO.o, HOA.o, HOB.o⟩ HFL.o.1 HFL.o.2 HC9.o.ct HC9.o.pa
end Go.Proofs.YthljoojcpbignaaGreatDoor
