import Derived.Test.YthljoojcpbignaaGreatDoorMk20
namespace Go.Proofs.YthljoojcpbignaaGreatDoor
open Go.RowKit Go.Deep
set_option maxHeartbeats 40000000
set_option maxRecDepth 100000
theorem hasOwnU_5 (d : UN) (ka kb : Nat → UT) (w : World) (hkv : d.k = 5) (hl : (UT.mk d ka kb).lies 0 w) : Calls Tryz.prog 101 #[.agg d.ar] w (Tells (NodeU d) w) := by
 try unfold UN.ar
 obtain ⟨hp, he, hv, ht, htn, _⟩ := hl
 have HKV := iH hkv
 have HIB : Hd (∀ W, Bl w W → Cl 141 #[.agg #[.int .i64 5, .slice d.p.s.v.a d.p.s.v.len d.p.s.v.cap, .int .i64 d.p.s.t.t.k, .slice d.p.s.t.t.a d.p.s.t.t.len d.p.s.t.t.cap, .int .i64 d.p.s.t.t.n, .int .i64 d.p.s.t.t.s, .slice d.p.p.v.a d.p.p.v.len d.p.p.v.cap, .int .i64 d.p.p.t.t.k, .slice d.p.p.t.t.a d.p.p.t.t.len d.p.p.t.t.cap, .int .i64 d.p.p.t.t.n, .int .i64 d.p.p.t.t.s, .slice d.p.o.v.a d.p.o.v.len d.p.o.v.cap, .int .i64 d.p.o.t.t.k, .slice d.p.o.t.t.a d.p.o.t.t.len d.p.o.t.t.cap, .int .i64 d.p.o.t.t.n, .int .i64 d.p.o.t.t.s, .int .i64 0, .int .i64 0, .slice none 0 0, .int .i64 0, .slice none 0 0, .int .i64 0, .int .i64 0, .slice none 0 0, .slice none 0 0, .slice d.ta d.tb.length d.tc, .slice d.aa d.an d.ac, .slice d.ba d.bn d.bc]] W (Tells (EmptyU ⟨5, d.p, ET0, ⟨none, 0, 0, []⟩, d.ta, d.tc, d.tb, d.aa, d.ac, d.an, d.ba, d.bc, d.bn⟩) W)) := fun W hb => isEmpty_any _ W (hp.upper (uB hb)) (ET0_lies W) (bs_nil W)
 have HIN := iH (fun W (hb : Bl w W) => isName_any d.v.a d.v.len d.v.cap d.v.b W (hv.upper (uB hb)).1)
 rw [hkv]
 clear hp he hv ht htn hkv
 obtain ⟨V1, hV1⟩ : ∃ V1, V1 = w.alloc (.cells (d.ca 5) 103) := ⟨_, rfl⟩
 have HX : Hd (Box V1 w.heap.size (cellsU d 5 d.tb.length)) := (show Box _ _ _ by rw [hV1]; exact Box.new w _ 103 (0, 0))
 have HB : Hd (Bl w V1) := (show Below _ _ _ by rw [hV1]; exact bl_a _)
 go_in
 go_upto_region 1 with fail
 rw [← hV1]
 clear hV1
 have lr : V1.rangeAt w.heap.size 0 (d.ck 5) := HX.o.range 0 _ rfl
 have st := (OB.new V1 zUa 103).there 0 28 (by simp)
 have on : ((d.ca 5) : Array Value).all (·.oneCell') = true := UN.one ⟨5, d.p, d.e, d.v, d.ta, d.tc, d.tb, d.aa, d.ac, d.an, d.ba, d.bc, d.bn⟩
 have hg := HB.o.size
 have hgx := HX.o.1
 have HOB : Hd (OB ((V1.alloc (.cells zUa 103)).setCells V1.heap.size 0 (d.ck 5)) V1.heap.size (cellsU d 5 d.tb.length)) := (OB.new V1 _ 103).put _ 0 _ (show 0 + 28 ≤ 28 by omega) rfl
 have HX3 : Hd (Box ((V1.alloc (.cells zUa 103)).setCells V1.heap.size 0 (d.ck 5)) w.heap.size (cellsU d 5 d.tb.length)) := (HX.o.below (bl_a _)).upper (but_sets V1.heap.size _ 0 _) (by omega)
 have HB3 : Hd (Bl w ((V1.alloc (.cells zUa 103)).setCells V1.heap.size 0 (d.ck 5))) := below_sets _ hg _ _ _ (bl_alloc HB.o _)
 go_upto_region 2 with (first | (with_reducible refine wpq_at ?_; refine ldr rfl rfl rfl Tryz.underlying103 lr rfl ?_; try simp only [Act.put, sA, zA, cA]) | (with_reducible refine wpq_at ?_; refine wpList_store_mid rfl 103 _ _ rfl _ _ _ rfl rfl st (by kernel_rfl) on ?_; try simp only [Act.put]))
 generalize ((V1.alloc (.cells zUa 103)).setCells V1.heap.size 0 (d.ck 5)) = W3 at *
 generalize hgg : V1.heap.size = g at *
 clear hgg lr st on HX HB
 have x0 := HX3.o.2 0 _ rfl
 have x24 := HX3.o.2 24 _ rfl
 have IN := HIN.o W3 HB3.o
 have st := HOB.o.there 16 8 (show 16 + 8 ≤ 28 by omega)
 have HOE := iH (HOB.o.put zEl 16 [.int .i64 5, .slice d.p.s.v.a d.p.s.v.len d.p.s.v.cap, .int .i64 d.p.s.t.t.k, .slice d.p.s.t.t.a d.p.s.t.t.len d.p.s.t.t.cap, .int .i64 d.p.s.t.t.n, .int .i64 d.p.s.t.t.s, .slice d.p.p.v.a d.p.p.v.len d.p.p.v.cap, .int .i64 d.p.p.t.t.k, .slice d.p.p.t.t.a d.p.p.t.t.len d.p.p.t.t.cap, .int .i64 d.p.p.t.t.n, .int .i64 d.p.p.t.t.s, .slice d.p.o.v.a d.p.o.v.len d.p.o.v.cap, .int .i64 d.p.o.t.t.k, .slice d.p.o.t.t.a d.p.o.t.t.len d.p.o.t.t.cap, .int .i64 d.p.o.t.t.n, .int .i64 d.p.o.t.t.s, .int .i64 0, .int .i64 0, .slice none 0 0, .int .i64 0, .slice none 0 0, .int .i64 0, .int .i64 0, .slice none 0 0, .slice d.v.a d.v.len d.v.cap, .slice d.ta d.tb.length d.tc, .slice d.aa d.an d.ac, .slice d.ba d.bn d.bc] (show 16 + 8 ≤ 28 by omega) rfl)
 have s24 := (HOE.o.2 24 _ rfl).1
 have t24 := (HOE.o.2 24 _ rfl).2
 have HR4 : Hd (Box ((W3.setCells g 16 zEl).setCell ⟨g, 24, none⟩ (.slice none 0 0)) g (UN.cells ⟨5, d.p, ET0, ⟨none, 0, 0, []⟩, d.ta, d.tc, d.tb, d.aa, d.ac, d.an, d.ba, d.bc, d.bn⟩)) := (HOE.o.set 24 _).box
 have HB4 : Hd (Bl w ((W3.setCells g 16 zEl).setCell ⟨g, 24, none⟩ (.slice none 0 0))) := (below_sets _ hg _ _ _ HB3.o).setCell (p := ⟨g, 24, none⟩) hg _
 cases hnm : nameOk d.v.b with
 | false =>
  rw [hnm] at IN
  have HNO : Hd (¬ NodeU d) := fun hh => by have h := hh.v1 (show hasN d.k by rw [HKV.o]; unfold hasN; decide); rw [hnm] at h; cases h
  clear hnm
  go_wp2_with fail
  refine IN.mono ?_
  rintro e w3 ⟨rfl, h3⟩
  subst w3
  clear IN x24
  go_upto_region 17 with (first | (with_reducible refine wpq_at ?_; refine wpList_store_mid rfl 100 _ _ rfl _ _ _ rfl rfl st (by kernel_rfl) oneE ?_; try simp only [Act.put]))
  generalize ((W3.setCells g 16 zEl).setCell ⟨g, 24, none⟩ (.slice none 0 0)) = W4 at *
  clear st s24 t24 x0 HOB HOE HX3 HB3
  go_wp2
  go_ret
  exact Tells.no HNO.o HB4.o
 | true =>
  rw [hnm] at IN
  have HNM := iH hnm
  clear hnm
  go_wp2_with fail
  refine IN.mono ?_
  rintro e w3 ⟨rfl, h3⟩
  subst w3
  clear IN x24
  go_upto_region 17 with (first | (with_reducible refine wpq_at ?_; refine wpList_store_mid rfl 100 _ _ rfl _ _ _ rfl rfl st (by kernel_rfl) oneE ?_; try simp only [Act.put]))
  generalize ((W3.setCells g 16 zEl).setCell ⟨g, 24, none⟩ (.slice none 0 0)) = W4 at *
  clear st s24 t24 x0 HOB HOE HX3 HB3
  have lr := HR4.o.range 0 [.int .i64 5, .slice d.p.s.v.a d.p.s.v.len d.p.s.v.cap, .int .i64 d.p.s.t.t.k, .slice d.p.s.t.t.a d.p.s.t.t.len d.p.s.t.t.cap, .int .i64 d.p.s.t.t.n, .int .i64 d.p.s.t.t.s, .slice d.p.p.v.a d.p.p.v.len d.p.p.v.cap, .int .i64 d.p.p.t.t.k, .slice d.p.p.t.t.a d.p.p.t.t.len d.p.p.t.t.cap, .int .i64 d.p.p.t.t.n, .int .i64 d.p.p.t.t.s, .slice d.p.o.v.a d.p.o.v.len d.p.o.v.cap, .int .i64 d.p.o.t.t.k, .slice d.p.o.t.t.a d.p.o.t.t.len d.p.o.t.t.cap, .int .i64 d.p.o.t.t.n, .int .i64 d.p.o.t.t.s, .int .i64 0, .int .i64 0, .slice none 0 0, .int .i64 0, .slice none 0 0, .int .i64 0, .int .i64 0, .slice none 0 0, .slice none 0 0, .slice d.ta d.tb.length d.tc, .slice d.aa d.an d.ac, .slice d.ba d.bn d.bc] rfl
  go_wp2_with (with_reducible refine wpq_at ?_; refine wpq_stop 103 _ rfl ?_)
  change wpList _ _ _ _ _ _
  refine wpq_load ?hw 103 _ rfl g 0 rfl _ _ lr Tryz.underlying103 rfl (by kernel_rfl) ?_
  case hw => rfl
  simp only [Act.put, sA, zA, cA]
  go_wp2_with fail
  refine (HIB.o _ HB4.o).mono ?_
  rintro e w9 ⟨q9, rfl, hq9, hb9⟩
  have HE := iH (show (q9 = true ↔ NodeU d) from hq9.trans ⟨fun h => ⟨by rw [HKV.o]; decide, by rw [HKV.o]; decide, fun h2 => absurd h2 (by rw [HKV.o]; decide), fun _ => h.1, fun h2 => absurd (show hasX d.k by rw [HKV.o]; unfold hasX; decide) h2, fun _ => HNM.o, fun h2 => absurd (show hasN d.k by rw [HKV.o]; unfold hasN; decide) h2, fun _ => (show d.tb = [] from h.2.2.2.1), by rw [(show d.tb = [] from h.2.2.2.1)]; decide, (fun x hx => by rw [(show d.tb = [] from h.2.2.2.1)] at hx; cases hx), fun _ => h.2.2.2.2.1, fun _ => h.2.2.2.2.2⟩, fun h => EmptyU.mk (h.p0 (by rw [HKV.o]; decide)) ET0_zero rfl (h.t0 (by rw [HKV.o]; decide)) (h.a0 (show ¬ hasG d.k by rw [HKV.o]; unfold hasG; decide)) (h.b0 (by rw [HKV.o]; decide))⟩)
  have HB9 := iH (bl_trans HB4.o hb9)
  clear hq9 hb9 lr
  go_wp2
  go_ret
  exact Tells.of HE.o HB9.o
theorem hasOwnU_6 (d : UN) (ka kb : Nat → UT) (w : World) (hkv : d.k = 6) (hl : (UT.mk d ka kb).lies 0 w) : Calls Tryz.prog 101 #[.agg d.ar] w (Tells (NodeU d) w) := by
 try unfold UN.ar
 obtain ⟨hp, he, hv, ht, htn, _⟩ := hl
 have HKV := iH hkv
 have HIB : Hd (∀ W, Bl w W → Cl 141 #[.agg #[.int .i64 6, .slice d.p.s.v.a d.p.s.v.len d.p.s.v.cap, .int .i64 d.p.s.t.t.k, .slice d.p.s.t.t.a d.p.s.t.t.len d.p.s.t.t.cap, .int .i64 d.p.s.t.t.n, .int .i64 d.p.s.t.t.s, .slice d.p.p.v.a d.p.p.v.len d.p.p.v.cap, .int .i64 d.p.p.t.t.k, .slice d.p.p.t.t.a d.p.p.t.t.len d.p.p.t.t.cap, .int .i64 d.p.p.t.t.n, .int .i64 d.p.p.t.t.s, .slice d.p.o.v.a d.p.o.v.len d.p.o.v.cap, .int .i64 d.p.o.t.t.k, .slice d.p.o.t.t.a d.p.o.t.t.len d.p.o.t.t.cap, .int .i64 d.p.o.t.t.n, .int .i64 d.p.o.t.t.s, .int .i64 d.e.d.k, .int .i64 d.e.d.op, .slice d.e.d.v.a d.e.d.v.len d.e.d.v.cap, .int .i64 d.e.d.t.t.k, .slice d.e.d.t.t.a d.e.d.t.t.len d.e.d.t.t.cap, .int .i64 d.e.d.t.t.n, .int .i64 d.e.d.t.t.s, .slice d.e.d.ka d.e.d.n d.e.d.kc, .slice none 0 0, .slice none 0 0, .slice d.aa d.an d.ac, .slice d.ba d.bn d.bc]] W (Tells (EmptyU ⟨6, d.p, d.e, ⟨none, 0, 0, []⟩, none, 0, [], d.aa, d.ac, d.an, d.ba, d.bc, d.bn⟩) W)) := fun W hb => isEmpty_any _ W (hp.upper (uB hb)) (ET.lies.upper (uB hb) he) (bs_nil W)
 have HIN := iH (fun W (hb : Bl w W) => isName_any d.v.a d.v.len d.v.cap d.v.b W (hv.upper (uB hb)).1)
 have HVO := iH (fun W (hb : Bl w W) => valuesOk_any d.ta d.tb.length d.tc (tbG d.tb) W htn (trow_krow (ht.upper (uB hb))) (tb_lies (ht.upper (uB hb))))
 rw [hkv]
 clear hp he hv ht htn hkv
 obtain ⟨V1, hV1⟩ : ∃ V1, V1 = w.alloc (.cells (d.ca 6) 103) := ⟨_, rfl⟩
 have HX : Hd (Box V1 w.heap.size (cellsU d 6 d.tb.length)) := (show Box _ _ _ by rw [hV1]; exact Box.new w _ 103 (0, 0))
 have HB : Hd (Bl w V1) := (show Below _ _ _ by rw [hV1]; exact bl_a _)
 go_in
 go_upto_region 1 with fail
 rw [← hV1]
 clear hV1
 have lr : V1.rangeAt w.heap.size 0 (d.ck 6) := HX.o.range 0 _ rfl
 have st := (OB.new V1 zUa 103).there 0 28 (by simp)
 have on : ((d.ca 6) : Array Value).all (·.oneCell') = true := UN.one ⟨6, d.p, d.e, d.v, d.ta, d.tc, d.tb, d.aa, d.ac, d.an, d.ba, d.bc, d.bn⟩
 have hg := HB.o.size
 have hgx := HX.o.1
 have HOB : Hd (OB ((V1.alloc (.cells zUa 103)).setCells V1.heap.size 0 (d.ck 6)) V1.heap.size (cellsU d 6 d.tb.length)) := (OB.new V1 _ 103).put _ 0 _ (show 0 + 28 ≤ 28 by omega) rfl
 have HX3 : Hd (Box ((V1.alloc (.cells zUa 103)).setCells V1.heap.size 0 (d.ck 6)) w.heap.size (cellsU d 6 d.tb.length)) := (HX.o.below (bl_a _)).upper (but_sets V1.heap.size _ 0 _) (by omega)
 have HB3 : Hd (Bl w ((V1.alloc (.cells zUa 103)).setCells V1.heap.size 0 (d.ck 6))) := below_sets _ hg _ _ _ (bl_alloc HB.o _)
 go_upto_region 2 with (first | (with_reducible refine wpq_at ?_; refine ldr rfl rfl rfl Tryz.underlying103 lr rfl ?_; try simp only [Act.put, sA, zA, cA]) | (with_reducible refine wpq_at ?_; refine wpList_store_mid rfl 103 _ _ rfl _ _ _ rfl rfl st (by kernel_rfl) on ?_; try simp only [Act.put]))
 generalize ((V1.alloc (.cells zUa 103)).setCells V1.heap.size 0 (d.ck 6)) = W3 at *
 generalize hgg : V1.heap.size = g at *
 clear hgg lr st on HX HB
 have x0 := HX3.o.2 0 _ rfl
 have x24 := HX3.o.2 24 _ rfl
 have x25 := HX3.o.2 25 _ rfl
 have IN := HIN.o W3 HB3.o
 cases hnm : nameOk d.v.b with
 | false =>
  rw [hnm] at IN
  have HNO : Hd (¬ NodeU d) := fun hh => by have h := hh.v1 (show hasN d.k by rw [HKV.o]; unfold hasN; decide); rw [hnm] at h; cases h
  clear hnm
  go_wp2_with fail
  refine IN.mono ?_
  rintro e w3 ⟨rfl, h3⟩
  subst w3
  clear IN
  have s24 := (HOB.o.2 24 _ rfl).1
  have t24 := (HOB.o.2 24 _ rfl).2
  have s25 := (HOB.o.2 25 _ rfl).1
  have t25 := (HOB.o.2 25 _ rfl).2
  have HR4 : Hd (Box ((W3.setCell ⟨g, 24, none⟩ (.slice none 0 0)).setCell ⟨g, 25, none⟩ (.slice none 0 0)) g (UN.cells ⟨6, d.p, d.e, ⟨none, 0, 0, []⟩, none, 0, [], d.aa, d.ac, d.an, d.ba, d.bc, d.bn⟩)) := ((HOB.o.set 24 _).set 25 _).box
  have HB4 : Hd (Bl w ((W3.setCell ⟨g, 24, none⟩ (.slice none 0 0)).setCell ⟨g, 25, none⟩ (.slice none 0 0))) := (HB3.o.setCell (p := ⟨g, 24, none⟩) hg _).setCell (p := ⟨g, 25, none⟩) hg _
  go_upto_region 17 with fail
  generalize ((W3.setCell ⟨g, 24, none⟩ (.slice none 0 0)).setCell ⟨g, 25, none⟩ (.slice none 0 0)) = W4 at *
  clear s24 t24 s25 t25
  clear x24 x25 x0
  go_wp2
  go_ret
  exact Tells.no HNO.o HB4.o
 | true =>
  rw [hnm] at IN
  have HNM := iH hnm
  clear hnm
  go_wp2_with fail
  refine IN.mono ?_
  rintro e w3 ⟨rfl, h3⟩
  subst w3
  clear IN
  go_wp2_with fail
  refine (HVO.o _ HB3.o).mono ?_
  rintro e w5 ⟨q5, rfl, hq5, hb5⟩
  have HB5 := iH (bl_trans HB3.o hb5)
  have HO5 := iH (HOB.o.below hb5)
  clear hb5 HVO HOB HX3 HB3 x24 x25 x0
  have s24 := (HO5.o.2 24 _ rfl).1
  have t24 := (HO5.o.2 24 _ rfl).2
  have s25 := (HO5.o.2 25 _ rfl).1
  have t25 := (HO5.o.2 25 _ rfl).2
  have HR4 : Hd (Box ((w5.setCell ⟨g, 24, none⟩ (.slice none 0 0)).setCell ⟨g, 25, none⟩ (.slice none 0 0)) g (UN.cells ⟨6, d.p, d.e, ⟨none, 0, 0, []⟩, none, 0, [], d.aa, d.ac, d.an, d.ba, d.bc, d.bn⟩)) := ((HO5.o.set 24 _).set 25 _).box
  have HB4 : Hd (Bl w ((w5.setCell ⟨g, 24, none⟩ (.slice none 0 0)).setCell ⟨g, 25, none⟩ (.slice none 0 0))) := (HB5.o.setCell (p := ⟨g, 24, none⟩) hg _).setCell (p := ⟨g, 25, none⟩) hg _
  go_upto_region 17 with fail
  generalize ((w5.setCell ⟨g, 24, none⟩ (.slice none 0 0)).setCell ⟨g, 25, none⟩ (.slice none 0 0)) = W4 at *
  clear s24 t24 s25 t25
  cases q5
  · have HNO : Hd (¬ NodeU d) := fun hh => by have h := hq5.2 ⟨hh.tn, tb_all.2 hh.tm⟩; cases h
    clear hq5
    go_wp2
    go_ret
    exact Tells.no HNO.o HB4.o
  have HTM := iH (hq5.1 rfl)
  clear hq5
  have lr := HR4.o.range 0 [.int .i64 6, .slice d.p.s.v.a d.p.s.v.len d.p.s.v.cap, .int .i64 d.p.s.t.t.k, .slice d.p.s.t.t.a d.p.s.t.t.len d.p.s.t.t.cap, .int .i64 d.p.s.t.t.n, .int .i64 d.p.s.t.t.s, .slice d.p.p.v.a d.p.p.v.len d.p.p.v.cap, .int .i64 d.p.p.t.t.k, .slice d.p.p.t.t.a d.p.p.t.t.len d.p.p.t.t.cap, .int .i64 d.p.p.t.t.n, .int .i64 d.p.p.t.t.s, .slice d.p.o.v.a d.p.o.v.len d.p.o.v.cap, .int .i64 d.p.o.t.t.k, .slice d.p.o.t.t.a d.p.o.t.t.len d.p.o.t.t.cap, .int .i64 d.p.o.t.t.n, .int .i64 d.p.o.t.t.s, .int .i64 d.e.d.k, .int .i64 d.e.d.op, .slice d.e.d.v.a d.e.d.v.len d.e.d.v.cap, .int .i64 d.e.d.t.t.k, .slice d.e.d.t.t.a d.e.d.t.t.len d.e.d.t.t.cap, .int .i64 d.e.d.t.t.n, .int .i64 d.e.d.t.t.s, .slice d.e.d.ka d.e.d.n d.e.d.kc, .slice none 0 0, .slice none 0 0, .slice d.aa d.an d.ac, .slice d.ba d.bn d.bc] rfl
  go_wp2_with (with_reducible refine wpq_at ?_; refine wpq_stop 103 _ rfl ?_)
  change wpList _ _ _ _ _ _
  refine wpq_load ?hw 103 _ rfl g 0 rfl _ _ lr Tryz.underlying103 rfl (by kernel_rfl) ?_
  case hw => rfl
  simp only [Act.put, sA, zA, cA]
  go_wp2_with fail
  refine (HIB.o _ HB4.o).mono ?_
  rintro e w9 ⟨q9, rfl, hq9, hb9⟩
  have HE := iH (show (q9 = true ↔ NodeU d) from hq9.trans ⟨fun h => ⟨by rw [HKV.o]; decide, by rw [HKV.o]; decide, fun h2 => absurd h2 (by rw [HKV.o]; decide), fun _ => h.1, fun _ => h.2.1, fun _ => HNM.o, fun h2 => absurd (show hasN d.k by rw [HKV.o]; unfold hasN; decide) h2, fun h2 => absurd HKV.o h2, HTM.o.1, tb_all.1 HTM.o.2, fun _ => h.2.2.2.2.1, fun _ => h.2.2.2.2.2⟩, fun h => EmptyU.mk (h.p0 (by rw [HKV.o]; decide)) (h.e0 (show ¬ hasX d.k by rw [HKV.o]; unfold hasX; decide)) rfl rfl (h.a0 (show ¬ hasG d.k by rw [HKV.o]; unfold hasG; decide)) (h.b0 (by rw [HKV.o]; decide))⟩)
  have HB9 := iH (bl_trans HB4.o hb9)
  clear hq9 hb9 lr
  go_wp2
  go_ret
  exact Tells.of HE.o HB9.o
theorem hasOwnU_x (d : UN) (w : World) (n0 : d.k ≠ 0) (n1 : d.k ≠ 1) (n2 : d.k ≠ 2) (n3 : d.k ≠ 3) (n4 : d.k ≠ 4) (n5 : d.k ≠ 5) (n6 : d.k ≠ 6) : Calls Tryz.prog 101 #[.agg d.ar] w (Tells (NodeU d) w) := by
 try unfold UN.ar
 have HNO : Hd (¬ NodeU d) := fun hh => by have h1 := hh.k0; have h2 := hh.k6; omega
 have m0 : (d.k == 0) = false := by simp [n0]
 have m1 : (d.k == 1) = false := by simp [n1]
 have m2 : (d.k == 2) = false := by simp [n2]
 have m3 : (d.k == 3) = false := by simp [n3]
 have m4 : (d.k == 4) = false := by simp [n4]
 have m5 : (d.k == 5) = false := by simp [n5]
 have m6 : (d.k == 6) = false := by simp [n6]
 clear n0 n1 n2 n3 n4 n5 n6
 obtain ⟨V1, hV1⟩ : ∃ V1, V1 = w.alloc (.cells d.ar 103) := ⟨_, rfl⟩
 have HX : Hd (Box V1 w.heap.size d.cells) := (show Box _ _ _ by rw [hV1]; exact Box.new w _ 103 (0, 0))
 have HB : Hd (Bl w V1) := (show Below _ _ _ by rw [hV1]; exact bl_a _)
 go_in
 go_upto_region 1 with fail
 rw [← hV1]
 clear hV1
 have lr : V1.rangeAt w.heap.size 0 d.cl := HX.o.range 0 _ rfl
 have st := (OB.new V1 zUa 103).there 0 28 (by simp)
 have on : (d.ar : Array Value).all (·.oneCell') = true := UN.one d
 have hg := HB.o.size
 have hgx := HX.o.1
 have HOB : Hd (OB ((V1.alloc (.cells zUa 103)).setCells V1.heap.size 0 d.cl) V1.heap.size d.cells) := (OB.new V1 _ 103).put d.cells 0 d.cells (show 0 + 28 ≤ 28 by omega) rfl
 have HX3 : Hd (Box ((V1.alloc (.cells zUa 103)).setCells V1.heap.size 0 d.cl) w.heap.size d.cells) := (HX.o.below (bl_a _)).upper (but_sets V1.heap.size d.cells 0 _) (by omega)
 have HB3 : Hd (Bl w ((V1.alloc (.cells zUa 103)).setCells V1.heap.size 0 d.cl)) := below_sets _ hg _ _ _ (bl_alloc HB.o _)
 go_upto_region 2 with (first | (with_reducible refine wpq_at ?_; refine ldr rfl rfl rfl Tryz.underlying103 lr rfl ?_; try simp only [Act.put, sA, zA, cA]) | (with_reducible refine wpq_at ?_; refine wpList_store_mid rfl 103 _ _ rfl _ _ _ rfl rfl st (by kernel_rfl) on ?_; try simp only [Act.put]))
 generalize ((V1.alloc (.cells zUa 103)).setCells V1.heap.size 0 d.cl) = W3 at *
 generalize hgg : V1.heap.size = g at *
 clear hgg lr st on HX HB
 have x0 := HX3.o.2 0 _ rfl
 go_wp2
 go_ret
 exact Tells.no HNO.o HB3.o
theorem hasOwnU_any (d : UN) (ka kb : Nat → UT) (w : World) (hl : (UT.mk d ka kb).lies 0 w) : Calls Tryz.prog 101 #[.agg d.ar] w (Tells (NodeU d) w) := by
 by_cases n0 : d.k = 0
 · exact hasOwnU_0 d ka kb w n0 hl
 by_cases n1 : d.k = 1
 · exact hasOwnU_1 d ka kb w n1 hl
 by_cases n2 : d.k = 2
 · exact hasOwnU_2 d ka kb w n2 hl
 by_cases n3 : d.k = 3
 · exact hasOwnU_3 d ka kb w n3 hl
 by_cases n4 : d.k = 4
 · exact hasOwnU_4 d ka kb w n4 hl
 by_cases n5 : d.k = 5
 · exact hasOwnU_5 d ka kb w n5 hl
 by_cases n6 : d.k = 6
 · exact hasOwnU_6 d ka kb w n6 hl
 exact hasOwnU_x d w n0 n1 n2 n3 n4 n5 n6
end Go.Proofs.YthljoojcpbignaaGreatDoor
