import Derived.Test.YthljoojcpbignaaGreatDoorMk16
namespace Go.Proofs.YthljoojcpbignaaGreatDoor
open Go.RowKit Go.Deep
set_option maxHeartbeats 40000000
set_option maxRecDepth 100000
theorem hasOwnU_0 (d : UN) (ka kb : Nat → UT) (w : World) (hkv : d.k = 0) (hl : (UT.mk d ka kb).lies 0 w) : Calls Tryz.prog 101 #[.agg d.ar] w (Tells (NodeU d) w) := by
 try unfold UN.ar
 obtain ⟨hp, he, hv, ht, htn, _⟩ := hl
 have HKV := iH hkv
 have HIB : Hd (∀ W, Bl w W → Cl 141 #[.agg #[.int .i64 0, .slice none 0 0, .int .i64 0, .slice none 0 0, .int .i64 0, .int .i64 0, .slice none 0 0, .int .i64 0, .slice none 0 0, .int .i64 0, .int .i64 0, .slice none 0 0, .int .i64 0, .slice none 0 0, .int .i64 0, .int .i64 0, .int .i64 d.e.d.k, .int .i64 d.e.d.op, .slice d.e.d.v.a d.e.d.v.len d.e.d.v.cap, .int .i64 d.e.d.t.t.k, .slice d.e.d.t.t.a d.e.d.t.t.len d.e.d.t.t.cap, .int .i64 d.e.d.t.t.n, .int .i64 d.e.d.t.t.s, .slice d.e.d.ka d.e.d.n d.e.d.kc, .slice d.v.a d.v.len d.v.cap, .slice d.ta d.tb.length d.tc, .slice d.aa d.an d.ac, .slice d.ba d.bn d.bc]] W (Tells (EmptyU ⟨0, PB0, d.e, d.v, d.ta, d.tc, d.tb, d.aa, d.ac, d.an, d.ba, d.bc, d.bn⟩) W)) := fun W hb => isEmpty_any _ W (PB0_lies W) (ET.lies.upper (uB hb) he) (hv.upper (uB hb))
 have HPO := iH (fun W (hb : Bl w W) => patOk_any d.p W (hp.upper (uB hb)))
 rw [hkv]
 clear hp he hv ht htn hkv
 obtain ⟨V1, hV1⟩ : ∃ V1, V1 = w.alloc (.cells (d.ca 0) 103) := ⟨_, rfl⟩
 have HX : Hd (Box V1 w.heap.size (cellsU d 0 d.tb.length)) := (show Box _ _ _ by rw [hV1]; exact Box.new w _ 103 (0, 0))
 have HB : Hd (Bl w V1) := (show Below _ _ _ by rw [hV1]; exact bl_a _)
 go_in
 go_upto_region 1 with fail
 rw [← hV1]
 clear hV1
 have lr : V1.rangeAt w.heap.size 0 (d.ck 0) := HX.o.range 0 _ rfl
 have st := (OB.new V1 zUa 103).there 0 28 (by simp)
 have on : ((d.ca 0) : Array Value).all (·.oneCell') = true := UN.one ⟨0, d.p, d.e, d.v, d.ta, d.tc, d.tb, d.aa, d.ac, d.an, d.ba, d.bc, d.bn⟩
 have hg := HB.o.size
 have hgx := HX.o.1
 have HOB : Hd (OB ((V1.alloc (.cells zUa 103)).setCells V1.heap.size 0 (d.ck 0)) V1.heap.size (cellsU d 0 d.tb.length)) := (OB.new V1 _ 103).put _ 0 _ (show 0 + 28 ≤ 28 by omega) rfl
 have HX3 : Hd (Box ((V1.alloc (.cells zUa 103)).setCells V1.heap.size 0 (d.ck 0)) w.heap.size (cellsU d 0 d.tb.length)) := (HX.o.below (bl_a _)).upper (but_sets V1.heap.size _ 0 _) (by omega)
 have HB3 : Hd (Bl w ((V1.alloc (.cells zUa 103)).setCells V1.heap.size 0 (d.ck 0))) := below_sets _ hg _ _ _ (bl_alloc HB.o _)
 go_upto_region 2 with (first | (with_reducible refine wpq_at ?_; refine wpList_load_mid rfl 103 _ rfl _ _ rfl (d.ck 0) _ lr Tryz.underlying103 rfl (by kernel_rfl) ?_; try simp only [Act.put, sA, zA, cA]) | (with_reducible refine wpq_at ?_; refine wpList_store_mid rfl 103 _ _ rfl _ _ _ rfl rfl st (by kernel_rfl) on ?_; try simp only [Act.put]))
 generalize ((V1.alloc (.cells zUa 103)).setCells V1.heap.size 0 (d.ck 0)) = W3 at *
 generalize hgg : V1.heap.size = g at *
 clear hgg lr st on HX HB
 have x0 := HX3.o.2 0 _ rfl
 have lp := HX3.o.range 1 d.p.cl rfl
 go_wp2_with (with_reducible refine wpq_at ?_; refine wpList_load_mid rfl 97 _ rfl w.heap.size 1 rfl d.p.cl _ lp Tryz.underlying97 rfl (by kernel_rfl) ?_; try simp only [Act.put, sA, zA, cA])
 refine (HPO.o _ HB3.o).mono ?_
 rintro e w5 ⟨q5, rfl, hq5, hb5⟩
 have HB5 := iH (bl_trans HB3.o hb5)
 have HO5 := iH (HOB.o.below hb5)
 clear hb5 lp HOB HX3 HB3 HPO x0
 have st := HO5.o.there 1 15 (show 1 + 15 ≤ 28 by omega)
 have HR4 := iH ((HO5.o.put zPl 1 (UN.cells ⟨0, PB0, d.e, d.v, d.ta, d.tc, d.tb, d.aa, d.ac, d.an, d.ba, d.bc, d.bn⟩) (show 1 + 15 ≤ 28 by omega) rfl).box)
 have HB4 : Hd (Bl w (w5.setCells g 1 zPl)) := below_sets _ hg _ _ _ HB5.o
 go_upto_region 17 with (first | (with_reducible refine wpq_at ?_; refine wpList_store_mid rfl 97 _ _ rfl _ _ _ rfl rfl st (by kernel_rfl) oneP ?_; try simp only [Act.put]))
 generalize (w5.setCells g 1 zPl) = W4 at *
 clear st
 cases q5
 · have HNO : Hd (¬ NodeU d) := fun hh => by have h := hq5.2 (hh.p1 HKV.o); cases h
   clear hq5
   go_wp2_with fail
   go_ret
   exact Tells.no HNO.o HB4.o
 have HPK := iH (hq5.1 rfl)
 clear hq5
 have lr := HR4.o.range 0 [.int .i64 0, .slice none 0 0, .int .i64 0, .slice none 0 0, .int .i64 0, .int .i64 0, .slice none 0 0, .int .i64 0, .slice none 0 0, .int .i64 0, .int .i64 0, .slice none 0 0, .int .i64 0, .slice none 0 0, .int .i64 0, .int .i64 0, .int .i64 d.e.d.k, .int .i64 d.e.d.op, .slice d.e.d.v.a d.e.d.v.len d.e.d.v.cap, .int .i64 d.e.d.t.t.k, .slice d.e.d.t.t.a d.e.d.t.t.len d.e.d.t.t.cap, .int .i64 d.e.d.t.t.n, .int .i64 d.e.d.t.t.s, .slice d.e.d.ka d.e.d.n d.e.d.kc, .slice d.v.a d.v.len d.v.cap, .slice d.ta d.tb.length d.tc, .slice d.aa d.an d.ac, .slice d.ba d.bn d.bc] rfl
 go_wp2_with (with_reducible refine wpq_at ?_; refine wpq_stop 103 _ rfl ?_)
 change wpList _ _ _ _ _ _
 refine wpq_load ?hw 103 _ rfl g 0 rfl _ _ lr Tryz.underlying103 rfl (by kernel_rfl) ?_
 case hw => rfl
 simp only [Act.put, sA, zA, cA]
 go_wp2_with fail
 refine (HIB.o _ HB4.o).mono ?_
 rintro e w9 ⟨q9, rfl, hq9, hb9⟩
 have HE := iH (show (q9 = true ↔ NodeU d) from hq9.trans ⟨fun h => ⟨by rw [HKV.o]; decide, by rw [HKV.o]; decide, fun _ => HPK.o, fun h2 => absurd HKV.o h2, fun _ => h.2.1, fun h2 => absurd h2 (show ¬ hasN d.k by rw [HKV.o]; unfold hasN; decide), fun _ => h.2.2.1, fun _ => (show d.tb = [] from h.2.2.2.1), by rw [(show d.tb = [] from h.2.2.2.1)]; decide, (fun x hx => by rw [(show d.tb = [] from h.2.2.2.1)] at hx; cases hx), fun _ => h.2.2.2.2.1, fun _ => h.2.2.2.2.2⟩, fun h => EmptyU.mk PB0_zero (h.e0 (show ¬ hasX d.k by rw [HKV.o]; unfold hasX; decide)) (h.v0 (show ¬ hasN d.k by rw [HKV.o]; unfold hasN; decide)) (h.t0 (by rw [HKV.o]; decide)) (h.a0 (show ¬ hasG d.k by rw [HKV.o]; unfold hasG; decide)) (h.b0 (by rw [HKV.o]; decide))⟩)
 have HB9 := iH (bl_trans HB4.o hb9)
 clear hq9 hb9 lr
 go_wp2_with fail
 go_ret
 exact Tells.of HE.o HB9.o
theorem hasOwnU_1 (d : UN) (ka kb : Nat → UT) (w : World) (hkv : d.k = 1) (hl : (UT.mk d ka kb).lies 0 w) : Calls Tryz.prog 101 #[.agg d.ar] w (Tells (NodeU d) w) := by
 try unfold UN.ar
 obtain ⟨hp, he, hv, ht, htn, _⟩ := hl
 have HKV := iH hkv
 have HIB := iH (fun W (hb : Bl w W) => isEmpty_any ⟨1, d.p, d.e, d.v, d.ta, d.tc, d.tb, none, 0, 0, d.ba, d.bc, d.bn⟩ W (hp.upper (uB hb)) (ET.lies.upper (uB hb) he) (hv.upper (uB hb)))
 rw [hkv]
 clear hp he hv ht htn hkv
 obtain ⟨V1, hV1⟩ : ∃ V1, V1 = w.alloc (.cells (d.ca 1) 103) := ⟨_, rfl⟩
 have HX : Hd (Box V1 w.heap.size (cellsU d 1 d.tb.length)) := (show Box _ _ _ by rw [hV1]; exact Box.new w _ 103 (0, 0))
 have HB : Hd (Bl w V1) := (show Below _ _ _ by rw [hV1]; exact bl_a _)
 go_in
 go_upto_region 1 with fail
 rw [← hV1]
 clear hV1
 have lr : V1.rangeAt w.heap.size 0 (d.ck 1) := HX.o.range 0 _ rfl
 have st := (OB.new V1 zUa 103).there 0 28 (by simp)
 have on : ((d.ca 1) : Array Value).all (·.oneCell') = true := UN.one ⟨1, d.p, d.e, d.v, d.ta, d.tc, d.tb, d.aa, d.ac, d.an, d.ba, d.bc, d.bn⟩
 have hg := HB.o.size
 have hgx := HX.o.1
 have HOB : Hd (OB ((V1.alloc (.cells zUa 103)).setCells V1.heap.size 0 (d.ck 1)) V1.heap.size (cellsU d 1 d.tb.length)) := (OB.new V1 _ 103).put _ 0 _ (show 0 + 28 ≤ 28 by omega) rfl
 have HX3 : Hd (Box ((V1.alloc (.cells zUa 103)).setCells V1.heap.size 0 (d.ck 1)) w.heap.size (cellsU d 1 d.tb.length)) := (HX.o.below (bl_a _)).upper (but_sets V1.heap.size _ 0 _) (by omega)
 have HB3 : Hd (Bl w ((V1.alloc (.cells zUa 103)).setCells V1.heap.size 0 (d.ck 1))) := below_sets _ hg _ _ _ (bl_alloc HB.o _)
 go_upto_region 2 with (first | (with_reducible refine wpq_at ?_; refine wpList_load_mid rfl 103 _ rfl _ _ rfl (d.ck 1) _ lr Tryz.underlying103 rfl (by kernel_rfl) ?_; try simp only [Act.put, sA, zA, cA]) | (with_reducible refine wpq_at ?_; refine wpList_store_mid rfl 103 _ _ rfl _ _ _ rfl rfl st (by kernel_rfl) on ?_; try simp only [Act.put]))
 generalize ((V1.alloc (.cells zUa 103)).setCells V1.heap.size 0 (d.ck 1)) = W3 at *
 generalize hgg : V1.heap.size = g at *
 clear hgg lr st on HX HB
 have x0 := HX3.o.2 0 _ rfl
 have s26 := (HOB.o.2 26 _ rfl).1
 have t26 := (HOB.o.2 26 _ rfl).2
 have HR4 : Hd (Box (W3.setCell ⟨g, 26, none⟩ (.slice none 0 0)) g (UN.cells ⟨1, d.p, d.e, d.v, d.ta, d.tc, d.tb, none, 0, 0, d.ba, d.bc, d.bn⟩)) := (HOB.o.set 26 _).box
 have HB4 : Hd (Bl w (W3.setCell ⟨g, 26, none⟩ (.slice none 0 0))) := (HB3.o.setCell (p := ⟨g, 26, none⟩) hg _)
 go_upto_region 17 with fail
 generalize (W3.setCell ⟨g, 26, none⟩ (.slice none 0 0)) = W4 at *
 clear x0 HOB HX3 HB3 s26 t26
 have lr := HR4.o.range 0 (uL 1 d.p d.e.d d.v (.slice d.ta d.tb.length d.tc) (.slice none 0 0) (.slice d.ba d.bn d.bc)) rfl
 go_wp2_with (with_reducible refine wpq_at ?_; refine wpq_stop 103 _ rfl ?_)
 change wpList _ _ _ _ _ _
 refine wpq_load ?hw 103 _ rfl g 0 rfl _ _ lr Tryz.underlying103 rfl (by kernel_rfl) ?_
 case hw => rfl
 simp only [Act.put, sA, zA, cA]
 go_wp2_with fail
 refine (HIB.o _ HB4.o).mono ?_
 rintro e w9 ⟨q9, rfl, hq9, hb9⟩
 have HE := iH (show (q9 = true ↔ NodeU d) from hq9.trans ⟨fun h => ⟨by rw [HKV.o]; decide, by rw [HKV.o]; decide, fun h2 => absurd h2 (by rw [HKV.o]; decide), fun _ => h.1, fun _ => h.2.1, fun h2 => absurd h2 (show ¬ hasN d.k by rw [HKV.o]; unfold hasN; decide), fun _ => h.2.2.1, fun _ => (show d.tb = [] from h.2.2.2.1), by rw [(show d.tb = [] from h.2.2.2.1)]; decide, (fun x hx => by rw [(show d.tb = [] from h.2.2.2.1)] at hx; cases hx), fun h2 => absurd (show hasG d.k by rw [HKV.o]; unfold hasG; decide) h2, fun _ => h.2.2.2.2.2⟩, fun h => EmptyU.mk (h.p0 (by rw [HKV.o]; decide)) (h.e0 (show ¬ hasX d.k by rw [HKV.o]; unfold hasX; decide)) (h.v0 (show ¬ hasN d.k by rw [HKV.o]; unfold hasN; decide)) (h.t0 (by rw [HKV.o]; decide)) rfl (h.b0 (by rw [HKV.o]; decide))⟩)
 have HB9 := iH (bl_trans HB4.o hb9)
 clear hq9 hb9 lr
 go_wp2_with fail
 go_ret
 exact Tells.of HE.o HB9.o
theorem hasOwnU_2 (d : UN) (ka kb : Nat → UT) (w : World) (hkv : d.k = 2) (hl : (UT.mk d ka kb).lies 0 w) : Calls Tryz.prog 101 #[.agg d.ar] w (Tells (NodeU d) w) := by
 try unfold UN.ar
 obtain ⟨hp, he, hv, ht, htn, _⟩ := hl
 have HKV := iH hkv
 have HIB := iH (fun W (hb : Bl w W) => isEmpty_any ⟨2, d.p, d.e, d.v, d.ta, d.tc, d.tb, none, 0, 0, none, 0, 0⟩ W (hp.upper (uB hb)) (ET.lies.upper (uB hb) he) (hv.upper (uB hb)))
 rw [hkv]
 clear hp he hv ht htn hkv
 obtain ⟨V1, hV1⟩ : ∃ V1, V1 = w.alloc (.cells (d.ca 2) 103) := ⟨_, rfl⟩
 have HX : Hd (Box V1 w.heap.size (cellsU d 2 d.tb.length)) := (show Box _ _ _ by rw [hV1]; exact Box.new w _ 103 (0, 0))
 have HB : Hd (Bl w V1) := (show Below _ _ _ by rw [hV1]; exact bl_a _)
 go_in
 go_upto_region 1 with fail
 rw [← hV1]
 clear hV1
 have lr : V1.rangeAt w.heap.size 0 (d.ck 2) := HX.o.range 0 _ rfl
 have st := (OB.new V1 zUa 103).there 0 28 (by simp)
 have on : ((d.ca 2) : Array Value).all (·.oneCell') = true := UN.one ⟨2, d.p, d.e, d.v, d.ta, d.tc, d.tb, d.aa, d.ac, d.an, d.ba, d.bc, d.bn⟩
 have hg := HB.o.size
 have hgx := HX.o.1
 have HOB : Hd (OB ((V1.alloc (.cells zUa 103)).setCells V1.heap.size 0 (d.ck 2)) V1.heap.size (cellsU d 2 d.tb.length)) := (OB.new V1 _ 103).put _ 0 _ (show 0 + 28 ≤ 28 by omega) rfl
 have HX3 : Hd (Box ((V1.alloc (.cells zUa 103)).setCells V1.heap.size 0 (d.ck 2)) w.heap.size (cellsU d 2 d.tb.length)) := (HX.o.below (bl_a _)).upper (but_sets V1.heap.size _ 0 _) (by omega)
 have HB3 : Hd (Bl w ((V1.alloc (.cells zUa 103)).setCells V1.heap.size 0 (d.ck 2))) := below_sets _ hg _ _ _ (bl_alloc HB.o _)
 go_upto_region 2 with (first | (with_reducible refine wpq_at ?_; refine wpList_load_mid rfl 103 _ rfl _ _ rfl (d.ck 2) _ lr Tryz.underlying103 rfl (by kernel_rfl) ?_; try simp only [Act.put, sA, zA, cA]) | (with_reducible refine wpq_at ?_; refine wpList_store_mid rfl 103 _ _ rfl _ _ _ rfl rfl st (by kernel_rfl) on ?_; try simp only [Act.put]))
 generalize ((V1.alloc (.cells zUa 103)).setCells V1.heap.size 0 (d.ck 2)) = W3 at *
 generalize hgg : V1.heap.size = g at *
 clear hgg lr st on HX HB
 have x0 := HX3.o.2 0 _ rfl
 have s26 := (HOB.o.2 26 _ rfl).1
 have t26 := (HOB.o.2 26 _ rfl).2
 have s27 := (HOB.o.2 27 _ rfl).1
 have t27 := (HOB.o.2 27 _ rfl).2
 have HR4 : Hd (Box ((W3.setCell ⟨g, 26, none⟩ (.slice none 0 0)).setCell ⟨g, 27, none⟩ (.slice none 0 0)) g (UN.cells ⟨2, d.p, d.e, d.v, d.ta, d.tc, d.tb, none, 0, 0, none, 0, 0⟩)) := ((HOB.o.set 26 _).set 27 _).box
 have HB4 : Hd (Bl w ((W3.setCell ⟨g, 26, none⟩ (.slice none 0 0)).setCell ⟨g, 27, none⟩ (.slice none 0 0))) := ((HB3.o.setCell (p := ⟨g, 26, none⟩) hg _).setCell (p := ⟨g, 27, none⟩) hg _)
 go_upto_region 17 with fail
 generalize ((W3.setCell ⟨g, 26, none⟩ (.slice none 0 0)).setCell ⟨g, 27, none⟩ (.slice none 0 0)) = W4 at *
 clear x0 HOB HX3 HB3 s26 t26 s27 t27
 have lr := HR4.o.range 0 (uL 2 d.p d.e.d d.v (.slice d.ta d.tb.length d.tc) (.slice none 0 0) (.slice none 0 0)) rfl
 go_wp2_with (with_reducible refine wpq_at ?_; refine wpq_stop 103 _ rfl ?_)
 change wpList _ _ _ _ _ _
 refine wpq_load ?hw 103 _ rfl g 0 rfl _ _ lr Tryz.underlying103 rfl (by kernel_rfl) ?_
 case hw => rfl
 simp only [Act.put, sA, zA, cA]
 go_wp2_with fail
 refine (HIB.o _ HB4.o).mono ?_
 rintro e w9 ⟨q9, rfl, hq9, hb9⟩
 have HE := iH (show (q9 = true ↔ NodeU d) from hq9.trans ⟨fun h => ⟨by rw [HKV.o]; decide, by rw [HKV.o]; decide, fun h2 => absurd h2 (by rw [HKV.o]; decide), fun _ => h.1, fun _ => h.2.1, fun h2 => absurd h2 (show ¬ hasN d.k by rw [HKV.o]; unfold hasN; decide), fun _ => h.2.2.1, fun _ => (show d.tb = [] from h.2.2.2.1), by rw [(show d.tb = [] from h.2.2.2.1)]; decide, (fun x hx => by rw [(show d.tb = [] from h.2.2.2.1)] at hx; cases hx), fun h2 => absurd (show hasG d.k by rw [HKV.o]; unfold hasG; decide) h2, fun h2 => absurd HKV.o h2⟩, fun h => EmptyU.mk (h.p0 (by rw [HKV.o]; decide)) (h.e0 (show ¬ hasX d.k by rw [HKV.o]; unfold hasX; decide)) (h.v0 (show ¬ hasN d.k by rw [HKV.o]; unfold hasN; decide)) (h.t0 (by rw [HKV.o]; decide)) rfl rfl⟩)
 have HB9 := iH (bl_trans HB4.o hb9)
 clear hq9 hb9 lr
 go_wp2_with fail
 go_ret
 exact Tells.of HE.o HB9.o
end Go.Proofs.YthljoojcpbignaaGreatDoor
