import Derived.Test.YthljoojcpbignaaGreatDoorMk19
namespace Go.Proofs.YthljoojcpbignaaGreatDoor
open Go.RowKit Go.Deep
set_option maxHeartbeats 40000000
set_option maxRecDepth 100000
theorem hasOwnU_2 (d : UN) (ka kb : Nat → UT) (w : World) (hkv : d.k = 2) (hl : (UT.mk d ka kb).lies 0 w) : Calls Tryz.prog 101 #[.agg d.ar] w (Tells (NodeU d) w) := by
 try unfold UN.ar
 obtain ⟨hp, he, hv, ht, htn, _⟩ := hl
 have HKV := iH hkv
 have HIB := iH (fun W (hb : Bl w W) => isEmpty_any ⟨2, d.p, d.e, d.v, d.ta, d.tc, d.tb, none, 0, 0, none, 0, 0⟩ W (hp.upper (uB hb)) (ET.lies.upper (uB hb) he) (hv.upper (uB hb)))
 rw [hkv]
 clear hp he hv ht htn hkv
 obtain ⟨V1, hV1⟩ : ∃ V1, V1 = w.alloc (.cells (d.ca 2) 103) := ⟨_, rfl⟩
 have HX : Hd (Box V1 w.heap.size (cellsU d 2 d.tb.length)) := (show Box _ _ _ by rw [hV1]; exact Box.new w _ 103 (0, 0))
 have HB : Hd (Bl w V1) := (show Below _ _ _ by rw [hV1]; exact bl_a _)
 go_in
 go_upto_region 1 with fail
 rw [← hV1]
 clear hV1
 have lr : V1.rangeAt w.heap.size 0 (d.ck 2) := HX.o.range 0 _ rfl
 have st := (OB.new V1 zUa 103).there 0 28 (by simp)
 have on : ((d.ca 2) : Array Value).all (·.oneCell') = true := UN.one ⟨2, d.p, d.e, d.v, d.ta, d.tc, d.tb, d.aa, d.ac, d.an, d.ba, d.bc, d.bn⟩
 have hg := HB.o.size
 have hgx := HX.o.1
 have HOB : Hd (OB ((V1.alloc (.cells zUa 103)).setCells V1.heap.size 0 (d.ck 2)) V1.heap.size (cellsU d 2 d.tb.length)) := (OB.new V1 _ 103).put _ 0 _ (show 0 + 28 ≤ 28 by omega) rfl
 have HX3 : Hd (Box ((V1.alloc (.cells zUa 103)).setCells V1.heap.size 0 (d.ck 2)) w.heap.size (cellsU d 2 d.tb.length)) := (HX.o.below (bl_a _)).upper (but_sets V1.heap.size _ 0 _) (by omega)
 have HB3 : Hd (Bl w ((V1.alloc (.cells zUa 103)).setCells V1.heap.size 0 (d.ck 2))) := below_sets _ hg _ _ _ (bl_alloc HB.o _)
 go_upto_region 2 with (first | (with_reducible refine wpq_at ?_; refine ldr rfl rfl rfl Tryz.underlying103 lr rfl ?_; try simp only [Act.put, sA, zA, cA]) | (with_reducible refine wpq_at ?_; refine wpList_store_mid rfl 103 _ _ rfl _ _ _ rfl rfl st (by kernel_rfl) on ?_; try simp only [Act.put]))
 generalize ((V1.alloc (.cells zUa 103)).setCells V1.heap.size 0 (d.ck 2)) = W3 at *
 generalize hgg : V1.heap.size = g at *
 clear hgg lr st on HX HB
 have x0 := HX3.o.2 0 _ rfl
 have s26 := (HOB.o.2 26 _ rfl).1
 have t26 := (HOB.o.2 26 _ rfl).2
 have s27 := (HOB.o.2 27 _ rfl).1
 have t27 := (HOB.o.2 27 _ rfl).2
 have HR4 : Hd (Box ((W3.setCell ⟨g, 26, none⟩ (.slice none 0 0)).setCell ⟨g, 27, none⟩ (.slice none 0 0)) g (UN.cells ⟨2, d.p, d.e, d.v, d.ta, d.tc, d.tb, none, 0, 0, none, 0, 0⟩)) := ((HOB.o.set 26 _).set 27 _).box
 have HB4 : Hd (Bl w ((W3.setCell ⟨g, 26, none⟩ (.slice none 0 0)).setCell ⟨g, 27, none⟩ (.slice none 0 0))) := ((HB3.o.setCell (p := ⟨g, 26, none⟩) hg _).setCell (p := ⟨g, 27, none⟩) hg _)
 go_upto_region 17 with fail
 generalize ((W3.setCell ⟨g, 26, none⟩ (.slice none 0 0)).setCell ⟨g, 27, none⟩ (.slice none 0 0)) = W4 at *
 clear x0 HOB HX3 HB3 s26 t26 s27 t27
 have lr := HR4.o.range 0 (uL 2 d.p d.e.d d.v (.slice d.ta d.tb.length d.tc) (.slice none 0 0) (.slice none 0 0)) rfl
 go_wp2_with (with_reducible refine wpq_at ?_; refine wpq_stop 103 _ rfl ?_)
 change wpList _ _ _ _ _ _
 refine wpq_load ?hw 103 _ rfl g 0 rfl _ _ lr Tryz.underlying103 rfl (by kernel_rfl) ?_
 case hw => rfl
 simp only [Act.put, sA, zA, cA]
 go_wp2_with fail
 refine (HIB.o _ HB4.o).mono ?_
 rintro e w9 ⟨q9, rfl, hq9, hb9⟩
 have HE := iH (show (q9 = true ↔ NodeU d) from hq9.trans ⟨fun h => ⟨by rw [HKV.o]; decide, by rw [HKV.o]; decide, fun h2 => absurd h2 (by rw [HKV.o]; decide), fun _ => h.1, fun _ => h.2.1, fun h2 => absurd h2 (show ¬ hasN d.k by rw [HKV.o]; unfold hasN; decide), fun _ => h.2.2.1, fun _ => (show d.tb = [] from h.2.2.2.1), by rw [(show d.tb = [] from h.2.2.2.1)]; decide, (fun x hx => by rw [(show d.tb = [] from h.2.2.2.1)] at hx; cases hx), fun h2 => absurd (show hasG d.k by rw [HKV.o]; unfold hasG; decide) h2, fun h2 => absurd HKV.o h2⟩, fun h => EmptyU.mk (h.p0 (by rw [HKV.o]; decide)) (h.e0 (show ¬ hasX d.k by rw [HKV.o]; unfold hasX; decide)) (h.v0 (show ¬ hasN d.k by rw [HKV.o]; unfold hasN; decide)) (h.t0 (by rw [HKV.o]; decide)) rfl rfl⟩)
 have HB9 := iH (bl_trans HB4.o hb9)
 clear hq9 hb9 lr
 go_wp2
 go_ret
 exact Tells.of HE.o HB9.o
theorem hasOwnU_3 (d : UN) (ka kb : Nat → UT) (w : World) (hkv : d.k = 3) (hl : (UT.mk d ka kb).lies 0 w) : Calls Tryz.prog 101 #[.agg d.ar] w (Tells (NodeU d) w) := by
 try unfold UN.ar
 obtain ⟨hp, he, hv, ht, htn, _⟩ := hl
 have HKV := iH hkv
 have HIB := iH (fun W (hb : Bl w W) => isEmpty_any ⟨3, d.p, d.e, d.v, d.ta, d.tc, d.tb, none, 0, 0, d.ba, d.bc, d.bn⟩ W (hp.upper (uB hb)) (ET.lies.upper (uB hb) he) (hv.upper (uB hb)))
 rw [hkv]
 clear hp he hv ht htn hkv
 obtain ⟨V1, hV1⟩ : ∃ V1, V1 = w.alloc (.cells (d.ca 3) 103) := ⟨_, rfl⟩
 have HX : Hd (Box V1 w.heap.size (cellsU d 3 d.tb.length)) := (show Box _ _ _ by rw [hV1]; exact Box.new w _ 103 (0, 0))
 have HB : Hd (Bl w V1) := (show Below _ _ _ by rw [hV1]; exact bl_a _)
 go_in
 go_upto_region 1 with fail
 rw [← hV1]
 clear hV1
 have lr : V1.rangeAt w.heap.size 0 (d.ck 3) := HX.o.range 0 _ rfl
 have st := (OB.new V1 zUa 103).there 0 28 (by simp)
 have on : ((d.ca 3) : Array Value).all (·.oneCell') = true := UN.one ⟨3, d.p, d.e, d.v, d.ta, d.tc, d.tb, d.aa, d.ac, d.an, d.ba, d.bc, d.bn⟩
 have hg := HB.o.size
 have hgx := HX.o.1
 have HOB : Hd (OB ((V1.alloc (.cells zUa 103)).setCells V1.heap.size 0 (d.ck 3)) V1.heap.size (cellsU d 3 d.tb.length)) := (OB.new V1 _ 103).put _ 0 _ (show 0 + 28 ≤ 28 by omega) rfl
 have HX3 : Hd (Box ((V1.alloc (.cells zUa 103)).setCells V1.heap.size 0 (d.ck 3)) w.heap.size (cellsU d 3 d.tb.length)) := (HX.o.below (bl_a _)).upper (but_sets V1.heap.size _ 0 _) (by omega)
 have HB3 : Hd (Bl w ((V1.alloc (.cells zUa 103)).setCells V1.heap.size 0 (d.ck 3))) := below_sets _ hg _ _ _ (bl_alloc HB.o _)
 go_upto_region 2 with (first | (with_reducible refine wpq_at ?_; refine ldr rfl rfl rfl Tryz.underlying103 lr rfl ?_; try simp only [Act.put, sA, zA, cA]) | (with_reducible refine wpq_at ?_; refine wpList_store_mid rfl 103 _ _ rfl _ _ _ rfl rfl st (by kernel_rfl) on ?_; try simp only [Act.put]))
 generalize ((V1.alloc (.cells zUa 103)).setCells V1.heap.size 0 (d.ck 3)) = W3 at *
 generalize hgg : V1.heap.size = g at *
 clear hgg lr st on HX HB
 have x0 := HX3.o.2 0 _ rfl
 have s26 := (HOB.o.2 26 _ rfl).1
 have t26 := (HOB.o.2 26 _ rfl).2
 have HR4 : Hd (Box (W3.setCell ⟨g, 26, none⟩ (.slice none 0 0)) g (UN.cells ⟨3, d.p, d.e, d.v, d.ta, d.tc, d.tb, none, 0, 0, d.ba, d.bc, d.bn⟩)) := (HOB.o.set 26 _).box
 have HB4 : Hd (Bl w (W3.setCell ⟨g, 26, none⟩ (.slice none 0 0))) := (HB3.o.setCell (p := ⟨g, 26, none⟩) hg _)
 go_upto_region 17 with fail
 generalize (W3.setCell ⟨g, 26, none⟩ (.slice none 0 0)) = W4 at *
 clear x0 HOB HX3 HB3 s26 t26
 have lr := HR4.o.range 0 (uL 3 d.p d.e.d d.v (.slice d.ta d.tb.length d.tc) (.slice none 0 0) (.slice d.ba d.bn d.bc)) rfl
 go_wp2_with (with_reducible refine wpq_at ?_; refine wpq_stop 103 _ rfl ?_)
 change wpList _ _ _ _ _ _
 refine wpq_load ?hw 103 _ rfl g 0 rfl _ _ lr Tryz.underlying103 rfl (by kernel_rfl) ?_
 case hw => rfl
 simp only [Act.put, sA, zA, cA]
 go_wp2_with fail
 refine (HIB.o _ HB4.o).mono ?_
 rintro e w9 ⟨q9, rfl, hq9, hb9⟩
 have HE := iH (show (q9 = true ↔ NodeU d) from hq9.trans ⟨fun h => ⟨by rw [HKV.o]; decide, by rw [HKV.o]; decide, fun h2 => absurd h2 (by rw [HKV.o]; decide), fun _ => h.1, fun _ => h.2.1, fun h2 => absurd h2 (show ¬ hasN d.k by rw [HKV.o]; unfold hasN; decide), fun _ => h.2.2.1, fun _ => (show d.tb = [] from h.2.2.2.1), by rw [(show d.tb = [] from h.2.2.2.1)]; decide, (fun x hx => by rw [(show d.tb = [] from h.2.2.2.1)] at hx; cases hx), fun h2 => absurd (show hasG d.k by rw [HKV.o]; unfold hasG; decide) h2, fun _ => h.2.2.2.2.2⟩, fun h => EmptyU.mk (h.p0 (by rw [HKV.o]; decide)) (h.e0 (show ¬ hasX d.k by rw [HKV.o]; unfold hasX; decide)) (h.v0 (show ¬ hasN d.k by rw [HKV.o]; unfold hasN; decide)) (h.t0 (by rw [HKV.o]; decide)) rfl (h.b0 (by rw [HKV.o]; decide))⟩)
 have HB9 := iH (bl_trans HB4.o hb9)
 clear hq9 hb9 lr
 go_wp2
 go_ret
 exact Tells.of HE.o HB9.o
theorem hasOwnU_4 (d : UN) (ka kb : Nat → UT) (w : World) (hkv : d.k = 4) (hl : (UT.mk d ka kb).lies 0 w) : Calls Tryz.prog 101 #[.agg d.ar] w (Tells (NodeU d) w) := by
 try unfold UN.ar
 obtain ⟨hp, he, hv, ht, htn, _⟩ := hl
 have HKV := iH hkv
 have HIB : Hd (∀ W, Bl w W → Cl 141 #[.agg #[.int .i64 4, .slice d.p.s.v.a d.p.s.v.len d.p.s.v.cap, .int .i64 d.p.s.t.t.k, .slice d.p.s.t.t.a d.p.s.t.t.len d.p.s.t.t.cap, .int .i64 d.p.s.t.t.n, .int .i64 d.p.s.t.t.s, .slice d.p.p.v.a d.p.p.v.len d.p.p.v.cap, .int .i64 d.p.p.t.t.k, .slice d.p.p.t.t.a d.p.p.t.t.len d.p.p.t.t.cap, .int .i64 d.p.p.t.t.n, .int .i64 d.p.p.t.t.s, .slice d.p.o.v.a d.p.o.v.len d.p.o.v.cap, .int .i64 d.p.o.t.t.k, .slice d.p.o.t.t.a d.p.o.t.t.len d.p.o.t.t.cap, .int .i64 d.p.o.t.t.n, .int .i64 d.p.o.t.t.s, .int .i64 0, .int .i64 0, .slice none 0 0, .int .i64 0, .slice none 0 0, .int .i64 0, .int .i64 0, .slice none 0 0, .slice d.v.a d.v.len d.v.cap, .slice d.ta d.tb.length d.tc, .slice d.aa d.an d.ac, .slice d.ba d.bn d.bc]] W (Tells (EmptyU ⟨4, d.p, ET0, d.v, d.ta, d.tc, d.tb, d.aa, d.ac, d.an, d.ba, d.bc, d.bn⟩) W)) := fun W hb => isEmpty_any _ W (hp.upper (uB hb)) (ET0_lies W) (hv.upper (uB hb))
 rw [hkv]
 clear hp he hv ht htn hkv
 obtain ⟨V1, hV1⟩ : ∃ V1, V1 = w.alloc (.cells (d.ca 4) 103) := ⟨_, rfl⟩
 have HX : Hd (Box V1 w.heap.size (cellsU d 4 d.tb.length)) := (show Box _ _ _ by rw [hV1]; exact Box.new w _ 103 (0, 0))
 have HB : Hd (Bl w V1) := (show Below _ _ _ by rw [hV1]; exact bl_a _)
 go_in
 go_upto_region 1 with fail
 rw [← hV1]
 clear hV1
 have lr : V1.rangeAt w.heap.size 0 (d.ck 4) := HX.o.range 0 _ rfl
 have st := (OB.new V1 zUa 103).there 0 28 (by simp)
 have on : ((d.ca 4) : Array Value).all (·.oneCell') = true := UN.one ⟨4, d.p, d.e, d.v, d.ta, d.tc, d.tb, d.aa, d.ac, d.an, d.ba, d.bc, d.bn⟩
 have hg := HB.o.size
 have hgx := HX.o.1
 have HOB : Hd (OB ((V1.alloc (.cells zUa 103)).setCells V1.heap.size 0 (d.ck 4)) V1.heap.size (cellsU d 4 d.tb.length)) := (OB.new V1 _ 103).put _ 0 _ (show 0 + 28 ≤ 28 by omega) rfl
 have HX3 : Hd (Box ((V1.alloc (.cells zUa 103)).setCells V1.heap.size 0 (d.ck 4)) w.heap.size (cellsU d 4 d.tb.length)) := (HX.o.below (bl_a _)).upper (but_sets V1.heap.size _ 0 _) (by omega)
 have HB3 : Hd (Bl w ((V1.alloc (.cells zUa 103)).setCells V1.heap.size 0 (d.ck 4))) := below_sets _ hg _ _ _ (bl_alloc HB.o _)
 go_upto_region 2 with (first | (with_reducible refine wpq_at ?_; refine ldr rfl rfl rfl Tryz.underlying103 lr rfl ?_; try simp only [Act.put, sA, zA, cA]) | (with_reducible refine wpq_at ?_; refine wpList_store_mid rfl 103 _ _ rfl _ _ _ rfl rfl st (by kernel_rfl) on ?_; try simp only [Act.put]))
 generalize ((V1.alloc (.cells zUa 103)).setCells V1.heap.size 0 (d.ck 4)) = W3 at *
 generalize hgg : V1.heap.size = g at *
 clear hgg lr st on HX HB
 have x0 := HX3.o.2 0 _ rfl
 have st := HOB.o.there 16 8 (show 16 + 8 ≤ 28 by omega)
 have HR4 := iH ((HOB.o.put zEl 16 (UN.cells ⟨4, d.p, ET0, d.v, d.ta, d.tc, d.tb, d.aa, d.ac, d.an, d.ba, d.bc, d.bn⟩) (show 16 + 8 ≤ 28 by omega) rfl).box)
 have HB4 : Hd (Bl w (W3.setCells g 16 zEl)) := below_sets _ hg _ _ _ HB3.o
 go_upto_region 17 with (first | (with_reducible refine wpq_at ?_; refine wpList_store_mid rfl 100 _ _ rfl _ _ _ rfl rfl st (by kernel_rfl) oneE ?_; try simp only [Act.put]))
 generalize (W3.setCells g 16 zEl) = W4 at *
 clear st x0 HOB HX3 HB3
 have lr := HR4.o.range 0 [.int .i64 4, .slice d.p.s.v.a d.p.s.v.len d.p.s.v.cap, .int .i64 d.p.s.t.t.k, .slice d.p.s.t.t.a d.p.s.t.t.len d.p.s.t.t.cap, .int .i64 d.p.s.t.t.n, .int .i64 d.p.s.t.t.s, .slice d.p.p.v.a d.p.p.v.len d.p.p.v.cap, .int .i64 d.p.p.t.t.k, .slice d.p.p.t.t.a d.p.p.t.t.len d.p.p.t.t.cap, .int .i64 d.p.p.t.t.n, .int .i64 d.p.p.t.t.s, .slice d.p.o.v.a d.p.o.v.len d.p.o.v.cap, .int .i64 d.p.o.t.t.k, .slice d.p.o.t.t.a d.p.o.t.t.len d.p.o.t.t.cap, .int .i64 d.p.o.t.t.n, .int .i64 d.p.o.t.t.s, .int .i64 0, .int .i64 0, .slice none 0 0, .int .i64 0, .slice none 0 0, .int .i64 0, .int .i64 0, .slice none 0 0, .slice d.v.a d.v.len d.v.cap, .slice d.ta d.tb.length d.tc, .slice d.aa d.an d.ac, .slice d.ba d.bn d.bc] rfl
 go_wp2_with (with_reducible refine wpq_at ?_; refine wpq_stop 103 _ rfl ?_)
 change wpList _ _ _ _ _ _
 refine wpq_load ?hw 103 _ rfl g 0 rfl _ _ lr Tryz.underlying103 rfl (by kernel_rfl) ?_
 case hw => rfl
 simp only [Act.put, sA, zA, cA]
 go_wp2_with fail
 refine (HIB.o _ HB4.o).mono ?_
 rintro e w9 ⟨q9, rfl, hq9, hb9⟩
 have HE := iH (show (q9 = true ↔ NodeU d) from hq9.trans ⟨fun h => ⟨by rw [HKV.o]; decide, by rw [HKV.o]; decide, fun h2 => absurd h2 (by rw [HKV.o]; decide), fun _ => h.1, fun h2 => absurd (show hasX d.k by rw [HKV.o]; unfold hasX; decide) h2, fun h2 => absurd h2 (show ¬ hasN d.k by rw [HKV.o]; unfold hasN; decide), fun _ => h.2.2.1, fun _ => (show d.tb = [] from h.2.2.2.1), by rw [(show d.tb = [] from h.2.2.2.1)]; decide, (fun x hx => by rw [(show d.tb = [] from h.2.2.2.1)] at hx; cases hx), fun _ => h.2.2.2.2.1, fun _ => h.2.2.2.2.2⟩, fun h => EmptyU.mk (h.p0 (by rw [HKV.o]; decide)) ET0_zero (h.v0 (show ¬ hasN d.k by rw [HKV.o]; unfold hasN; decide)) (h.t0 (by rw [HKV.o]; decide)) (h.a0 (show ¬ hasG d.k by rw [HKV.o]; unfold hasG; decide)) (h.b0 (by rw [HKV.o]; decide))⟩)
 have HB9 := iH (bl_trans HB4.o hb9)
 clear hq9 hb9 lr
 go_wp2
 go_ret
 exact Tells.of HE.o HB9.o
end Go.Proofs.YthljoojcpbignaaGreatDoor
