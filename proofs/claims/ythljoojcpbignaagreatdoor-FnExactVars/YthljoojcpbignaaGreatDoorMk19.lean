import Derived.Test.YthljoojcpbignaaGreatDoorMk18
namespace Go.Proofs.YthljoojcpbignaaGreatDoor
open Go.RowKit Go.Deep
set_option maxHeartbeats 40000000
set_option maxRecDepth 100000
def EmptyU (d : UN) : Prop := zeroP d.p ∧ zeroE d.e ∧ d.v.b = [] ∧ d.tb = [] ∧ d.an = 0 ∧ d.bn = 0
theorem EmptyU.mk {d : UN} (h1 : zeroP d.p) (h2 : zeroE d.e) (h3 : d.v.b = []) (h4 : d.tb = []) (h5 : d.an = 0) (h6 : d.bn = 0) : EmptyU d := ⟨h1, h2, h3, h4, h5, h6⟩
theorem UN.one (d : UN) : d.cells.toArray.all (·.oneCell') = true := all_oneCell_toArray (cs := d.cells) (by intro v hv; unfold UN.cells at hv; simp only [List.mem_cons, List.not_mem_nil, or_false] at hv; rcases hv with rfl | rfl | rfl | rfl | rfl | rfl | rfl | rfl | rfl | rfl | rfl | rfl | rfl | rfl | rfl | rfl | rfl | rfl | rfl | rfl | rfl | rfl | rfl | rfl | rfl | rfl | rfl | rfl <;> rfl)
theorem isEmpty_any (d : UN) (w : World) (hp : d.p.lies 0 w) (he : d.e.lies 0 w) (hv : BsF 0 w d.v) : Calls Tryz.prog 141 #[.agg d.ar] w (Tells (EmptyU d) w) := by
 try unfold UN.ar
 have HL := iH (nil_len hv.1.1)
 have HZP := iH (fun W (hb : Bl w W) => isZeroP_any d.p W (hp.upper (uB hb)))
 have HZ := iH (fun W (hb : Bl w W) => isZeroE_any d.e W (ET.lies.upper (uB hb) he))
 obtain ⟨P, hP⟩ : ∃ P, P = EmptyU d := ⟨_, rfl⟩
 have HP : Hd (P ↔ (zeroP d.p ∧ zeroE d.e ∧ d.v.b = [] ∧ d.tb = [] ∧ d.an = 0 ∧ d.bn = 0)) := (show (P ↔ _) by rw [hP]; exact Iff.rfl)
 rw [← hP]
 obtain ⟨nt, hnt⟩ : ∃ nt, nt = d.tb.length := ⟨_, rfl⟩
 rw [← hnt]
 have HT : Hd (d.tb = [] ↔ nt = 0) := (show (_ ↔ _) by rw [hnt]; exact tb_nil)
 clear he hv hp hP hnt
 have HX := iH (Box.new w (uA d.k d.p d.e.d d.v (.slice d.ta nt d.tc) (.slice d.aa d.an d.ac) (.slice d.ba d.bn d.bc)) 103 (0, 0))
 have HB : Hd (Bl w (w.alloc (.cells (uA d.k d.p d.e.d d.v (.slice d.ta nt d.tc) (.slice d.aa d.an d.ac) (.slice d.ba d.bn d.bc)) 103))) := bl_a _
 go_in
 go_upto_region 1 with fail
 generalize (w.alloc (.cells (uA d.k d.p d.e.d d.v (.slice d.ta nt d.tc) (.slice d.aa d.an d.ac) (.slice d.ba d.bn d.bc)) 103)) = W1 at *
 have lr : W1.rangeAt w.heap.size 1 d.p.cl := HX.o.range 1 _ rfl
 go_wp2_with (with_reducible refine wpq_at ?_; refine ldr rfl rfl rfl Tryz.underlying97 lr rfl ?_; try simp only [Act.put, sA, zA, cA])
 refine (HZP.o _ HB.o).mono ?_
 rintro e w1 ⟨q1, rfl, hq1, hb1⟩
 have HX1 := iH (HX.o.below hb1)
 have HB1 := iH (bl_trans HB.o hb1)
 clear hb1 HX HB lr
 cases q1
 · have HNO : Hd (¬ P) := fun hh => by have h := hq1.2 (HP.o.1 hh).1; cases h
   clear hq1
   go_wp2
   go_ret
   exact Tells.no HNO.o HB1.o
 have HP1 := iH (hq1.1 rfl)
 have lr : w1.rangeAt w.heap.size 16 d.e.d.cl := HX1.o.range 16 _ rfl
 clear hq1
 go_wp2_with (with_reducible refine wpq_at ?_; refine wpq_stop 100 _ rfl ?_)
 change wpList _ _ _ _ _ _
 refine wpq_load ?hw 100 _ rfl w.heap.size 16 rfl _ _ lr Tryz.underlying100 rfl (by kernel_rfl) ?_
 case hw => rfl
 simp only [Act.put, sA, zA, cA]
 go_wp2_with fail
 refine (HZ.o _ HB1.o).mono ?_
 rintro e w2 ⟨q2, rfl, hq2, hb2⟩
 have HX2 := iH (HX1.o.below hb2)
 have HB2 := iH (bl_trans HB1.o hb2)
 clear hb2 HX1 HB1 lr
 cases q2
 · have HNO : Hd (¬ P) := fun hh => by have h := hq2.2 (HP.o.1 hh).2.1; cases h
   clear hq2
   go_wp2
   go_ret
   exact Tells.no HNO.o HB2.o
 have HE1 := iH (hq2.1 rfl)
 have x24 := HX2.o.2 24 _ rfl
 have x25 := HX2.o.2 25 _ rfl
 have x26 := HX2.o.2 26 _ rfl
 have x27 := HX2.o.2 27 _ rfl
 clear hq2
 by_cases h1 : d.v.len = 0
 rotate_left
 · have HNO : Hd (¬ P) := fun hh => h1 (HL.o.1 (HP.o.1 hh).2.2.1)
   have kh1 : ((d.v.len : Int) == 0) = false := by simp; omega
   clear h1
   go_wp2
   go_ret
   exact Tells.no HNO.o HB2.o
 have Hh1 := iH h1
 have kh1 : ((d.v.len : Int) == 0) = true := by simp; omega
 clear h1
 by_cases h2 : nt = 0
 rotate_left
 · have HNO : Hd (¬ P) := fun hh => h2 (HT.o.1 (HP.o.1 hh).2.2.2.1)
   have kh2 : ((nt : Int) == 0) = false := by simp; omega
   clear h2
   go_wp2
   go_ret
   exact Tells.no HNO.o HB2.o
 have Hh2 := iH h2
 have kh2 : ((nt : Int) == 0) = true := by simp; omega
 clear h2
 by_cases h3 : d.an = 0
 rotate_left
 · have HNO : Hd (¬ P) := fun hh => h3 (HP.o.1 hh).2.2.2.2.1
   have kh3 : ((d.an : Int) == 0) = false := by simp; omega
   clear h3
   go_wp2
   go_ret
   exact Tells.no HNO.o HB2.o
 have Hh3 := iH h3
 have kh3 : ((d.an : Int) == 0) = true := by simp; omega
 clear h3
 by_cases h4 : d.bn = 0
 rotate_left
 · have HNO : Hd (¬ P) := fun hh => h4 (HP.o.1 hh).2.2.2.2.2
   have kh4 : ((d.bn : Int) == 0) = false := by simp; omega
   clear h4
   go_wp2
   go_ret
   exact Tells.no HNO.o HB2.o
 have Hh4 := iH h4
 have kh4 : ((d.bn : Int) == 0) = true := by simp; omega
 clear h4
 have HY := iH (HP.o.2 ⟨HP1.o, HE1.o, HL.o.2 Hh1.o, HT.o.2 Hh2.o, Hh3.o, Hh4.o⟩)
 go_wp2
 go_ret
 exact Tells.yes HY.o HB2.o
theorem hasOwnU_0 (d : UN) (ka kb : Nat → UT) (w : World) (hkv : d.k = 0) (hl : (UT.mk d ka kb).lies 0 w) : Calls Tryz.prog 101 #[.agg d.ar] w (Tells (NodeU d) w) := by
 try unfold UN.ar
 obtain ⟨hp, he, hv, ht, htn, _⟩ := hl
 have HKV := iH hkv
 have HIB : Hd (∀ W, Bl w W → Cl 141 #[.agg #[.int .i64 0, .slice none 0 0, .int .i64 0, .slice none 0 0, .int .i64 0, .int .i64 0, .slice none 0 0, .int .i64 0, .slice none 0 0, .int .i64 0, .int .i64 0, .slice none 0 0, .int .i64 0, .slice none 0 0, .int .i64 0, .int .i64 0, .int .i64 d.e.d.k, .int .i64 d.e.d.op, .slice d.e.d.v.a d.e.d.v.len d.e.d.v.cap, .int .i64 d.e.d.t.t.k, .slice d.e.d.t.t.a d.e.d.t.t.len d.e.d.t.t.cap, .int .i64 d.e.d.t.t.n, .int .i64 d.e.d.t.t.s, .slice d.e.d.ka d.e.d.n d.e.d.kc, .slice d.v.a d.v.len d.v.cap, .slice d.ta d.tb.length d.tc, .slice d.aa d.an d.ac, .slice d.ba d.bn d.bc]] W (Tells (EmptyU ⟨0, PB0, d.e, d.v, d.ta, d.tc, d.tb, d.aa, d.ac, d.an, d.ba, d.bc, d.bn⟩) W)) := fun W hb => isEmpty_any _ W (PB0_lies W) (ET.lies.upper (uB hb) he) (hv.upper (uB hb))
 have HPO := iH (fun W (hb : Bl w W) => patOk_any d.p W (hp.upper (uB hb)))
 rw [hkv]
 clear hp he hv ht htn hkv
 obtain ⟨V1, hV1⟩ : ∃ V1, V1 = w.alloc (.cells (d.ca 0) 103) := ⟨_, rfl⟩
 have HX : Hd (Box V1 w.heap.size (cellsU d 0 d.tb.length)) := (show Box _ _ _ by rw [hV1]; exact Box.new w _ 103 (0, 0))
 have HB : Hd (Bl w V1) := (show Below _ _ _ by rw [hV1]; exact bl_a _)
 go_in
 go_upto_region 1 with fail
 rw [← hV1]
 clear hV1
 have lr : V1.rangeAt w.heap.size 0 (d.ck 0) := HX.o.range 0 _ rfl
 have st := (OB.new V1 zUa 103).there 0 28 (by simp)
 have on : ((d.ca 0) : Array Value).all (·.oneCell') = true := UN.one ⟨0, d.p, d.e, d.v, d.ta, d.tc, d.tb, d.aa, d.ac, d.an, d.ba, d.bc, d.bn⟩
 have hg := HB.o.size
 have hgx := HX.o.1
 have HOB : Hd (OB ((V1.alloc (.cells zUa 103)).setCells V1.heap.size 0 (d.ck 0)) V1.heap.size (cellsU d 0 d.tb.length)) := (OB.new V1 _ 103).put _ 0 _ (show 0 + 28 ≤ 28 by omega) rfl
 have HX3 : Hd (Box ((V1.alloc (.cells zUa 103)).setCells V1.heap.size 0 (d.ck 0)) w.heap.size (cellsU d 0 d.tb.length)) := (HX.o.below (bl_a _)).upper (but_sets V1.heap.size _ 0 _) (by omega)
 have HB3 : Hd (Bl w ((V1.alloc (.cells zUa 103)).setCells V1.heap.size 0 (d.ck 0))) := below_sets _ hg _ _ _ (bl_alloc HB.o _)
 go_upto_region 2 with (first | (with_reducible refine wpq_at ?_; refine ldr rfl rfl rfl Tryz.underlying103 lr rfl ?_; try simp only [Act.put, sA, zA, cA]) | (with_reducible refine wpq_at ?_; refine wpList_store_mid rfl 103 _ _ rfl _ _ _ rfl rfl st (by kernel_rfl) on ?_; try simp only [Act.put]))
 generalize ((V1.alloc (.cells zUa 103)).setCells V1.heap.size 0 (d.ck 0)) = W3 at *
 generalize hgg : V1.heap.size = g at *
 clear hgg lr st on HX HB
 have x0 := HX3.o.2 0 _ rfl
 have lp := HX3.o.range 1 d.p.cl rfl
 go_wp2_with (with_reducible refine wpq_at ?_; refine ldr rfl rfl rfl Tryz.underlying97 lp rfl ?_; try simp only [Act.put, sA, zA, cA])
 refine (HPO.o _ HB3.o).mono ?_
 rintro e w5 ⟨q5, rfl, hq5, hb5⟩
 have HB5 := iH (bl_trans HB3.o hb5)
 have HO5 := iH (HOB.o.below hb5)
 clear hb5 lp HOB HX3 HB3 HPO x0
 have st := HO5.o.there 1 15 (show 1 + 15 ≤ 28 by omega)
 have HR4 := iH ((HO5.o.put zPl 1 (UN.cells ⟨0, PB0, d.e, d.v, d.ta, d.tc, d.tb, d.aa, d.ac, d.an, d.ba, d.bc, d.bn⟩) (show 1 + 15 ≤ 28 by omega) rfl).box)
 have HB4 : Hd (Bl w (w5.setCells g 1 zPl)) := below_sets _ hg _ _ _ HB5.o
 go_upto_region 17 with (first | (with_reducible refine wpq_at ?_; refine wpList_store_mid rfl 97 _ _ rfl _ _ _ rfl rfl st (by kernel_rfl) oneP ?_; try simp only [Act.put]))
 generalize (w5.setCells g 1 zPl) = W4 at *
 clear st
 cases q5
 · have HNO : Hd (¬ NodeU d) := fun hh => by have h := hq5.2 (hh.p1 HKV.o); cases h
   clear hq5
   go_wp2
   go_ret
   exact Tells.no HNO.o HB4.o
 have HPK := iH (hq5.1 rfl)
 clear hq5
 have lr := HR4.o.range 0 [.int .i64 0, .slice none 0 0, .int .i64 0, .slice none 0 0, .int .i64 0, .int .i64 0, .slice none 0 0, .int .i64 0, .slice none 0 0, .int .i64 0, .int .i64 0, .slice none 0 0, .int .i64 0, .slice none 0 0, .int .i64 0, .int .i64 0, .int .i64 d.e.d.k, .int .i64 d.e.d.op, .slice d.e.d.v.a d.e.d.v.len d.e.d.v.cap, .int .i64 d.e.d.t.t.k, .slice d.e.d.t.t.a d.e.d.t.t.len d.e.d.t.t.cap, .int .i64 d.e.d.t.t.n, .int .i64 d.e.d.t.t.s, .slice d.e.d.ka d.e.d.n d.e.d.kc, .slice d.v.a d.v.len d.v.cap, .slice d.ta d.tb.length d.tc, .slice d.aa d.an d.ac, .slice d.ba d.bn d.bc] rfl
 go_wp2_with (with_reducible refine wpq_at ?_; refine wpq_stop 103 _ rfl ?_)
 change wpList _ _ _ _ _ _
 refine wpq_load ?hw 103 _ rfl g 0 rfl _ _ lr Tryz.underlying103 rfl (by kernel_rfl) ?_
 case hw => rfl
 simp only [Act.put, sA, zA, cA]
 go_wp2_with fail
 refine (HIB.o _ HB4.o).mono ?_
 rintro e w9 ⟨q9, rfl, hq9, hb9⟩
 have HE := iH (show (q9 = true ↔ NodeU d) from hq9.trans ⟨fun h => ⟨by rw [HKV.o]; decide, by rw [HKV.o]; decide, fun _ => HPK.o, fun h2 => absurd HKV.o h2, fun _ => h.2.1, fun h2 => absurd h2 (show ¬ hasN d.k by rw [HKV.o]; unfold hasN; decide), fun _ => h.2.2.1, fun _ => (show d.tb = [] from h.2.2.2.1), by rw [(show d.tb = [] from h.2.2.2.1)]; decide, (fun x hx => by rw [(show d.tb = [] from h.2.2.2.1)] at hx; cases hx), fun _ => h.2.2.2.2.1, fun _ => h.2.2.2.2.2⟩, fun h => EmptyU.mk PB0_zero (h.e0 (show ¬ hasX d.k by rw [HKV.o]; unfold hasX; decide)) (h.v0 (show ¬ hasN d.k by rw [HKV.o]; unfold hasN; decide)) (h.t0 (by rw [HKV.o]; decide)) (h.a0 (show ¬ hasG d.k by rw [HKV.o]; unfold hasG; decide)) (h.b0 (by rw [HKV.o]; decide))⟩)
 have HB9 := iH (bl_trans HB4.o hb9)
 clear hq9 hb9 lr
 go_wp2
 go_ret
 exact Tells.of HE.o HB9.o
theorem hasOwnU_1 (d : UN) (ka kb : Nat → UT) (w : World) (hkv : d.k = 1) (hl : (UT.mk d ka kb).lies 0 w) : Calls Tryz.prog 101 #[.agg d.ar] w (Tells (NodeU d) w) := by
 try unfold UN.ar
 obtain ⟨hp, he, hv, ht, htn, _⟩ := hl
 have HKV := iH hkv
 have HIB := iH (fun W (hb : Bl w W) => isEmpty_any ⟨1, d.p, d.e, d.v, d.ta, d.tc, d.tb, none, 0, 0, d.ba, d.bc, d.bn⟩ W (hp.upper (uB hb)) (ET.lies.upper (uB hb) he) (hv.upper (uB hb)))
 rw [hkv]
 clear hp he hv ht htn hkv
 obtain ⟨V1, hV1⟩ : ∃ V1, V1 = w.alloc (.cells (d.ca 1) 103) := ⟨_, rfl⟩
 have HX : Hd (Box V1 w.heap.size (cellsU d 1 d.tb.length)) := (show Box _ _ _ by rw [hV1]; exact Box.new w _ 103 (0, 0))
 have HB : Hd (Bl w V1) := (show Below _ _ _ by rw [hV1]; exact bl_a _)
 go_in
 go_upto_region 1 with fail
 rw [← hV1]
 clear hV1
 have lr : V1.rangeAt w.heap.size 0 (d.ck 1) := HX.o.range 0 _ rfl
 have st := (OB.new V1 zUa 103).there 0 28 (by simp)
 have on : ((d.ca 1) : Array Value).all (·.oneCell') = true := UN.one ⟨1, d.p, d.e, d.v, d.ta, d.tc, d.tb, d.aa, d.ac, d.an, d.ba, d.bc, d.bn⟩
 have hg := HB.o.size
 have hgx := HX.o.1
 have HOB : Hd (OB ((V1.alloc (.cells zUa 103)).setCells V1.heap.size 0 (d.ck 1)) V1.heap.size (cellsU d 1 d.tb.length)) := (OB.new V1 _ 103).put _ 0 _ (show 0 + 28 ≤ 28 by omega) rfl
 have HX3 : Hd (Box ((V1.alloc (.cells zUa 103)).setCells V1.heap.size 0 (d.ck 1)) w.heap.size (cellsU d 1 d.tb.length)) := (HX.o.below (bl_a _)).upper (but_sets V1.heap.size _ 0 _) (by omega)
 have HB3 : Hd (Bl w ((V1.alloc (.cells zUa 103)).setCells V1.heap.size 0 (d.ck 1))) := below_sets _ hg _ _ _ (bl_alloc HB.o _)
 go_upto_region 2 with (first | (with_reducible refine wpq_at ?_; refine ldr rfl rfl rfl Tryz.underlying103 lr rfl ?_; try simp only [Act.put, sA, zA, cA]) | (with_reducible refine wpq_at ?_; refine wpList_store_mid rfl 103 _ _ rfl _ _ _ rfl rfl st (by kernel_rfl) on ?_; try simp only [Act.put]))
 generalize ((V1.alloc (.cells zUa 103)).setCells V1.heap.size 0 (d.ck 1)) = W3 at *
 generalize hgg : V1.heap.size = g at *
 clear hgg lr st on HX HB
 have x0 := HX3.o.2 0 _ rfl
 have s26 := (HOB.o.2 26 _ rfl).1
 have t26 := (HOB.o.2 26 _ rfl).2
 have HR4 : Hd (Box (W3.setCell ⟨g, 26, none⟩ (.slice none 0 0)) g (UN.cells ⟨1, d.p, d.e, d.v, d.ta, d.tc, d.tb, none, 0, 0, d.ba, d.bc, d.bn⟩)) := (HOB.o.set 26 _).box
 have HB4 : Hd (Bl w (W3.setCell ⟨g, 26, none⟩ (.slice none 0 0))) := (HB3.o.setCell (p := ⟨g, 26, none⟩) hg _)
 go_upto_region 17 with fail
 generalize (W3.setCell ⟨g, 26, none⟩ (.slice none 0 0)) = W4 at *
 clear x0 HOB HX3 HB3 s26 t26
 have lr := HR4.o.range 0 (uL 1 d.p d.e.d d.v (.slice d.ta d.tb.length d.tc) (.slice none 0 0) (.slice d.ba d.bn d.bc)) rfl
 go_wp2_with (with_reducible refine wpq_at ?_; refine wpq_stop 103 _ rfl ?_)
 change wpList _ _ _ _ _ _
 refine wpq_load ?hw 103 _ rfl g 0 rfl _ _ lr Tryz.underlying103 rfl (by kernel_rfl) ?_
 case hw => rfl
 simp only [Act.put, sA, zA, cA]
 go_wp2_with fail
 refine (HIB.o _ HB4.o).mono ?_
 rintro e w9 ⟨q9, rfl, hq9, hb9⟩
 have HE := iH (show (q9 = true ↔ NodeU d) from hq9.trans ⟨fun h => ⟨by rw [HKV.o]; decide, by rw [HKV.o]; decide, fun h2 => absurd h2 (by rw [HKV.o]; decide), fun _ => h.1, fun _ => h.2.1, fun h2 => absurd h2 (show ¬ hasN d.k by rw [HKV.o]; unfold hasN; decide), fun _ => h.2.2.1, fun _ => (show d.tb = [] from h.2.2.2.1), by rw [(show d.tb = [] from h.2.2.2.1)]; decide, (fun x hx => by rw [(show d.tb = [] from h.2.2.2.1)] at hx; cases hx), fun h2 => absurd (show hasG d.k by rw [HKV.o]; unfold hasG; decide) h2, fun _ => h.2.2.2.2.2⟩, fun h => EmptyU.mk (h.p0 (by rw [HKV.o]; decide)) (h.e0 (show ¬ hasX d.k by rw [HKV.o]; unfold hasX; decide)) (h.v0 (show ¬ hasN d.k by rw [HKV.o]; unfold hasN; decide)) (h.t0 (by rw [HKV.o]; decide)) rfl (h.b0 (by rw [HKV.o]; decide))⟩)
 have HB9 := iH (bl_trans HB4.o hb9)
 clear hq9 hb9 lr
 go_wp2
 go_ret
 exact Tells.of HE.o HB9.o
end Go.Proofs.YthljoojcpbignaaGreatDoor
