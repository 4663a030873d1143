import Derived.Test.YtoloadogihbdeaaGreatMk35
namespace Go.Proofs.YtoloadogihbdeaaGreat
open Go.RowKit Go.Deep
set_option maxHeartbeats 40000000
set_option maxRecDepth 100000
theorem hasOwnP_0 (d : PN) (kid : Nat → PT) (w : World) (hkv : d.k = 0) (hl : (PT.mk d kid).lies 0 w) : Calls Tryz.prog 125 #[.agg d.ar] w (Tells (HasP d) w) := by
 try unfold PN.ar
 obtain ⟨hp, he, hv, ht, htn, hn, _⟩ := hl
 have KC := fun W => planKidCount_any 0 W
 have e1 : qKids 0 = 1 := by decide
 rw [e1] at KC
 clear e1
 have HKE : Hd (kidsP d.k = 1) := (show _ = _ by rw [hkv]; decide)
 have HKV : Hd (d.k = 0) := hkv
 have HIB : Hd (∀ W, Bl w W → Cl 154 #[.agg #[.int .i64 0, .int .i64 0, .slice none 0 0, .int .i64 0, .slice none 0 0, .int .i64 0, .int .i64 0, .slice none 0 0, .int .i64 0, .slice none 0 0, .int .i64 0, .int .i64 0, .slice none 0 0, .int .i64 0, .slice none 0 0, .int .i64 0, .int .i64 0, .int .i64 d.e.d.k, .int .i64 d.e.d.op, .slice d.e.d.v.a d.e.d.v.len d.e.d.v.cap, .int .i64 d.e.d.t.t.k, .slice d.e.d.t.t.a d.e.d.t.t.len d.e.d.t.t.cap, .int .i64 d.e.d.t.t.n, .int .i64 d.e.d.t.t.s, .slice d.e.d.ka d.e.d.n d.e.d.kc, .slice d.v.a d.v.len d.v.cap, .slice d.ta d.tb.length d.tc, .slice d.ka d.n d.kc]] W (Tells (BareP ⟨0, 0, PB0, d.e, d.v, d.ta, d.tc, d.tb, d.ka, d.kc, d.n⟩) W)) := fun W hb => isBareP_any ⟨0, 0, PB0, d.e, d.v, d.ta, d.tc, d.tb, d.ka, d.kc, d.n⟩ W (PB0_lies W) (ET.lies.upper (uB hb) he) (hv.upper (uB hb))
 have HPO : Hd (∀ W, Bl w W → Cl 151 #[.agg d.p.ar] W (Tells (ptOk d.p) W)) := fun W hb => patOk_any d.p W (hp.upper (uB hb))
 rw [hkv]
 clear hp he hv ht htn hn hkv
 have HX : Hd (Box (w.alloc (.cells (d.ca 0) 46)).drew w.heap.size (cellsT d 0 d.tb.length)) := (Box.new w (d.ca 0) 46 (0, 0)).below bdr
 have HB : Hd (Bl w (w.alloc (.cells (d.ca 0) 46)).drew) := Below.drew (bl_a _)
 go_enter Tryz.func125, Tryz.ntmps125
 go_upto_region 1 with fail
 obtain ⟨q0, hq0⟩ : ∃ q0, q0 = ((d.n : Int) != 1) := ⟨_, rfl⟩
 have HQ0 : Hd (q0 = ((d.n : Int) != 1)) := hq0
 generalize hV : (w.alloc (.cells (d.ca 0) 46)) = V at *
 clear hV
 refine whd (fun w' => w' = V.drew) ?_ fun hHeld => ?_
 · rfl
 refine tkB 0 5 ?_
 refine tkA 1 6 (v := ?v2) ?y2 ?_
 case y2 => (intro w' hSw; subst hSw; have q1 := HX.o.2 27 _ rfl; go_simp; (try with_reducible rfl))
 refine tkB 2 7 ?_
 refine tkB 3 8 ?_
 refine tkA 4 9 (v := ?v5) ?y5 ?_
 case y5 => (intro w' hSw; subst hSw; have q1 := HX.o.2 0 _ rfl; go_simp; (try with_reducible rfl))
 try simp only [Act.put, sA, zA, cA]
 refine rdA 5 fun K hK => ?_
 go_simp
 refine (KC _).mono ?_
 rintro e z1 ⟨rfl, h1⟩
 subst z1
 go_wp2_with fail
 refine hK.out _ _ ?_ fun hHeld => ?_
 · rfl
 clear hK K
 try simp only [Act.put, sA, zA, cA]
 refine takeq (i := 6) 11 (v := .bool q0) rfl rfl (by kernel_rfl) (by kernel_rfl) (by kernel_rfl) (fun _ _ _ h => h) (Or.inl ⟨by rfl, ?y6⟩) hHeld ?r6
 case y6 => (intro w' hSw; rw [hq0]; go_simp; (try with_reducible rfl))
 try simp only [Act.put, sA, zA, cA]
 refine wpAnyH_done (by kernel_rfl) ?_ _
 clear hHeld KC hq0
 generalize V.drew = V1 at *
 cases q0 with
 | true =>
  have HNO : Hd (¬ HasP d) := fun hh => by
   have h1 : (d.n : Int) ≠ 1 := bne_iff_ne.1 HQ0.o.symm
   have h2 := hh.n
   rw [HKE.o] at h2
   omega
  clear HQ0
  go_wp2
  go_ret
  exact Tells.no HNO.o HB.o
 | false =>
  have HK : Hd (d.n = kidsP d.k) := (show _ = _ by
   have h1 : ¬ (d.n : Int) ≠ 1 := fun h => (by have h2 := bne_iff_ne.2 h; rw [← HQ0.o] at h2; cases h2)
   rw [HKE.o]
   omega)
  clear HQ0 HKE
  have lr : V1.rangeAt w.heap.size 0 (d.ck 0) := HX.o.range 0 _ rfl
  have st : (V1.alloc (.cells zNa 46)).there V1.heap.size 0 28 := (OB.new V1 zNa 46).there 0 28 (by simp)
  have on : ((d.ca 0) : Array Value).all (·.oneCell') = true := PN.one ⟨0, d.ord, d.p, d.e, d.v, d.ta, d.tc, d.tb, d.ka, d.kc, d.n⟩
  have hg : w.heap.size ≤ V1.heap.size := HB.o.size
  have hgx : w.heap.size < V1.heap.size := HX.o.1
  have HOB : Hd (OB ((V1.alloc (.cells zNa 46)).setCells V1.heap.size 0 (d.ck 0)) V1.heap.size (cellsT d 0 d.tb.length)) := (OB.new V1 zNa 46).put (cellsT d 0 d.tb.length) 0 (cellsT d 0 d.tb.length) (show 0 + 28 ≤ 28 by omega) rfl
  have HX3 : Hd (Box ((V1.alloc (.cells zNa 46)).setCells V1.heap.size 0 (d.ck 0)) w.heap.size (cellsT d 0 d.tb.length)) := (HX.o.below (bl_a _)).upper (but_sets V1.heap.size (cellsT d 0 d.tb.length) 0 _) (by omega)
  have HB3 : Hd (Bl w ((V1.alloc (.cells zNa 46)).setCells V1.heap.size 0 (d.ck 0))) := below_sets _ hg _ _ _ (bl_alloc HB.o _)
  go_upto_region 4 with (first | (with_reducible refine wpq_at ?_; refine ldr rfl rfl rfl Tryz.underlying46 lr rfl ?_; try simp only [Act.put, sA, zA, cA]) | (with_reducible refine wpq_at ?_; refine wpList_store_mid rfl 46 _ _ rfl _ _ _ rfl rfl st (by kernel_rfl) on ?_; try simp only [Act.put]))
  generalize ((V1.alloc (.cells zNa 46)).setCells V1.heap.size 0 (d.ck 0)) = W3 at *
  generalize hgg : V1.heap.size = g at *
  clear hgg lr st on HX HB
  have x0 := HX3.o.2 0 _ rfl
  have x1 := HX3.o.2 1 _ rfl
  go_wp2_with fail
  refine (isWithin_tells d.ord 0 5 W3).mono ?_
  rintro e w4 ⟨q4, rfl, hq4, hb4⟩
  have HB4' : Hd (Bl w w4) := bl_trans HB3.o hb4
  have HO4 : Hd (OB w4 g (cellsT d 0 d.tb.length)) := HOB.o.below hb4
  have HX4 : Hd (Box w4 w.heap.size (cellsT d 0 d.tb.length)) := HX3.o.below hb4
  clear hb4 HOB HX3 HB3 x1 x0
  cases q4
  · have HNO : Hd (¬ HasP d) := fun hh => by have h := hq4.2 ⟨hh.o0, hh.o5⟩; cases h
    clear hq4
    have s1 := (HO4.o.2 1 _ rfl).1
    have t1 := (HO4.o.2 1 _ rfl).2
    have st : (w4.setCell ⟨g, 1, none⟩ (.int .i64 0)).there g 2 15 := (HO4.o.set 1 (.int .i64 0)).there 2 15 (show 2 + 15 ≤ 28 by omega)
    have HR4 : Hd (Box ((w4.setCell ⟨g, 1, none⟩ (.int .i64 0)).setCells g 2 zPl) g (PN.cells ⟨0, 0, PB0, d.e, d.v, d.ta, d.tc, d.tb, d.ka, d.kc, d.n⟩)) := ((HO4.o.set 1 (.int .i64 0)).put zPl 2 (PN.cells ⟨0, 0, PB0, d.e, d.v, d.ta, d.tc, d.tb, d.ka, d.kc, d.n⟩) (show 2 + 15 ≤ 28 by omega) rfl).box
    have HB4 : Hd (Bl w ((w4.setCell ⟨g, 1, none⟩ (.int .i64 0)).setCells g 2 zPl)) := below_sets _ hg _ _ _ (HB4'.o.setCell (p := ⟨g, 1, none⟩) hg _)
    go_upto_region 19 with (first | (with_reducible refine wpq_at ?_; refine wpList_store_mid rfl 39 _ _ rfl _ _ _ rfl rfl st (by kernel_rfl) oneP ?_; try simp only [Act.put]))
    generalize ((w4.setCell ⟨g, 1, none⟩ (.int .i64 0)).setCells g 2 zPl) = W4 at *
    clear s1 t1 st
    go_wp2
    go_ret
    exact Tells.no HNO.o HB4.o
  have HOR : Hd (0 ≤ d.ord ∧ d.ord ≤ 5) := hq4.1 rfl
  clear hq4
  have lp := HX4.o.range 2 d.p.cl rfl
  go_wp2_with (with_reducible refine wpq_at ?_; refine wpq_stop 39 _ rfl ?_)
  change wpList _ _ _ _ _ _
  refine wpq_load ?hw 39 _ rfl w.heap.size 2 rfl d.p.cl _ lp Tryz.underlying39 rfl (by kernel_rfl) ?_
  case hw => rfl
  simp only [Act.put, sA, zA, cA]
  go_wp2_with fail
  refine (HPO.o _ HB4'.o).mono ?_
  rintro e w5 ⟨q5, rfl, hq5, hb5⟩
  have HB5 : Hd (Bl w w5) := bl_trans HB4'.o hb5
  have HO5 : Hd (OB w5 g (cellsT d 0 d.tb.length)) := HO4.o.below hb5
  clear hb5 lp HO4 HX4 HB4' HPO
  have s1 := (HO5.o.2 1 _ rfl).1
  have t1 := (HO5.o.2 1 _ rfl).2
  have st : (w5.setCell ⟨g, 1, none⟩ (.int .i64 0)).there g 2 15 := (HO5.o.set 1 (.int .i64 0)).there 2 15 (show 2 + 15 ≤ 28 by omega)
  have HR4 : Hd (Box ((w5.setCell ⟨g, 1, none⟩ (.int .i64 0)).setCells g 2 zPl) g (PN.cells ⟨0, 0, PB0, d.e, d.v, d.ta, d.tc, d.tb, d.ka, d.kc, d.n⟩)) := ((HO5.o.set 1 (.int .i64 0)).put zPl 2 (PN.cells ⟨0, 0, PB0, d.e, d.v, d.ta, d.tc, d.tb, d.ka, d.kc, d.n⟩) (show 2 + 15 ≤ 28 by omega) rfl).box
  have HB4 : Hd (Bl w ((w5.setCell ⟨g, 1, none⟩ (.int .i64 0)).setCells g 2 zPl)) := below_sets _ hg _ _ _ (HB5.o.setCell (p := ⟨g, 1, none⟩) hg _)
  go_upto_region 19 with (first | (with_reducible refine wpq_at ?_; refine wpList_store_mid rfl 39 _ _ rfl _ _ _ rfl rfl st (by kernel_rfl) oneP ?_; try simp only [Act.put]))
  generalize ((w5.setCell ⟨g, 1, none⟩ (.int .i64 0)).setCells g 2 zPl) = W4 at *
  clear s1 t1 st
  cases q5
  · have HNO : Hd (¬ HasP d) := fun hh => by have h := hq5.2 (hh.p1 HKV.o); cases h
    clear hq5
    go_wp2
    go_ret
    exact Tells.no HNO.o HB4.o
  have HPK : Hd (ptOk d.p) := hq5.1 rfl
  clear hq5
  have lr := HR4.o.range 0 [.int .i64 0, .int .i64 0, .slice none 0 0, .int .i64 0, .slice none 0 0, .int .i64 0, .int .i64 0, .slice none 0 0, .int .i64 0, .slice none 0 0, .int .i64 0, .int .i64 0, .slice none 0 0, .int .i64 0, .slice none 0 0, .int .i64 0, .int .i64 0, .int .i64 d.e.d.k, .int .i64 d.e.d.op, .slice d.e.d.v.a d.e.d.v.len d.e.d.v.cap, .int .i64 d.e.d.t.t.k, .slice d.e.d.t.t.a d.e.d.t.t.len d.e.d.t.t.cap, .int .i64 d.e.d.t.t.n, .int .i64 d.e.d.t.t.s, .slice d.e.d.ka d.e.d.n d.e.d.kc, .slice d.v.a d.v.len d.v.cap, .slice d.ta d.tb.length d.tc, .slice d.ka d.n d.kc] rfl
  go_wp2_with (with_reducible refine wpq_at ?_; refine wpq_stop 46 _ rfl ?_)
  change wpList _ _ _ _ _ _
  refine wpq_load ?hw 46 _ rfl g 0 rfl [.int .i64 0, .int .i64 0, .slice none 0 0, .int .i64 0, .slice none 0 0, .int .i64 0, .int .i64 0, .slice none 0 0, .int .i64 0, .slice none 0 0, .int .i64 0, .int .i64 0, .slice none 0 0, .int .i64 0, .slice none 0 0, .int .i64 0, .int .i64 0, .int .i64 d.e.d.k, .int .i64 d.e.d.op, .slice d.e.d.v.a d.e.d.v.len d.e.d.v.cap, .int .i64 d.e.d.t.t.k, .slice d.e.d.t.t.a d.e.d.t.t.len d.e.d.t.t.cap, .int .i64 d.e.d.t.t.n, .int .i64 d.e.d.t.t.s, .slice d.e.d.ka d.e.d.n d.e.d.kc, .slice d.v.a d.v.len d.v.cap, .slice d.ta d.tb.length d.tc, .slice d.ka d.n d.kc] _ lr Tryz.underlying46 rfl (by kernel_rfl) ?_
  case hw => rfl
  simp only [Act.put, sA, zA, cA]
  go_wp2_with fail
  refine (HIB.o _ HB4.o).mono ?_
  rintro e w9 ⟨q9, rfl, hq9, hb9⟩
  have HE : Hd (q9 = true ↔ HasP d) := (show (q9 = true ↔ HasP d) from hq9.trans ⟨fun h => ⟨by rw [HKV.o]; decide, by rw [HKV.o]; decide, HOR.o.1, HOR.o.2, HK.o, fun _ => HPK.o, fun h2 => absurd HKV.o h2, fun h2 => absurd HKV.o h2, fun _ => (show d.tb = [] from h.2.2.2.2), by rw [(show d.tb = [] from h.2.2.2.2)]; decide, fun _ => h.2.2.1, fun h2 => absurd h2 (show ¬ hasV d.k by rw [HKV.o]; unfold hasV; decide), fun _ => h.2.2.2.1, fun x hx => by rw [(show d.tb = [] from h.2.2.2.2)] at hx; cases hx⟩, fun h => BareP.mk rfl PB0_zero (h.e0 (show ¬ hasE d.k by rw [HKV.o]; unfold hasE; decide)) (h.v0 (show ¬ hasV d.k by rw [HKV.o]; unfold hasV; decide)) (h.t0 (by rw [HKV.o]; decide))⟩)
  have HB9 : Hd (Bl w w9) := bl_trans HB4.o hb9
  clear hq9 hb9 lr
  go_wp2
  go_ret
  exact Tells.of HE.o HB9.o
end Go.Proofs.YtoloadogihbdeaaGreat
