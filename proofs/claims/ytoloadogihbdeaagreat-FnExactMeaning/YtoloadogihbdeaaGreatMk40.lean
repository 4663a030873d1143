import Derived.Test.YtoloadogihbdeaaGreatMk35
namespace Go.Proofs.YtoloadogihbdeaaGreat
open Go.RowKit Go.Deep
set_option maxHeartbeats 40000000
set_option maxRecDepth 100000
theorem hasOwnP_2 (d : PN) (kid : Nat → PT) (w : World) (hkv : d.k = 2) (hl : (PT.mk d kid).lies 0 w) : Calls Tryz.prog 125 #[.agg d.ar] w (Tells (HasP d) w) := by
 try unfold PN.ar
 obtain ⟨hp, he, hv, ht, htn, hn, _⟩ := hl
 have KC := fun W => planKidCount_any 2 W
 have e1 : qKids 2 = 2 := by decide
 rw [e1] at KC
 clear e1
 have HKE : Hd (kidsP d.k = 2) := (show _ = _ by rw [hkv]; decide)
 have HKV : Hd (d.k = 2) := hkv
 have HIB : Hd (∀ W, Bl w W → Cl 154 #[.agg #[.int .i64 2, .int .i64 d.ord, .slice d.p.s.v.a d.p.s.v.len d.p.s.v.cap, .int .i64 d.p.s.t.t.k, .slice d.p.s.t.t.a d.p.s.t.t.len d.p.s.t.t.cap, .int .i64 d.p.s.t.t.n, .int .i64 d.p.s.t.t.s, .slice d.p.p.v.a d.p.p.v.len d.p.p.v.cap, .int .i64 d.p.p.t.t.k, .slice d.p.p.t.t.a d.p.p.t.t.len d.p.p.t.t.cap, .int .i64 d.p.p.t.t.n, .int .i64 d.p.p.t.t.s, .slice d.p.o.v.a d.p.o.v.len d.p.o.v.cap, .int .i64 d.p.o.t.t.k, .slice d.p.o.t.t.a d.p.o.t.t.len d.p.o.t.t.cap, .int .i64 d.p.o.t.t.n, .int .i64 d.p.o.t.t.s, .int .i64 0, .int .i64 0, .slice none 0 0, .int .i64 0, .slice none 0 0, .int .i64 0, .int .i64 0, .slice none 0 0, .slice d.v.a d.v.len d.v.cap, .slice d.ta d.tb.length d.tc, .slice d.ka d.n d.kc]] W (Tells (BareP ⟨2, d.ord, d.p, ET0, d.v, d.ta, d.tc, d.tb, d.ka, d.kc, d.n⟩) W)) := fun W hb => isBareP_any ⟨2, d.ord, d.p, ET0, d.v, d.ta, d.tc, d.tb, d.ka, d.kc, d.n⟩ W (hp.upper (uB hb)) (ET0_lies W) (hv.upper (uB hb))
 rw [hkv]
 clear hp he hv ht htn hn hkv
 have HX : Hd (Box (w.alloc (.cells (d.ca 2) 46)).drew w.heap.size (cellsT d 2 d.tb.length)) := (Box.new w (d.ca 2) 46 (0, 0)).below bdr
 have HB : Hd (Bl w (w.alloc (.cells (d.ca 2) 46)).drew) := Below.drew (bl_a _)
 go_enter Tryz.func125, Tryz.ntmps125
 go_upto_region 1 with fail
 obtain ⟨q0, hq0⟩ : ∃ q0, q0 = ((d.n : Int) != 2) := ⟨_, rfl⟩
 have HQ0 : Hd (q0 = ((d.n : Int) != 2)) := hq0
 generalize hV : (w.alloc (.cells (d.ca 2) 46)) = V at *
 clear hV
 refine whd (fun w' => w' = V.drew) ?_ fun hHeld => ?_
 · rfl
 refine tkB 0 5 ?_
 refine tkA 1 6 (v := ?v14) ?y14 ?_
 case y14 => (intro w' hSw; subst hSw; have q1 := HX.o.2 27 _ rfl; go_simp; (try with_reducible rfl))
 refine tkB 2 7 ?_
 refine tkB 3 8 ?_
 refine tkA 4 9 (v := ?v17) ?y17 ?_
 case y17 => (intro w' hSw; subst hSw; have q1 := HX.o.2 0 _ rfl; go_simp; (try with_reducible rfl))
 try simp only [Act.put, sA, zA, cA]
 refine rdA 5 fun K hK => ?_
 go_simp
 refine (KC _).mono ?_
 rintro e z1 ⟨rfl, h1⟩
 subst z1
 go_wp2_with fail
 refine hK.out _ _ ?_ fun hHeld => ?_
 · rfl
 clear hK K
 try simp only [Act.put, sA, zA, cA]
 refine takeq (i := 6) 11 (v := .bool q0) rfl rfl (by kernel_rfl) (by kernel_rfl) (by kernel_rfl) (fun _ _ _ h => h) (Or.inl ⟨by rfl, ?y18⟩) hHeld ?r18
 case y18 => (intro w' hSw; rw [hq0]; go_simp; (try with_reducible rfl))
 try simp only [Act.put, sA, zA, cA]
 refine wpAnyH_done (by kernel_rfl) ?_ _
 clear hHeld KC hq0
 generalize V.drew = V1 at *
 cases q0 with
 | true =>
  have HNO : Hd (¬ HasP d) := fun hh => by
   have h1 : (d.n : Int) ≠ 2 := bne_iff_ne.1 HQ0.o.symm
   have h2 := hh.n
   rw [HKE.o] at h2
   omega
  clear HQ0
  go_wp2
  go_ret
  exact Tells.no HNO.o HB.o
 | false =>
  have HK : Hd (d.n = kidsP d.k) := (show _ = _ by
   have h1 : ¬ (d.n : Int) ≠ 2 := fun h => (by have h2 := bne_iff_ne.2 h; rw [← HQ0.o] at h2; cases h2)
   rw [HKE.o]
   omega)
  clear HQ0 HKE
  have lr : V1.rangeAt w.heap.size 0 (d.ck 2) := HX.o.range 0 _ rfl
  have st : (V1.alloc (.cells zNa 46)).there V1.heap.size 0 28 := (OB.new V1 zNa 46).there 0 28 (by simp)
  have on : ((d.ca 2) : Array Value).all (·.oneCell') = true := PN.one ⟨2, d.ord, d.p, d.e, d.v, d.ta, d.tc, d.tb, d.ka, d.kc, d.n⟩
  have hg : w.heap.size ≤ V1.heap.size := HB.o.size
  have hgx : w.heap.size < V1.heap.size := HX.o.1
  have HOB : Hd (OB ((V1.alloc (.cells zNa 46)).setCells V1.heap.size 0 (d.ck 2)) V1.heap.size (cellsT d 2 d.tb.length)) := (OB.new V1 zNa 46).put (cellsT d 2 d.tb.length) 0 (cellsT d 2 d.tb.length) (show 0 + 28 ≤ 28 by omega) rfl
  have HX3 : Hd (Box ((V1.alloc (.cells zNa 46)).setCells V1.heap.size 0 (d.ck 2)) w.heap.size (cellsT d 2 d.tb.length)) := (HX.o.below (bl_a _)).upper (but_sets V1.heap.size (cellsT d 2 d.tb.length) 0 _) (by omega)
  have HB3 : Hd (Bl w ((V1.alloc (.cells zNa 46)).setCells V1.heap.size 0 (d.ck 2))) := below_sets _ hg _ _ _ (bl_alloc HB.o _)
  go_upto_region 4 with (first | (with_reducible refine wpq_at ?_; refine ldr rfl rfl rfl Tryz.underlying46 lr rfl ?_; try simp only [Act.put, sA, zA, cA]) | (with_reducible refine wpq_at ?_; refine wpList_store_mid rfl 46 _ _ rfl _ _ _ rfl rfl st (by kernel_rfl) on ?_; try simp only [Act.put]))
  generalize ((V1.alloc (.cells zNa 46)).setCells V1.heap.size 0 (d.ck 2)) = W3 at *
  generalize hgg : V1.heap.size = g at *
  clear hgg lr st on HX HB
  have x0 := HX3.o.2 0 _ rfl
  have st : W3.there g 17 8 := HOB.o.there 17 8 (show 17 + 8 ≤ 28 by omega)
  have HR4 : Hd (Box (W3.setCells g 17 zEl) g (PN.cells ⟨2, d.ord, d.p, ET0, d.v, d.ta, d.tc, d.tb, d.ka, d.kc, d.n⟩)) := (HOB.o.put zEl 17 (PN.cells ⟨2, d.ord, d.p, ET0, d.v, d.ta, d.tc, d.tb, d.ka, d.kc, d.n⟩) (show 17 + 8 ≤ 28 by omega) rfl).box
  have HB4 : Hd (Bl w (W3.setCells g 17 zEl)) := below_sets _ hg _ _ _ HB3.o
  go_upto_region 19 with (first | (with_reducible refine wpq_at ?_; refine wpList_store_mid rfl 42 _ _ rfl _ _ _ rfl rfl st (by kernel_rfl) oneE ?_; try simp only [Act.put]))
  generalize (W3.setCells g 17 zEl) = W4 at *
  clear st x0 HOB HX3 HB3
  have lr := HR4.o.range 0 [.int .i64 2, .int .i64 d.ord, .slice d.p.s.v.a d.p.s.v.len d.p.s.v.cap, .int .i64 d.p.s.t.t.k, .slice d.p.s.t.t.a d.p.s.t.t.len d.p.s.t.t.cap, .int .i64 d.p.s.t.t.n, .int .i64 d.p.s.t.t.s, .slice d.p.p.v.a d.p.p.v.len d.p.p.v.cap, .int .i64 d.p.p.t.t.k, .slice d.p.p.t.t.a d.p.p.t.t.len d.p.p.t.t.cap, .int .i64 d.p.p.t.t.n, .int .i64 d.p.p.t.t.s, .slice d.p.o.v.a d.p.o.v.len d.p.o.v.cap, .int .i64 d.p.o.t.t.k, .slice d.p.o.t.t.a d.p.o.t.t.len d.p.o.t.t.cap, .int .i64 d.p.o.t.t.n, .int .i64 d.p.o.t.t.s, .int .i64 0, .int .i64 0, .slice none 0 0, .int .i64 0, .slice none 0 0, .int .i64 0, .int .i64 0, .slice none 0 0, .slice d.v.a d.v.len d.v.cap, .slice d.ta d.tb.length d.tc, .slice d.ka d.n d.kc] rfl
  go_wp2_with (with_reducible refine wpq_at ?_; refine wpq_stop 46 _ rfl ?_)
  change wpList _ _ _ _ _ _
  refine wpq_load ?hw 46 _ rfl g 0 rfl [.int .i64 2, .int .i64 d.ord, .slice d.p.s.v.a d.p.s.v.len d.p.s.v.cap, .int .i64 d.p.s.t.t.k, .slice d.p.s.t.t.a d.p.s.t.t.len d.p.s.t.t.cap, .int .i64 d.p.s.t.t.n, .int .i64 d.p.s.t.t.s, .slice d.p.p.v.a d.p.p.v.len d.p.p.v.cap, .int .i64 d.p.p.t.t.k, .slice d.p.p.t.t.a d.p.p.t.t.len d.p.p.t.t.cap, .int .i64 d.p.p.t.t.n, .int .i64 d.p.p.t.t.s, .slice d.p.o.v.a d.p.o.v.len d.p.o.v.cap, .int .i64 d.p.o.t.t.k, .slice d.p.o.t.t.a d.p.o.t.t.len d.p.o.t.t.cap, .int .i64 d.p.o.t.t.n, .int .i64 d.p.o.t.t.s, .int .i64 0, .int .i64 0, .slice none 0 0, .int .i64 0, .slice none 0 0, .int .i64 0, .int .i64 0, .slice none 0 0, .slice d.v.a d.v.len d.v.cap, .slice d.ta d.tb.length d.tc, .slice d.ka d.n d.kc] _ lr Tryz.underlying46 rfl (by kernel_rfl) ?_
  case hw => rfl
  simp only [Act.put, sA, zA, cA]
  go_wp2_with fail
  refine (HIB.o _ HB4.o).mono ?_
  rintro e w9 ⟨q9, rfl, hq9, hb9⟩
  have HE : Hd (q9 = true ↔ HasP d) := (show (q9 = true ↔ HasP d) from hq9.trans ⟨fun h => ⟨by rw [HKV.o]; decide, by rw [HKV.o]; decide, by rw [(show d.ord = 0 from h.1)]; decide, by rw [(show d.ord = 0 from h.1)]; decide, HK.o, fun h2 => absurd h2 (by rw [HKV.o]; decide), fun _ => h.2.1, fun _ => (show d.ord = 0 from h.1), fun _ => (show d.tb = [] from h.2.2.2.2), by rw [(show d.tb = [] from h.2.2.2.2)]; decide, fun h2 => absurd (show hasE d.k by rw [HKV.o]; unfold hasE; decide) h2, fun h2 => absurd h2 (show ¬ hasV d.k by rw [HKV.o]; unfold hasV; decide), fun _ => h.2.2.2.1, fun x hx => by rw [(show d.tb = [] from h.2.2.2.2)] at hx; cases hx⟩, fun h => BareP.mk (h.oz (by rw [HKV.o]; decide)) (h.p0 (by rw [HKV.o]; decide)) ET0_zero (h.v0 (show ¬ hasV d.k by rw [HKV.o]; unfold hasV; decide)) (h.t0 (by rw [HKV.o]; decide))⟩)
  have HB9 : Hd (Bl w w9) := bl_trans HB4.o hb9
  clear hq9 hb9 lr
  go_wp2
  go_ret
  exact Tells.of HE.o HB9.o
end Go.Proofs.YtoloadogihbdeaaGreat
