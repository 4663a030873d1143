import Derived.Test.YtoloadogihbdeaaGreatMk12
namespace Go.Proofs.YtoloadogihbdeaaGreat
open Go.RowKit Go.Deep
set_option maxHeartbeats 40000000
set_option maxRecDepth 100000
theorem hasOwnP_any (d : PN) (kid : Nat → PT) (w : World) (hl : (PT.mk d kid).lies 0 w) : Calls Tryz.prog 125 #[.agg d.ar] w (Tells (HasP d) w) := by
 obtain ⟨hp, he, hv, ht, htn, hn, _⟩ := hl;have KC := fun W => planKidCount_any d.k W;have HQK : Hd (0 ≤ d.k → d.k ≤ 8 → (kidsP d.k : Int) = qKids d.k) := fun h1 h2 => by
  unfold kidsP qKids;repeat' split
  all_goals omega
 obtain ⟨c, hc⟩ : ∃ c, c = qKids d.k := ⟨_, rfl⟩;rw [← hc] at KC HQK;have HLP := iH hp;have HLE := iH he;have HLV := iH hv;have HLT := iH ht;have HLN := iH htn;clear hp he hv ht htn hn hc;have HX : Hd (Box (w.alloc (.cells d.ar 46)).drew w.heap.size d.cells) := (Box.new w d.ar 46 (0, 0)).below bdr;have HB : Hd (Bl w (w.alloc (.cells d.ar 46)).drew) := Below.drew (bl_a _);go_enter Tryz.func125, Tryz.ntmps125;go_upto_region 1 with fail
 obtain ⟨q0, hq0⟩ : ∃ q0, q0 = ((d.n : Int) != c) := ⟨_, rfl⟩;have HQ0 : Hd (q0 = ((d.n : Int) != c)) := hq0;generalize hV : (w.alloc (.cells d.ar 46)) = V at *;clear hV;refine whd (fun w' => w' = V.drew) ?_ fun hHeld => ?_
 · rfl
 refine tkB 0 5 ?_;refine tkA 1 6 (v := ?v2) ?y2 ?_
 case y2 => (intro w' hSw; subst hSw; have q1 := HX.o.2 27 _ rfl; go_simp; (try with_reducible rfl))
 refine tkB 2 7 ?_;refine tkB 3 8 ?_;refine tkA 4 9 (v := ?v5) ?y5 ?_
 case y5 => (intro w' hSw; subst hSw; have q1 := HX.o.2 0 _ rfl; go_simp; (try with_reducible rfl))
 try simp only [Act.put, sA, zA, cA]
 refine rdA 5 fun K hK => ?_;go_simp;refine (KC _).mono ?_;rintro e z1 ⟨rfl, h1⟩;subst z1;go_wp2_with fail
 refine rhK hK rfl fun hHeld => ?_;clear hK K;refine takeq (i := 6) 11 (v := .bool q0) rfl rfl (by kernel_rfl) (by kernel_rfl) (by kernel_rfl) (fun _ _ _ h => h) (Or.inl ⟨by rfl, ?y6⟩) hHeld ?r6
 case y6 => (intro w' hSw; rw [hq0]; go_simp; (try with_reducible rfl))
 try simp only [Act.put, sA, zA, cA]
 refine wpAnyH_done (by kernel_rfl) ?_ _;clear hHeld KC hq0;generalize V.drew = V1 at *;cases q0;rotate_left
 · have HNO : Hd (¬ HasP d) := fun hh => by
    have h1 : (d.n : Int) ≠ c := bne_iff_ne.1 HQ0.o.symm;have h2 := hh.n;have h3 := HQK.o hh.k0 hh.k8;omega
   clear HQ0;go_wp2;go_ret;exact Tells.no HNO.o HB.o
 have HK : Hd ((d.n : Int) = c) := (show _ = _ by
  have h1 : ¬ (d.n : Int) ≠ c := fun h => (by have h2 := bne_iff_ne.2 h; rw [← HQ0.o] at h2; cases h2)
  omega)
 clear HQ0;have lr : V1.rangeAt w.heap.size 0 d.cl := HX.o.range 0 _ rfl;have st : (V1.alloc (.cells zNa 46)).there V1.heap.size 0 28 := (OB.new V1 zNa 46).there 0 28 (by simp);have on : (d.ar : Array Value).all (·.oneCell') = true := PN.one d;have hg : w.heap.size ≤ V1.heap.size := HB.o.size;have hgx : w.heap.size < V1.heap.size := HX.o.1;have HOB : Hd (OB ((V1.alloc (.cells zNa 46)).setCells V1.heap.size 0 d.cl) V1.heap.size d.cells) := (OB.new V1 zNa 46).put d.cells 0 d.cells (show 0 + 28 ≤ 28 by omega) rfl;have HX3 : Hd (Box ((V1.alloc (.cells zNa 46)).setCells V1.heap.size 0 d.cl) w.heap.size d.cells) := (HX.o.below (bl_a _)).upper (but_sets V1.heap.size d.cells 0 _) (by omega);have HB3 : Hd (Bl w ((V1.alloc (.cells zNa 46)).setCells V1.heap.size 0 d.cl)) := below_sets _ hg _ _ _ (bl_alloc HB.o _);go_upto_region 4 with (first | (with_reducible refine wpq_at ?_; refine ldr rfl rfl rfl Tryz.underlying46 lr rfl ?_; try simp only [Act.put, sA, zA, cA]) | (with_reducible refine wpq_at ?_; refine wpList_store_mid rfl 46 _ _ rfl _ _ _ rfl rfl st (by kernel_rfl) on ?_; try simp only [Act.put]))
 generalize (V1.alloc _).setCells _ _ _ = W3 at *;generalize hgg : V1.heap.size = g at *;clear hgg lr st on HX HB;have x0 := HX3.o.2 0 _ rfl;by_cases hin : 0 ≤ d.k ∧ d.k ≤ 8;rotate_left
 · have HNO : Hd (¬ HasP d) := fun hh => hin ⟨hh.k0, hh.k8⟩
   have m0 : (d.k == 0) = false := by simp; omega
   have m1 : (d.k == 1) = false := by simp; omega
   have m2 : (d.k == 2) = false := by simp; omega
   have m3 : (d.k == 3) = false := by simp; omega
   have m4 : (d.k == 4) = false := by simp; omega
   have m5 : (d.k == 5) = false := by simp; omega
   have m6 : (d.k == 6) = false := by simp; omega
   have m7 : (d.k == 7) = false := by simp; omega
   have m8 : (d.k == 8) = false := by simp; omega
   clear hin;go_wp2;go_ret;exact Tells.no HNO.o HB3.o
 have HKN : Hd (d.n = kidsP d.k) := (show _ = _ by have h1 := HQK.o hin.1 hin.2; have h2 := HK.o; omega);have HK8 := iH hin;rcases (show d.k = 0 ∨ d.k = 1 ∨ d.k = 2 ∨ d.k = 3 ∨ d.k = 4 ∨ d.k = 5 ∨ d.k = 6 ∨ d.k = 7 ∨ d.k = 8 by omega) with h | h | h | h | h | h | h | h | h;all_goals clear hin
 all_goals
  have HKV := iH h;clear h;rw [HKV.o] at x0;first
  | have HG : Hd (d.k = 0) := HKV
    clear HG;have HE1 : Hd (¬ hasE d.k) := (show ¬ hasE d.k by rw [HKV.o]; unfold hasE; decide);have HV1 : Hd (¬ hasV d.k) := (show ¬ hasV d.k by rw [HKV.o]; unfold hasV; decide);have HIB := iH fun W (hb : Bl w W) => isBareP_any ⟨d.k, 0, PB0, d.e, d.v, d.ta, d.tc, d.tb, d.ka, d.kc, d.n⟩ W (PB0_lies W) (ET.lies.upper (uB hb) HLE.o) (HLV.o.upper (uB hb));have x1 := HX3.o.2 1 _ rfl;go_wp2_with fail
    refine (isWithin_tells d.ord 0 5 W3).mono ?_;rintro e w4 ⟨q4, rfl, hq4, hb4⟩;have HB4' := iH (bl_trans HB3.o hb4);have HO4 := iH (HOB.o.below hb4);have HX4 := iH (HX3.o.below hb4);clear hb4 HOB HX3 HB3 x1 x0;cases q4
    · have HNO : Hd (¬ HasP d) := fun hh => by have h := hq4.2 ⟨hh.o0, hh.o5⟩; cases h
      clear hq4;have s1 := (HO4.o.2 1 _ rfl).1;have t1 := (HO4.o.2 1 _ rfl).2;have st : (w4.setCell ⟨g, 1, none⟩ (.int .i64 0)).there g 2 15 := (HO4.o.set 1 (.int .i64 0)).there 2 15 (show 2 + 15 ≤ 28 by omega);have HR4 : Hd (Box ((w4.setCell ⟨g, 1, none⟩ (.int .i64 0)).setCells g 2 zPl) g (PN.cells ⟨d.k, 0, PB0, d.e, d.v, d.ta, d.tc, d.tb, d.ka, d.kc, d.n⟩)) := ((HO4.o.set 1 (.int .i64 0)).put zPl 2 (PN.cells ⟨d.k, 0, PB0, d.e, d.v, d.ta, d.tc, d.tb, d.ka, d.kc, d.n⟩) (show 2 + 15 ≤ 28 by omega) rfl).box;have HB4 : Hd (Bl w ((w4.setCell ⟨g, 1, none⟩ (.int .i64 0)).setCells g 2 zPl)) := below_sets _ hg _ _ _ (HB4'.o.setCell (p := ⟨g, 1, none⟩) hg _);go_upto_region 19 with (first | (with_reducible refine wpq_at ?_; refine wpList_store_mid rfl 39 _ _ rfl _ _ _ rfl rfl st (by kernel_rfl) oneP ?_; try simp only [Act.put]))
      generalize (w4.setCell _ _).setCells _ _ _ = W4 at *;clear s1 t1 st;go_wp2;go_ret;exact Tells.no HNO.o HB4.o
    have HOR := iH (hq4.1 rfl);clear hq4;have lp := HX4.o.range 2 d.p.cl rfl;go_wp2_with (with_reducible refine wpq_at ?_; refine wpq_stop 39 _ rfl ?_)
    change wpList _ _ _ _ _ _;refine wpq_load ?hw 39 _ rfl w.heap.size 2 rfl d.p.cl _ lp Tryz.underlying39 rfl (by kernel_rfl) ?_
    case hw => rfl
    simp only [Act.put, sA, zA, cA];go_wp2_with fail
    refine (patOk_any d.p _ (HLP.o.upper (uB HB4'.o))).mono ?_;rintro e w5 ⟨q5, rfl, hq5, hb5⟩;have HB5 := iH (bl_trans HB4'.o hb5);have HO5 := iH (HO4.o.below hb5);clear hb5 lp HO4 HX4 HB4';have s1 := (HO5.o.2 1 _ rfl).1;have t1 := (HO5.o.2 1 _ rfl).2;have st : (w5.setCell ⟨g, 1, none⟩ (.int .i64 0)).there g 2 15 := (HO5.o.set 1 (.int .i64 0)).there 2 15 (show 2 + 15 ≤ 28 by omega);have HR4 : Hd (Box ((w5.setCell ⟨g, 1, none⟩ (.int .i64 0)).setCells g 2 zPl) g (PN.cells ⟨d.k, 0, PB0, d.e, d.v, d.ta, d.tc, d.tb, d.ka, d.kc, d.n⟩)) := ((HO5.o.set 1 (.int .i64 0)).put zPl 2 (PN.cells ⟨d.k, 0, PB0, d.e, d.v, d.ta, d.tc, d.tb, d.ka, d.kc, d.n⟩) (show 2 + 15 ≤ 28 by omega) rfl).box;have HB4 : Hd (Bl w ((w5.setCell ⟨g, 1, none⟩ (.int .i64 0)).setCells g 2 zPl)) := below_sets _ hg _ _ _ (HB5.o.setCell (p := ⟨g, 1, none⟩) hg _);go_upto_region 19 with (first | (with_reducible refine wpq_at ?_; refine wpList_store_mid rfl 39 _ _ rfl _ _ _ rfl rfl st (by kernel_rfl) oneP ?_; try simp only [Act.put]))
    generalize (w5.setCell _ _).setCells _ _ _ = W4 at *;clear s1 t1 st;cases q5
    · have HNO : Hd (¬ HasP d) := fun hh => by have h := hq5.2 (hh.p1 HKV.o); cases h
      clear hq5;go_wp2;go_ret;exact Tells.no HNO.o HB4.o
    have HPK := iH (hq5.1 rfl);clear hq5;have lr := HR4.o.range 0 (wEL d.k 0 d.e.d (.slice d.v.a d.v.len d.v.cap) (.slice d.ta d.tb.length d.tc) (.slice d.ka d.n d.kc)) rfl;go_wp2_with (with_reducible refine wpq_at ?_; refine wpq_stop 46 _ rfl ?_)
    change wpList _ _ _ _ _ _;refine wpq_load ?hw 46 _ rfl g 0 rfl (wEL d.k 0 d.e.d (.slice d.v.a d.v.len d.v.cap) (.slice d.ta d.tb.length d.tc) (.slice d.ka d.n d.kc)) _ lr Tryz.underlying46 rfl (by kernel_rfl) ?_
    case hw => rfl
    simp only [Act.put, sA, zA, cA];go_wp2_with fail
    refine (HIB.o _ HB4.o).mono ?_;rintro e w9 ⟨q9, rfl, hq9, hb9⟩;have HE : Hd (q9 = true ↔ HasP d) := (show (q9 = true ↔ HasP d) from hq9.trans ⟨fun h => ⟨HK8.o.1, HK8.o.2, HOR.o.1, HOR.o.2, HKN.o, fun _ => HPK.o, fun h2 => absurd HKV.o h2, fun h2 => absurd HKV.o h2, fun _ => (show d.tb = [] from h.2.2.2.2), by rw [(show d.tb = [] from h.2.2.2.2)]; decide, fun _ => h.2.2.1, fun h2 => absurd h2 HV1.o, fun _ => h.2.2.2.1, fun x hx => by rw [(show d.tb = [] from h.2.2.2.2)] at hx; cases hx⟩, fun h => BareP.mk rfl PB0_zero (h.e0 HE1.o) (h.v0 HV1.o) (h.t0 (by rw [HKV.o]; decide))⟩);have HB9 := iH (bl_trans HB4.o hb9);clear hq9 hb9 lr;go_wp2;go_ret;exact Tells.of HE.o HB9.o
  | have HG : Hd (d.k = 7) := HKV
    clear HG;have HE1 : Hd (¬ hasE d.k) := (show ¬ hasE d.k by rw [HKV.o]; unfold hasE; decide);have HV1 : Hd (hasV d.k) := (show hasV d.k by rw [HKV.o]; unfold hasV; decide);have HIB := iH fun W (hb : Bl w W) => isBareP_any ⟨d.k, d.ord, d.p, d.e, ⟨none, 0, 0, []⟩, none, 0, [], d.ka, d.kc, d.n⟩ W (HLP.o.upper (uB hb)) (ET.lies.upper (uB hb) HLE.o) (bs_nil W);have IN := isName_any d.v.a d.v.len d.v.cap d.v.b W3 (HLV.o.upper (uB HB3.o)).1;have HVO := valuesOk_any d.ta d.tb.length d.tc (tbG d.tb) W3 HLN.o (trow_krow (HLT.o.upper (uB HB3.o))) (tb_lies (HLT.o.upper (uB HB3.o)));have x25 := HX3.o.2 25 _ rfl;have x26 := HX3.o.2 26 _ rfl;cases hnm : nameOk d.v.b
    · rw [hnm] at IN
      have HNO : Hd (¬ HasP d) := fun hh => by have h := hh.v1 HV1.o; rw [hnm] at h; cases h
      clear hnm;go_wp2_with fail
      refine IN.mono ?_;rintro e w3 ⟨rfl, h3⟩;subst w3;clear IN;have s25 := (HOB.o.2 25 _ rfl).1;have t25 := (HOB.o.2 25 _ rfl).2;have s26 := (HOB.o.2 26 _ rfl).1;have t26 := (HOB.o.2 26 _ rfl).2;have HR4 : Hd (Box ((W3.setCell ⟨g, 25, none⟩ (.slice none 0 0)).setCell ⟨g, 26, none⟩ (.slice none 0 0)) g (PN.cells ⟨d.k, d.ord, d.p, d.e, ⟨none, 0, 0, []⟩, none, 0, [], d.ka, d.kc, d.n⟩)) := ((HOB.o.set 25 (.slice none 0 0)).set 26 (.slice none 0 0)).box;have HB4 : Hd (Bl w ((W3.setCell ⟨g, 25, none⟩ (.slice none 0 0)).setCell ⟨g, 26, none⟩ (.slice none 0 0))) := (HB3.o.setCell (p := ⟨g, 25, none⟩) hg _).setCell (p := ⟨g, 26, none⟩) hg _;go_upto_region 19 with fail
      generalize (W3.setCell _ _).setCell _ _ = W4 at *;clear s25 t25 s26 t26;clear x25 x26 x0;go_wp2;go_ret;exact Tells.no HNO.o HB4.o
    rw [hnm] at IN;have HNM := iH hnm;clear hnm;go_wp2_with fail
    refine IN.mono ?_;rintro e w3 ⟨rfl, h3⟩;subst w3;clear IN;go_wp2_with fail
    refine HVO.mono ?_;rintro e w5 ⟨q5, rfl, hq5, hb5⟩;have HB5 := iH (bl_trans HB3.o hb5);have HO5 := iH (HOB.o.below hb5);clear hb5 HVO HOB HX3 HB3 x25 x26 x0;have s25 := (HO5.o.2 25 _ rfl).1;have t25 := (HO5.o.2 25 _ rfl).2;have s26 := (HO5.o.2 26 _ rfl).1;have t26 := (HO5.o.2 26 _ rfl).2;have HR4 : Hd (Box ((w5.setCell ⟨g, 25, none⟩ (.slice none 0 0)).setCell ⟨g, 26, none⟩ (.slice none 0 0)) g (PN.cells ⟨d.k, d.ord, d.p, d.e, ⟨none, 0, 0, []⟩, none, 0, [], d.ka, d.kc, d.n⟩)) := ((HO5.o.set 25 (.slice none 0 0)).set 26 (.slice none 0 0)).box;have HB4 : Hd (Bl w ((w5.setCell ⟨g, 25, none⟩ (.slice none 0 0)).setCell ⟨g, 26, none⟩ (.slice none 0 0))) := (HB5.o.setCell (p := ⟨g, 25, none⟩) hg _).setCell (p := ⟨g, 26, none⟩) hg _;go_upto_region 19 with fail
    generalize (w5.setCell _ _).setCell _ _ = W4 at *;clear s25 t25 s26 t26;cases q5
    · have HNO : Hd (¬ HasP d) := fun hh => by have h := hq5.2 ⟨hh.tn, tb_all.2 hh.tm⟩; cases h
      clear hq5;go_wp2;go_ret;exact Tells.no HNO.o HB4.o
    have HTM := iH (hq5.1 rfl);clear hq5;have lr := HR4.o.range 0 (wVL d.k d.ord d.p d.e.d (.slice none 0 0) (.slice none 0 0) (.slice d.ka d.n d.kc)) rfl;go_wp2_with (with_reducible refine wpq_at ?_; refine wpq_stop 46 _ rfl ?_)
    change wpList _ _ _ _ _ _;refine wpq_load ?hw 46 _ rfl g 0 rfl (wVL d.k d.ord d.p d.e.d (.slice none 0 0) (.slice none 0 0) (.slice d.ka d.n d.kc)) _ lr Tryz.underlying46 rfl (by kernel_rfl) ?_
    case hw => rfl
    simp only [Act.put, sA, zA, cA];go_wp2_with fail
    refine (HIB.o _ HB4.o).mono ?_;rintro e w9 ⟨q9, rfl, hq9, hb9⟩;have HE : Hd (q9 = true ↔ HasP d) := (show (q9 = true ↔ HasP d) from hq9.trans ⟨fun h => ⟨HK8.o.1, HK8.o.2, by rw [(show d.ord = 0 from h.1)]; decide, by rw [(show d.ord = 0 from h.1)]; decide, HKN.o, fun h2 => absurd h2 (by rw [HKV.o]; decide), fun _ => h.2.1, fun _ => (show d.ord = 0 from h.1), fun h2 => absurd HKV.o h2, HTM.o.1, fun _ => h.2.2.1, fun _ => HNM.o, fun h2 => absurd HV1.o h2, tb_all.1 HTM.o.2⟩, fun h => BareP.mk (h.oz (by rw [HKV.o]; decide)) (h.p0 (by rw [HKV.o]; decide)) (h.e0 HE1.o) rfl rfl⟩);have HB9 := iH (bl_trans HB4.o hb9);clear hq9 hb9 lr;go_wp2;go_ret;exact Tells.of HE.o HB9.o
  | have HG : Hd (d.k = 6) := HKV
    clear HG;have HE1 : Hd (hasE d.k) := (show hasE d.k by rw [HKV.o]; unfold hasE; decide);have HV1 : Hd (hasV d.k) := (show hasV d.k by rw [HKV.o]; unfold hasV; decide);have HIB := iH fun W (hb : Bl w W) => isBareP_any ⟨d.k, d.ord, d.p, ET0, ⟨none, 0, 0, []⟩, d.ta, d.tc, d.tb, d.ka, d.kc, d.n⟩ W (HLP.o.upper (uB hb)) (ET0_lies W) (bs_nil W);have IN := isName_any d.v.a d.v.len d.v.cap d.v.b W3 (HLV.o.upper (uB HB3.o)).1;have x25 := HX3.o.2 25 _ rfl;have st : W3.there g 17 8 := HOB.o.there 17 8 (show 17 + 8 ≤ 28 by omega);have HOE := iH (HOB.o.put zEl 17 (PN.cells ⟨d.k, d.ord, d.p, ET0, d.v, d.ta, d.tc, d.tb, d.ka, d.kc, d.n⟩) (show 17 + 8 ≤ 28 by omega) rfl);have s25 := (HOE.o.2 25 _ rfl).1;have t25 := (HOE.o.2 25 _ rfl).2;have HR4 : Hd (Box ((W3.setCells g 17 zEl).setCell ⟨g, 25, none⟩ (.slice none 0 0)) g (PN.cells ⟨d.k, d.ord, d.p, ET0, ⟨none, 0, 0, []⟩, d.ta, d.tc, d.tb, d.ka, d.kc, d.n⟩)) := (HOE.o.set 25 (.slice none 0 0)).box;have HB4 : Hd (Bl w ((W3.setCells g 17 zEl).setCell ⟨g, 25, none⟩ (.slice none 0 0))) := (below_sets _ hg _ _ _ HB3.o).setCell (p := ⟨g, 25, none⟩) hg _;obtain ⟨qn, hnm⟩ : ∃ q, q = nameOk d.v.b := ⟨_, rfl⟩;rw [← hnm] at IN;have HNM := iH hnm.symm;clear hnm;go_wp2_with fail
    refine IN.mono ?_;rintro e w3 ⟨rfl, h3⟩;subst w3;clear IN x25;go_upto_region 19 with (first | (with_reducible refine wpq_at ?_; refine wpList_store_mid rfl 42 _ _ rfl _ _ _ rfl rfl st (by kernel_rfl) oneE ?_; try simp only [Act.put]))
    generalize (W3.setCells _ _ _).setCell _ _ = W4 at *;clear st s25 t25 x0 HOB HOE HX3 HB3;cases qn
    · have HNO : Hd (¬ HasP d) := fun hh => by have h := hh.v1 HV1.o; rw [HNM.o] at h; cases h
      go_wp2;go_ret;exact Tells.no HNO.o HB4.o
    have lr := HR4.o.range 0 (wPL d.k d.ord d.p (.slice none 0 0) (.slice d.ta d.tb.length d.tc) (.slice d.ka d.n d.kc)) rfl;go_wp2_with (with_reducible refine wpq_at ?_; refine wpq_stop 46 _ rfl ?_)
    change wpList _ _ _ _ _ _;refine wpq_load ?hw 46 _ rfl g 0 rfl (wPL d.k d.ord d.p (.slice none 0 0) (.slice d.ta d.tb.length d.tc) (.slice d.ka d.n d.kc)) _ lr Tryz.underlying46 rfl (by kernel_rfl) ?_
    case hw => rfl
    simp only [Act.put, sA, zA, cA];go_wp2_with fail
    refine (HIB.o _ HB4.o).mono ?_;rintro e w9 ⟨q9, rfl, hq9, hb9⟩;have HE : Hd (q9 = true ↔ HasP d) := (show (q9 = true ↔ HasP d) from hq9.trans ⟨fun h => ⟨HK8.o.1, HK8.o.2, by rw [(show d.ord = 0 from h.1)]; decide, by rw [(show d.ord = 0 from h.1)]; decide, HKN.o, fun h2 => absurd h2 (by rw [HKV.o]; decide), fun _ => h.2.1, fun _ => (show d.ord = 0 from h.1), fun _ => (show d.tb = [] from h.2.2.2.2), by rw [(show d.tb = [] from h.2.2.2.2)]; decide, fun h2 => absurd HE1.o h2, fun _ => HNM.o, fun h2 => absurd HV1.o h2, fun x hx => by rw [(show d.tb = [] from h.2.2.2.2)] at hx; cases hx⟩, fun h => BareP.mk (h.oz (by rw [HKV.o]; decide)) (h.p0 (by rw [HKV.o]; decide)) ET0_zero rfl (h.t0 (by rw [HKV.o]; decide))⟩);have HB9 := iH (bl_trans HB4.o hb9);clear hq9 hb9 lr;go_wp2;go_ret;exact Tells.of HE.o HB9.o
  | have HG : hasE d.k := by rw [HKV.o]; unfold hasE; decide
    clear HG;have HE1 : Hd (hasE d.k) := (show hasE d.k by rw [HKV.o]; unfold hasE; decide);have HV1 : Hd (¬ hasV d.k) := (show ¬ hasV d.k by rw [HKV.o]; unfold hasV; decide);have HIB := iH fun W (hb : Bl w W) => isBareP_any ⟨d.k, d.ord, d.p, ET0, d.v, d.ta, d.tc, d.tb, d.ka, d.kc, d.n⟩ W (HLP.o.upper (uB hb)) (ET0_lies W) (HLV.o.upper (uB hb));have st : W3.there g 17 8 := HOB.o.there 17 8 (show 17 + 8 ≤ 28 by omega);have HR4 := iH (HOB.o.put zEl 17 (PN.cells ⟨d.k, d.ord, d.p, ET0, d.v, d.ta, d.tc, d.tb, d.ka, d.kc, d.n⟩) (show 17 + 8 ≤ 28 by omega) rfl).box;have HB4 : Hd (Bl w (W3.setCells g 17 zEl)) := below_sets _ hg _ _ _ HB3.o;go_upto_region 19 with (first | (with_reducible refine wpq_at ?_; refine wpList_store_mid rfl 42 _ _ rfl _ _ _ rfl rfl st (by kernel_rfl) oneE ?_; try simp only [Act.put]))
    generalize (W3.setCells g 17 zEl) = W4 at *;clear st x0 HOB HX3 HB3;have lr := HR4.o.range 0 (wPL d.k d.ord d.p (.slice d.v.a d.v.len d.v.cap) (.slice d.ta d.tb.length d.tc) (.slice d.ka d.n d.kc)) rfl;go_wp2_with (with_reducible refine wpq_at ?_; refine wpq_stop 46 _ rfl ?_)
    change wpList _ _ _ _ _ _;refine wpq_load ?hw 46 _ rfl g 0 rfl (wPL d.k d.ord d.p (.slice d.v.a d.v.len d.v.cap) (.slice d.ta d.tb.length d.tc) (.slice d.ka d.n d.kc)) _ lr Tryz.underlying46 rfl (by kernel_rfl) ?_
    case hw => rfl
    simp only [Act.put, sA, zA, cA];go_wp2_with fail
    refine (HIB.o _ HB4.o).mono ?_;rintro e w9 ⟨q9, rfl, hq9, hb9⟩;have HE : Hd (q9 = true ↔ HasP d) := (show (q9 = true ↔ HasP d) from hq9.trans ⟨fun h => ⟨HK8.o.1, HK8.o.2, by rw [(show d.ord = 0 from h.1)]; decide, by rw [(show d.ord = 0 from h.1)]; decide, HKN.o, fun h2 => absurd h2 (by rw [HKV.o]; decide), fun _ => h.2.1, fun _ => (show d.ord = 0 from h.1), fun _ => (show d.tb = [] from h.2.2.2.2), by rw [(show d.tb = [] from h.2.2.2.2)]; decide, fun h2 => absurd HE1.o h2, fun h2 => absurd h2 HV1.o, fun _ => h.2.2.2.1, fun x hx => by rw [(show d.tb = [] from h.2.2.2.2)] at hx; cases hx⟩, fun h => BareP.mk (h.oz (by rw [HKV.o]; decide)) (h.p0 (by rw [HKV.o]; decide)) ET0_zero (h.v0 HV1.o) (h.t0 (by rw [HKV.o]; decide))⟩);have HB9 := iH (bl_trans HB4.o hb9);clear hq9 hb9 lr;go_wp2;go_ret;exact Tells.of HE.o HB9.o
  | have HE1 : Hd (¬ hasE d.k) := (show ¬ hasE d.k by rw [HKV.o]; unfold hasE; decide)
    have HV1 : Hd (¬ hasV d.k) := (show ¬ hasV d.k by rw [HKV.o]; unfold hasV; decide);have HIB := iH fun W (hb : Bl w W) => isBareP_any ⟨d.k, d.ord, d.p, d.e, d.v, d.ta, d.tc, d.tb, d.ka, d.kc, d.n⟩ W (HLP.o.upper (uB hb)) (ET.lies.upper (uB hb) HLE.o) (HLV.o.upper (uB hb));have lr := HOB.o.box.range 0 d.cl rfl;go_wp2_with (with_reducible refine wpq_at ?_; refine wpq_stop 46 _ rfl ?_)
    change wpList _ _ _ _ _ _;refine wpq_load ?hw 46 _ rfl g 0 rfl d.cl _ lr Tryz.underlying46 rfl (by kernel_rfl) ?_
    case hw => rfl
    simp only [Act.put, sA, zA, cA];go_wp2_with fail
    refine (HIB.o _ HB3.o).mono ?_;rintro e w9 ⟨q9, rfl, hq9, hb9⟩;have HE : Hd (q9 = true ↔ HasP d) := (show (q9 = true ↔ HasP d) from hq9.trans ⟨fun h => ⟨HK8.o.1, HK8.o.2, by rw [(show d.ord = 0 from h.1)]; decide, by rw [(show d.ord = 0 from h.1)]; decide, HKN.o, fun h2 => absurd h2 (by rw [HKV.o]; decide), fun _ => h.2.1, fun _ => (show d.ord = 0 from h.1), fun _ => (show d.tb = [] from h.2.2.2.2), by rw [(show d.tb = [] from h.2.2.2.2)]; decide, fun _ => h.2.2.1, fun h2 => absurd h2 HV1.o, fun _ => h.2.2.2.1, fun x hx => by rw [(show d.tb = [] from h.2.2.2.2)] at hx; cases hx⟩, fun h => BareP.mk (h.oz (by rw [HKV.o]; decide)) (h.p0 (by rw [HKV.o]; decide)) (h.e0 HE1.o) (h.v0 HV1.o) (h.t0 (by rw [HKV.o]; decide))⟩);have HB9 := iH (bl_trans HB3.o hb9);clear hq9 hb9 lr;go_wp2;go_ret;exact Tells.of HE.o HB9.o
def cellsAt (p : Int) (d : PN) : List Value := .int .i64 p :: .int .i64 480 :: d.cells
theorem planOk_any (e : PT) : ∀ (p L : Int) (g : Nat) (w0 w : World), e.lies 0 w0 → Bl w0 w → w0.heap.size ≤ g → Ctr w g L → 0 ≤ p → p ≤ 100000 → 0 ≤ L → L ≤ 100000 →
 Calls Tryz.prog 88 #[.pointer (some ⟨g, 0, none⟩), .agg (cPA p 480 e.d)] w (CtrAns (pOk e p) (psz e) g L w) := by
 induction e with
 | nil => exact fun _ _ _ _ _ h => False.elim h
 | mk d kid ih =>
  intro p L g w0 w hl hw hg hc hp0 hp1 hL0 hL1;show Calls Tryz.prog 88 #[.pointer (some ⟨g, 0, none⟩), .agg (cPA p 480 d)] w (CtrAns (pOk (.mk d kid) p) (psz (.mk d kid)) g L w);have hgw := hc.lt;have hsz := hw.size;have HOWN := iH (fun W (hb : Below _ w0 W) => hasOwnP_any d kid W (PT.lies.upper (uB hb) hl));obtain ⟨_, he, _, _, _, hn, hR, hk⟩ := hl;have HEXP := iH (fun (L' : Int) (W : World) (hb : Below _ w0 W) (hc' : Ctr W g L') (h0 : 0 ≤ L') (h1 : L' ≤ 100000) => exprOk_any d.e 1 120 L' g w0 W he hb hg hc' (by omega) (by omega) (by omega) h0 h1);have HIH := iH (fun i (hi : i < d.n) (L' : Int) (W : World) (hb : Below _ w0 W) (hc' : Ctr W g L') (h0 : 0 ≤ L') (h1 : L' ≤ 100000) (h10 : p ≤ 480) => ih i (p + 1) L' g w0 W (hk i hi) hb hg hc' (by omega) (by omega) h0 h1);have HKR := iH hR;have hnb := hn;have HCS : Hd (CS w0 w (w.alloc (.cells (cPA p 480 d) 144)) g L (cellsAt p d)) := ⟨Box.new w (cPA p 480 d) 144 (0, 0), hc.below (bl_a _), Past.of_below (bl_a _), hw.trans ((bl_a _).mono hsz)⟩;have AD := admits_any g L p 480 _ HCS.o.ct hL0 hL1;have HSZ : Hd (psz (.mk d kid) = ownP d + sumN d.n (fun i => psz (kid i))) := rfl;have HOW : Hd (1 ≤ ownP d) := (show _ ≤ _ by unfold ownP; omega);clear he hn hR hk ih hw hc;go_in;go_upto_region 1 with fail
  generalize w.alloc _ = W1 at *;have x0 := HCS.o.bx.2 0 _ rfl;have x1 := HCS.o.bx.2 1 _ rfl;go_wp2_with fail
  refine AD.mono ?_;rintro e w1 ⟨q1, rfl, hq1', hc1, hp1'⟩;have HC1 := iH (HCS.o.past hg hgw hp1' hc1);clear AD hc1 hp1' HCS x0 x1;cases q1
  · have HNO : Hd (¬ (pOk (.mk d kid) p ∧ ((psz (.mk d kid) : Nat) : Int) ≤ L)) := fun hh => by
     have h1 := HSZ.o;have h0 := HOW.o;have h2 := hh.2;have h3 := hh.1.1;have h4 := hq1'.2 ⟨by omega, h3⟩
     cases h4
    clear hq1';go_wp2;go_ret;exact CtrAns.no HNO.o HC1.o.ct HC1.o.pa
  obtain ⟨hLp, hpq⟩ := hq1'.1 rfl;clear hq1';have lr := HC1.o.bx.range 2 d.cl rfl;go_wp2_with (with_reducible refine wpq_at ?_; refine wpq_stop 46 _ rfl ?_)
  change wpList _ _ _ _ _ _;refine wpq_load ?hw 46 _ rfl w.heap.size 2 rfl d.cl _ lr Tryz.underlying46 rfl (by kernel_rfl) ?_
  case hw => rfl
  simp only [Act.put, sA, zA, cA];go_wp2_with fail
  refine (HOWN.o w1 HC1.o.bl).mono ?_;rintro e w2 ⟨q2, rfl, hq2, hb2⟩;have HC2 := iH (HC1.o.below HC1.o.bl.size hb2);clear hb2 HC1 HOWN lr;cases q2
  · have HNO : Hd (¬ (pOk (.mk d kid) p ∧ ((psz (.mk d kid) : Nat) : Int) ≤ L)) := fun hh => by
     have h := hq2.2 (HasP.node.1 hh.1.2.1).1;cases h
    clear hq2;go_wp2;go_ret;exact CtrAns.no HNO.o HC2.o.ct HC2.o.pa
  have HOWN2 := iH (hq2.1 rfl);clear hq2;have lr := HC2.o.bx.range 2 d.cl rfl;go_wp2_with (with_reducible refine wpq_at ?_; refine ldr rfl rfl rfl Tryz.underlying46 lr rfl ?_; try simp only [Act.put, sA, zA, cA])
  refine (hasExprP_any d w2).mono ?_;rintro e w4 ⟨q4, rfl, hq4, hb4⟩;have HC4 := iH (HC2.o.below HC2.o.bl.size hb4);clear hb4 HC2 lr;obtain ⟨L3, hL3⟩ : ∃ L3, L3 = L - 1 := ⟨_, rfl⟩;rw [← hL3] at HC4;have HL3 := iH hL3;have h30 : 0 ≤ L3 := by omega
  have h31 : L3 ≤ 100000 := by omega
  clear hL3;cases q4
  · have HNE : Hd (¬ hasE d.k) := fun hh => by have h := hq4.2 hh; cases h
    have HEX : Hd (hasE d.k → eOk 120 d.e 1) := fun h => absurd h HNE.o;have HLX : Hd (L3 = L - (ownP d : Nat)) := (show _ = _ by have h1 := HL3.o; have h2 : ownP d = 1 + 0 := (show 1 + (if d.k = 2 ∨ d.k = 5 ∨ d.k = 6 then esz d.e else 0) = _ by rw [if_neg (show ¬ (d.k = 2 ∨ d.k = 5 ∨ d.k = 6) from HNE.o)]); omega);have hX0 := h30;have hX1 := h31;clear hq4 HL3 HNE HEXP;have x29 := HC4.o.bx.2 29 _ rfl;go_wp2_with fail
    clear x29;go_loopw [35] (fun i wr => ∃ (k : Nat) (Lr : Int), k ≤ d.n ∧ i = .int .i64 k ∧ 0 ≤ Lr ∧ Lr ≤ 100000 ∧ Hd (Lr = L3 - (sumN k (fun i => psz (kid i)) : Nat)) ∧ Hd (∀ j, j < k → pOk (kid j) (p + 1)) ∧ Hd (CS w0 w wr g Lr (cellsAt p d))) (fun i _ => d.n - (intOf i).toNat)
    case atStart => exact ⟨0, L3, nZ, rfl, hX0, hX1, (show L3 = L3 - ((0 : Nat) : Int) by omega), fun j hj => absurd hj nN, HC4⟩
    clear HC4;obtain ⟨k, Lr, hk, rfl, hLr0, hLr1, HLR, HOKS, HCr⟩ := hrel;by_cases hlk : k < d.n;rotate_left
    · obtain rfl : k = d.n := by omega
      have hlkz : ¬ (d.n : Int) < (d.n : Int) := by omega
      go_wp2;go_ret;have h1 := HSZ.o;have h2 := HLX.o;have h4 := HLR.o;exact CtrAns.yes ⟨hpq, HasP.node.2 ⟨HOWN2.o, HEX.o⟩, HOKS.o⟩ (by omega) (by omega) HCr.o.ct HCr.o.pa
    have hlkz : (k : Int) < (d.n : Int) := by omega
    obtain ⟨b, off, eK, _, hbk, hck⟩ := HKR.o.resolve_left (by omega);have hcx : wr.rangeAt b (off + k * 28) (kid k).d.cl := fun c u hu => (HCr.o.bl.cell (p := ⟨b, off + k * 28 + c, none⟩) hbk).trans (hck k hlk c u hu);have HEK := iH eK;clear hck;have st := (OB.new wr zNa 46).there 0 28 (by simp);have on : ((kid k).d.ar : Array Value).all (·.oneCell') = true := PN.one _;have HBk : Hd (Bl wr ((wr.alloc (.cells zNa 46)).setCells wr.heap.size 0 (kid k).d.cl)) := below_sets _ nR _ _ _ (bl_a _);have HXk : Hd (Box ((wr.alloc (.cells zNa 46)).setCells wr.heap.size 0 (kid k).d.cl) wr.heap.size (kid k).d.cells) := ((OB.new wr #[.int _ 0, .int _ 0, .slice _ 0 0, .int _ 0, .slice _ 0 0, .int _ 0, .int _ 0, .slice _ 0 0, .int _ 0, .slice _ 0 0, .int _ 0, .int _ 0, .slice _ 0 0, .int _ 0, .slice _ 0 0, .int _ 0, .int _ 0, .int _ 0, .int _ 0, .slice _ 0 0, .int _ 0, .slice _ 0 0, .int _ 0, .int _ 0, .slice _ 0 0, .slice _ 0 0, .slice _ 0 0, .slice _ 0 0] 46).put (kid k).d.cells 0 _ (show 0 + 28 ≤ 28 by omega) rfl).box;have HC5 := iH (HCr.o.below HCr.o.bl.size HBk.o);rw [eK];clear eK;go_upto_region 8 with (first | (with_reducible refine wpq_at ?_; refine wpList_load_mid rfl 46 _ rfl b (off + k * 28) rfl (kid k).d.cl _ hcx Tryz.underlying46 rfl (by kernel_rfl) ?_; try simp only [Act.put, sA, zA, cA]) | (with_reducible refine wpq_at ?_; refine wpList_store_mid rfl 46 _ _ rfl _ _ _ rfl rfl st (by kernel_rfl) on ?_; try simp only [Act.put]))
    generalize ((wr.alloc (.cells zNa 46)).setCells wr.heap.size 0 (kid k).d.cl) = W5 at *;have HGK := iH HCr.o.pa.size;generalize hgg : wr.heap.size = gk at *;clear hcx st on HBk HCr hgg;refine whd (fun w' => Bl w0 w' ∧ Box w' w.heap.size (cellsAt p d) ∧ Box w' gk (kid k).d.cells) ?_ fun hHeld => ?_
    · exact ⟨Below.drew HC5.o.bl, HC5.o.bx.below bdr, HXk.o.below bdr⟩
    refine tkB 0 39 ?_;refine tkB 1 40 ?_;refine tkA 2 41 (v := ?v3) ?y3 ?_
    case y3 => (intro w' hSw; have q1 := hSw.2.1.2 0 _ rfl; have q2 := hSw.2.1.2 1 _ rfl; go_simp; (try with_reducible rfl))
    try simp only [Act.put, sA, zA, cA]
    refine takeq (i := 4) 43 (v := .agg (kid k).d.ar) rfl rfl (by kernel_rfl) (by kernel_rfl) (by kernel_rfl) (fun _ _ _ h => h) (yieldsIf_load_mid (by rfl) 46 _ rfl gk 0 rfl (kid k).d.cl _ (fun w' hw' => hw'.2.2.range 0 _ rfl) Tryz.underlying46 rfl (by kernel_rfl)) hHeld ?_;try simp only [Act.put, sA, zA, cA]
    refine rdA 3 fun K hK => ?_;go_simp;refine (placeBelow_any p 480 _ hp0 hp1).mono ?_;rintro e z1 ⟨rfl, hb1⟩;have HCz := iH ((HC5.o.below HC5.o.bl.size bdr).below (HC5.o.below HC5.o.bl.size bdr).bl.size hb1);have HXz := iH ((HXk.o.below bdr).below hb1);clear hb1;go_wp2_with fail
    refine hK.out _ _ ?_ fun hHeld => ?_
    · exact ⟨HCz.o.bl, HCz.o.bx, HXz.o⟩
    clear hK K;refine tkB 5 44 ?_;refine rdA 6 fun K hK => ?_;go_simp;refine (HIH.o k hlk Lr z1 HCz.o.bl HCz.o.ct hLr0 hLr1 hpq).mono ?_;rintro e w5 ⟨q5, L5, rfl, hq5, hL5, hc5, hp5⟩;have HC6 := iH (HCz.o.past hg hgw hp5 hc5);have HXw := iH (HXz.o.past hp5 (by have h1 := HGK.o; omega));have HS : Hd (sumN (k + 1) (fun i => psz (kid i)) = sumN k (fun i => psz (kid i)) + psz (kid k)) := rfl;clear hc5 hp5;cases q5
    · have HNO : Hd (¬ (pOk (.mk d kid) p ∧ ((psz (.mk d kid) : Nat) : Int) ≤ L)) := fun hh => by
       have h1 := hh.1.2.2 k hlk;have h3 := sumN_mono (f := (fun i => psz (kid i))) (show k + 1 ≤ d.n by omega);have h4 := HLR.o;have h5 := HS.o;have h6 := hh.2;have h8 := HLX.o;have h9 := HSZ.o;have h7 := hq5.2 ⟨h1, by omega⟩
       cases h7
      clear hq5 hL5;go_wp2_with fail
      refine hK.out _ _ ?_ fun hHeld => ?_
      · exact ⟨HC6.o.bl, HC6.o.bx, HXw.o⟩
      clear hK K;refine tkB 7 46 ?_;refine wpAnyH_done (by kernel_rfl) ?_ _;clear hHeld HC5 HCz HXk HXz HXw;go_wp2;go_ret;exact CtrAns.no HNO.o HC6.o.ct HC6.o.pa
    obtain ⟨h51, h52⟩ := hq5.1 rfl;have h53 := hL5 rfl;have HN5 := iH h51;have HL5 : Hd (L5 = L3 - (sumN (k + 1) (fun i => psz (kid i)) : Nat)) := (show L5 = _ by have h1 := HS.o; have h2 := HLR.o; omega);have hL50 : 0 ≤ L5 := by omega
    have hL51 : L5 ≤ 100000 := by omega
    clear h51 h52 h53 hq5 hL5;go_wp2_with fail
    refine hK.out _ _ ?_ fun hHeld => ?_
    · exact ⟨HC6.o.bl, HC6.o.bx, HXw.o⟩
    clear hK K;refine tkB 7 46 ?_;refine wpAnyH_done (by kernel_rfl) ?_ _;clear hHeld HC5 HCz HXk HXz HXw;go_wp2;go_roundw
    case rel =>
     refine ⟨k + 1, L5, by omega, by go_num, hL50, hL51, HL5, fun j hj => ?_, HC6⟩
     by_cases e : j = k
     · subst e
       exact HN5.o
     exact HOKS.o j (by omega)
    case measure => simp [intOf]; omega
  have HYE := iH (hq4.1 rfl);clear hq4;have le := HC4.o.bx.range 19 d.e.d.cl rfl;go_wp2_with (with_reducible refine wpq_at ?_; refine wpq_stop 42 _ rfl ?_)
  change wpList _ _ _ _ _ _;refine wpq_load ?hw 42 _ rfl w.heap.size 19 rfl d.e.d.cl _ le Tryz.underlying42 rfl (by kernel_rfl) ?_
  case hw => rfl
  simp only [Act.put, sA, zA, cA];go_wp2_with fail
  refine (HEXP.o L3 w4 HC4.o.bl HC4.o.ct h30 h31).mono ?_;rintro e w6 ⟨q6, L6, rfl, hq6, hL6, hc6, hp6⟩;have HC6 := iH (HC4.o.past hg hgw hp6 hc6);clear hc6 hp6 HC4 HEXP le;have HOE : Hd (ownP d = 1 + esz d.e) := (show 1 + (if d.k = 2 ∨ d.k = 5 ∨ d.k = 6 then esz d.e else 0) = _ by rw [if_pos (show d.k = 2 ∨ d.k = 5 ∨ d.k = 6 from HYE.o)]);cases q6
  · have HNO : Hd (¬ (pOk (.mk d kid) p ∧ ((psz (.mk d kid) : Nat) : Int) ≤ L)) := fun hh => by
     have h1 := HSZ.o;have h0 := HOE.o;have h2 := hh.2;have h3 := HL3.o;have h := hq6.2 ⟨hh.1.2.1.e1 HYE.o, by omega⟩
     cases h
    clear hq6 hL6;go_wp2;go_ret;exact CtrAns.no HNO.o HC6.o.ct HC6.o.pa
  obtain ⟨h61, h62⟩ := hq6.1 rfl;have h63 := hL6 rfl;have HEX := iH (fun (_ : hasE d.k) => h61);have HLX : Hd (L6 = L - (ownP d : Nat)) := (show _ = _ by have h1 := HL3.o; have h2 := HOE.o; omega);have hX0 : 0 ≤ L6 := by omega
  have hX1 : L6 ≤ 100000 := by omega
  clear h61 h62 h63 hq6 hL6 HL3 HYE HOE;have x29 := HC6.o.bx.2 29 _ rfl;go_wp2_with fail
  clear x29;go_loopw [35] (fun i wr => ∃ (k : Nat) (Lr : Int), k ≤ d.n ∧ i = .int .i64 k ∧ 0 ≤ Lr ∧ Lr ≤ 100000 ∧ Hd (Lr = L6 - (sumN k (fun i => psz (kid i)) : Nat)) ∧ Hd (∀ j, j < k → pOk (kid j) (p + 1)) ∧ Hd (CS w0 w wr g Lr (cellsAt p d))) (fun i _ => d.n - (intOf i).toNat)
  case atStart => exact ⟨0, L6, nZ, rfl, hX0, hX1, (show L6 = L6 - ((0 : Nat) : Int) by omega), fun j hj => absurd hj nN, HC6⟩
  clear HC6;obtain ⟨k, Lr, hk, rfl, hLr0, hLr1, HLR, HOKS, HCr⟩ := hrel;by_cases hlk : k < d.n;rotate_left
  · obtain rfl : k = d.n := by omega
    have hlkz : ¬ (d.n : Int) < (d.n : Int) := by omega
    go_wp2;go_ret;have h1 := HSZ.o;have h2 := HLX.o;have h4 := HLR.o;exact CtrAns.yes ⟨hpq, HasP.node.2 ⟨HOWN2.o, HEX.o⟩, HOKS.o⟩ (by omega) (by omega) HCr.o.ct HCr.o.pa
  have hlkz : (k : Int) < (d.n : Int) := by omega
  obtain ⟨b, off, eK, _, hbk, hck⟩ := HKR.o.resolve_left (by omega);have hcx : wr.rangeAt b (off + k * 28) (kid k).d.cl := fun c u hu => (HCr.o.bl.cell (p := ⟨b, off + k * 28 + c, none⟩) hbk).trans (hck k hlk c u hu);have HEK := iH eK;clear hck;have st := (OB.new wr zNa 46).there 0 28 (by simp);have on : ((kid k).d.ar : Array Value).all (·.oneCell') = true := PN.one _;have HBk : Hd (Bl wr ((wr.alloc (.cells zNa 46)).setCells wr.heap.size 0 (kid k).d.cl)) := below_sets _ nR _ _ _ (bl_a _);have HXk : Hd (Box ((wr.alloc (.cells zNa 46)).setCells wr.heap.size 0 (kid k).d.cl) wr.heap.size (kid k).d.cells) := ((OB.new wr #[.int _ 0, .int _ 0, .slice _ 0 0, .int _ 0, .slice _ 0 0, .int _ 0, .int _ 0, .slice _ 0 0, .int _ 0, .slice _ 0 0, .int _ 0, .int _ 0, .slice _ 0 0, .int _ 0, .slice _ 0 0, .int _ 0, .int _ 0, .int _ 0, .int _ 0, .slice _ 0 0, .int _ 0, .slice _ 0 0, .int _ 0, .int _ 0, .slice _ 0 0, .slice _ 0 0, .slice _ 0 0, .slice _ 0 0] 46).put (kid k).d.cells 0 _ (show 0 + 28 ≤ 28 by omega) rfl).box;have HC5 := iH (HCr.o.below HCr.o.bl.size HBk.o);rw [eK];clear eK;go_upto_region 8 with (first | (with_reducible refine wpq_at ?_; refine wpList_load_mid rfl 46 _ rfl b (off + k * 28) rfl (kid k).d.cl _ hcx Tryz.underlying46 rfl (by kernel_rfl) ?_; try simp only [Act.put, sA, zA, cA]) | (with_reducible refine wpq_at ?_; refine wpList_store_mid rfl 46 _ _ rfl _ _ _ rfl rfl st (by kernel_rfl) on ?_; try simp only [Act.put]))
  generalize ((wr.alloc (.cells zNa 46)).setCells wr.heap.size 0 (kid k).d.cl) = W5 at *;have HGK := iH HCr.o.pa.size;generalize hgg : wr.heap.size = gk at *;clear hcx st on HBk HCr hgg;refine whd (fun w' => Bl w0 w' ∧ Box w' w.heap.size (cellsAt p d) ∧ Box w' gk (kid k).d.cells) ?_ fun hHeld => ?_
  · exact ⟨Below.drew HC5.o.bl, HC5.o.bx.below bdr, HXk.o.below bdr⟩
  refine tkB 0 39 ?_;refine tkB 1 40 ?_;refine tkA 2 41 (v := ?v9) ?y9 ?_
  case y9 => (intro w' hSw; have q1 := hSw.2.1.2 0 _ rfl; have q2 := hSw.2.1.2 1 _ rfl; go_simp; (try with_reducible rfl))
  try simp only [Act.put, sA, zA, cA]
  refine takeq (i := 4) 43 (v := .agg (kid k).d.ar) rfl rfl (by kernel_rfl) (by kernel_rfl) (by kernel_rfl) (fun _ _ _ h => h) (yieldsIf_load_mid (by rfl) 46 _ rfl gk 0 rfl (kid k).d.cl _ (fun w' hw' => hw'.2.2.range 0 _ rfl) Tryz.underlying46 rfl (by kernel_rfl)) hHeld ?_;try simp only [Act.put, sA, zA, cA]
  refine rdA 3 fun K hK => ?_;go_simp;refine (placeBelow_any p 480 _ hp0 hp1).mono ?_;rintro e z1 ⟨rfl, hb1⟩;have HCz := iH ((HC5.o.below HC5.o.bl.size bdr).below (HC5.o.below HC5.o.bl.size bdr).bl.size hb1);have HXz := iH ((HXk.o.below bdr).below hb1);clear hb1;go_wp2_with fail
  refine hK.out _ _ ?_ fun hHeld => ?_
  · exact ⟨HCz.o.bl, HCz.o.bx, HXz.o⟩
  clear hK K;refine tkB 5 44 ?_;refine rdA 6 fun K hK => ?_;go_simp;refine (HIH.o k hlk Lr z1 HCz.o.bl HCz.o.ct hLr0 hLr1 hpq).mono ?_;rintro e w5 ⟨q5, L5, rfl, hq5, hL5, hc5, hp5⟩;have HC6 := iH (HCz.o.past hg hgw hp5 hc5);have HXw := iH (HXz.o.past hp5 (by have h1 := HGK.o; omega));have HS : Hd (sumN (k + 1) (fun i => psz (kid i)) = sumN k (fun i => psz (kid i)) + psz (kid k)) := rfl;clear hc5 hp5;cases q5
  · have HNO : Hd (¬ (pOk (.mk d kid) p ∧ ((psz (.mk d kid) : Nat) : Int) ≤ L)) := fun hh => by
     have h1 := hh.1.2.2 k hlk;have h3 := sumN_mono (f := (fun i => psz (kid i))) (show k + 1 ≤ d.n by omega);have h4 := HLR.o;have h5 := HS.o;have h6 := hh.2;have h8 := HLX.o;have h9 := HSZ.o;have h7 := hq5.2 ⟨h1, by omega⟩
     cases h7
    clear hq5 hL5;go_wp2_with fail
    refine hK.out _ _ ?_ fun hHeld => ?_
    · exact ⟨HC6.o.bl, HC6.o.bx, HXw.o⟩
    clear hK K;refine tkB 7 46 ?_;refine wpAnyH_done (by kernel_rfl) ?_ _;clear hHeld HC5 HCz HXk HXz HXw;go_wp2;go_ret;exact CtrAns.no HNO.o HC6.o.ct HC6.o.pa
  obtain ⟨h51, h52⟩ := hq5.1 rfl;have h53 := hL5 rfl;have HN5 := iH h51;have HL5 : Hd (L5 = L6 - (sumN (k + 1) (fun i => psz (kid i)) : Nat)) := (show L5 = _ by have h1 := HS.o; have h2 := HLR.o; omega);have hL50 : 0 ≤ L5 := by omega
  have hL51 : L5 ≤ 100000 := by omega
  clear h51 h52 h53 hq5 hL5;go_wp2_with fail
  refine hK.out _ _ ?_ fun hHeld => ?_
  · exact ⟨HC6.o.bl, HC6.o.bx, HXw.o⟩
  clear hK K;refine tkB 7 46 ?_;refine wpAnyH_done (by kernel_rfl) ?_ _;clear hHeld HC5 HCz HXk HXz HXw;go_wp2;go_roundw
  case rel =>
   refine ⟨k + 1, L5, by omega, by go_num, hL50, hL51, HL5, fun j hj => ?_, HC6⟩
   by_cases e : j = k
   · subst e
     exact HN5.o
   exact HOKS.o j (by omega)
  case measure => simp [intOf]; omega
end Go.Proofs.YtoloadogihbdeaaGreat
