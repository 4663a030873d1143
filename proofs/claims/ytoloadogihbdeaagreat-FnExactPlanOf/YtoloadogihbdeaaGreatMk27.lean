import Derived.Test.YtoloadogihbdeaaGreatMk26
namespace Go.Proofs.YtoloadogihbdeaaGreat
open Go.RowKit Go.Deep
set_option maxHeartbeats 40000000
set_option maxRecDepth 100000
variable {da : AN} {b f : AT} {e : ET} {q : Nat} {kida : Nat → AT}
theorem surely_bgp (d : AN) (kid : Nat → AT) (v : SL) (w : World) (h : (AT.mk d kid).lies 0 w) (hw : WA (AT.mk d kid)) (hac : ac (AT.mk d kid) ≤ NN) (hv : BsF 0 w v) (hvn : v.b ≠ []) (h0 : d.k = 0)
 (IH : ∀ i, i < d.n → ∀ W, Bl w W → Calls Tryz.prog 163 #[.agg (kid i).d.ar, .slice v.a v.len v.cap] W (Tells (sureB v.b (kid i) = true) W)) :
 Calls Tryz.prog 163 #[.agg d.ar, .slice v.a v.len v.cap] w (Tells (sureB v.b (AT.mk d kid) = true) w) := by
 try unfold AN.ar AN.cl
 suffices hs : ∀ P : Prop, (P ↔ sureB v.b (AT.mk d kid) = true) → Calls Tryz.prog 163 #[.agg #[.int .i64 d.k, .slice d.pa d.pn d.pc, .int .i64 d.e.d.k, .int .i64 d.e.d.op, .slice d.e.d.v.a d.e.d.v.len d.e.d.v.cap, .int .i64 d.e.d.t.t.k, .slice d.e.d.t.t.a d.e.d.t.t.len d.e.d.t.t.cap, .int .i64 d.e.d.t.t.n, .int .i64 d.e.d.t.t.s, .slice d.e.d.ka d.e.d.n d.e.d.kc, .slice d.v.a d.v.len d.v.cap, .slice d.ta d.tb.length d.tc, .slice d.ka d.n d.kc], .slice v.a v.len v.cap] w (Tells P w) from hs _ Iff.rfl
 intro P hpe;have HPE := iH hpe;have HLI := iH h;have HWA := iH hw;have HAC := iH hac;have HV := iH hv;have HVN := iH hvn;have HI := iH IH;have HX := iH (Box.new w d.ar 52 (0, 0));have HB : Hd (Bl w (w.alloc (.cells d.ar 52))) := bl_a _;have HSZ : Hd ((w.alloc (.cells d.ar 52)).heap.size = w.heap.size + 1) := (show _ = _ by simp);clear hpe h hw hac hv hvn IH;have HSB : Hd (P ↔ v.b ∈ aV (AT.mk d kid) []) := (show P ↔ _ by rw [HPE.o, aV_bgp HWA.o HLI.o.2.2.2.1.ne h0]);have HK := iH h0;clear h0;have HAD : Hd (∀ (W : World) (g B b : Nat), VQ w W B g (.slice none 0 0) [] → RowQ W g (.slice none 0 0) 13 (some ⟨b, 0, none⟩) 1 (fun _ => (AT.mk d kid).d.cells) → Cl 83 #[.pointer (some ⟨g, 0, none⟩), .slice (some ⟨b, 0, none⟩) 1 1] W (AddQ w B g (.slice none 0 0) (aV (AT.mk d kid) []) W)) := fun W g B b hV hR => addAlgs_one _ 1 _ [] B g w W _ 1 (fun _ _ => HLI.o) hR hV (by show 0 + (0 + ac (AT.mk d kid)) ≤ _; have h := HAC.o; unfold NN at h; omega) (by omega) (fun i _ v' L' W' a' c' h1 h2 h3 h4 h5 => addAlgs_any _ v' L' B g w W' a' c' h1 h2 h3 h4 h5);go_in;go_upto_region 1 with fail
 generalize (w.alloc (.cells d.ar 52)) = W1 at *;have c0 := (by have h := HX.o.2 0 _ rfl; rwa [HK.o] at h);go_upto_region 3 with fail
 clear c0;go_upto_region 4 with fail
 have hq0 := vq_new HB.o 135;have HXn := iH (HX.o.below (bl_a (.cells #[.slice none 0 0] 135)));have HSn : Hd ((W1.alloc (.cells #[.slice none 0 0] 135)).heap.size = w.heap.size + 2) := (show _ = _ by simp [HSZ.o]);rw [HSZ.o] at hq0 ⊢;have HQ0 := iH hq0;clear hq0 HX HB HSZ;generalize W1.alloc _ = W2 at *;have lx : W2.rangeAt w.heap.size 0 d.cl := HXn.o.range 0 _ rfl;go_wp2_with (with_reducible refine wpv_at ?_; refine ldr rfl rfl rfl Tryz.underlying52 lx rfl ?_; try simp only [Act.put, sA, zA, cA])
 refine Calls.mono (HAD.o _ (w.heap.size + 1) (w.heap.size + 1) W2.heap.size ?hv ?hr) ?_
 case hv => exact HQ0.o.below (bl_a _)
 case hr => exact rowQ_of rfl (by have := HSn.o; omega) (fun e => by cases e)
 rintro r w3 ⟨v3, L3, rfl, hV3, hR3, _⟩;have HVL := iH hV3.vl;have HB3 := iH hV3.bl;have HR3 := iH hR3;have x3 := hV3.cell;clear hV3 hR3 lx HAD HQ0 HXn HSn;obtain ⟨a3, c3, rfl, _⟩ := HVL.o.form;have A := has_any _ L3 v _ w w3 HVL.o HB3.o HV.o (by have h := congrArg List.length HR3.o; rw [List.length_map] at h; have h2 := aV_len (AT.mk d kid) []; have h3 := HAC.o; unfold NN at h3; simp only [List.length_nil] at h2; omega);go_wp2_with fail
 refine A.mono ?_;rintro r w4 ⟨q, rfl, hq, hb4⟩;have HT : Hd (q = true ↔ P) := (show _ ↔ _ by rw [hq, HSB.o, ← HR3.o]; exact Iff.rfl);have HB4 := iH (bl_trans HB3.o hb4);clear A hq hb4 x3;go_wp2;go_ret;exact Tells.of HT.o HB4.o
theorem surely_rows (d : AN) (kid : Nat → AT) (v : SL) (w : World) (h : (AT.mk d kid).lies 0 w) (hw : WA (AT.mk d kid)) (hac : ac (AT.mk d kid) ≤ NN) (hv : BsF 0 w v) (hvn : v.b ≠ []) (h0 : ¬ d.k = 0) (h7 : d.k = 7)
 (IH : ∀ i, i < d.n → ∀ W, Bl w W → Calls Tryz.prog 163 #[.agg (kid i).d.ar, .slice v.a v.len v.cap] W (Tells (sureB v.b (kid i) = true) W)) :
 Calls Tryz.prog 163 #[.agg d.ar, .slice v.a v.len v.cap] w (Tells (sureB v.b (AT.mk d kid) = true) w) := by
 suffices hs : ∀ P : Prop, (P ↔ sureB v.b (AT.mk d kid) = true) → Calls Tryz.prog 163 #[.agg #[.int .i64 d.k, .slice d.pa d.pn d.pc, .int .i64 d.e.d.k, .int .i64 d.e.d.op, .slice d.e.d.v.a d.e.d.v.len d.e.d.v.cap, .int .i64 d.e.d.t.t.k, .slice d.e.d.t.t.a d.e.d.t.t.len d.e.d.t.t.cap, .int .i64 d.e.d.t.t.n, .int .i64 d.e.d.t.t.s, .slice d.e.d.ka d.e.d.n d.e.d.kc, .slice d.v.a d.v.len d.v.cap, .slice d.ta d.tb.length d.tc, .slice d.ka d.n d.kc], .slice v.a v.len v.cap] w (Tells P w) from hs _ Iff.rfl
 intro P hpe;have HPE := iH hpe;have HLI := iH h;have HWA := iH hw;have HAC := iH hac;have HV := iH hv;have HVN := iH hvn;have HI := iH IH;have HX := iH (Box.new w d.ar 52 (0, 0));have HB : Hd (Bl w (w.alloc (.cells d.ar 52))) := bl_a _;have HSZ : Hd ((w.alloc (.cells d.ar 52)).heap.size = w.heap.size + 1) := (show _ = _ by simp);clear hpe h hw hac hv hvn IH;have HSB : Hd (P ↔ d.v.b = v.b) := (show P ↔ _ by rw [HPE.o]; show (if d.k = 0 then _ else if d.k = 7 then _ else _) = true ↔ _; rw [if_neg h0, if_pos h7]; have hh := HVN.o; simp [hh]; exact eq_comm);have HK := iH h7;clear h7 h0;go_in;go_upto_region 1 with fail
 generalize (w.alloc (.cells d.ar 52)) = W1 at *;have c0 := (by have h := HX.o.2 0 _ rfl; rwa [HK.o] at h);have c10 := HX.o.2 10 _ rfl;have A := bytesEqual_any d.v v W1 (HLI.o.2.2.2.2.1.upper (uB HB.o)) (HV.o.upper (uB HB.o));go_wp2_with fail
 refine A.mono ?_;rintro r w4 ⟨q, rfl, hq, hb4⟩;have HT : Hd (q = true ↔ P) := (show _ ↔ _ by rw [hq, HSB.o]);have HB4 := iH (bl_trans HB.o hb4);clear A hq hb4 c10 c0;go_wp2;go_ret;exact Tells.of HT.o HB4.o
theorem surely_join (d : AN) (kid : Nat → AT) (v : SL) (w : World) (h : (AT.mk d kid).lies 0 w) (hw : WA (AT.mk d kid)) (hac : ac (AT.mk d kid) ≤ NN) (hv : BsF 0 w v) (hvn : v.b ≠ []) (h0 : ¬ d.k = 0) (h7 : ¬ d.k = 7) (hk : d.k = 1)
 (IH : ∀ i, i < d.n → ∀ W, Bl w W → Calls Tryz.prog 163 #[.agg (kid i).d.ar, .slice v.a v.len v.cap] W (Tells (sureB v.b (kid i) = true) W)) :
 Calls Tryz.prog 163 #[.agg d.ar, .slice v.a v.len v.cap] w (Tells (sureB v.b (AT.mk d kid) = true) w) := by
 suffices hs : ∀ P : Prop, (P ↔ sureB v.b (AT.mk d kid) = true) → Calls Tryz.prog 163 #[.agg #[.int .i64 d.k, .slice d.pa d.pn d.pc, .int .i64 d.e.d.k, .int .i64 d.e.d.op, .slice d.e.d.v.a d.e.d.v.len d.e.d.v.cap, .int .i64 d.e.d.t.t.k, .slice d.e.d.t.t.a d.e.d.t.t.len d.e.d.t.t.cap, .int .i64 d.e.d.t.t.n, .int .i64 d.e.d.t.t.s, .slice d.e.d.ka d.e.d.n d.e.d.kc, .slice d.v.a d.v.len d.v.cap, .slice d.ta d.tb.length d.tc, .slice d.ka d.n d.kc], .slice v.a v.len v.cap] w (Tells P w) from hs _ Iff.rfl
 intro P hpe;have HPE := iH hpe;have HLI := iH h;have HWA := iH hw;have HAC := iH hac;have HV := iH hv;have HVN := iH hvn;have HI := iH IH;have HX := iH (Box.new w d.ar 52 (0, 0));have HB : Hd (Bl w (w.alloc (.cells d.ar 52))) := bl_a _;have HSZ : Hd ((w.alloc (.cells d.ar 52)).heap.size = w.heap.size + 1) := (show _ = _ by simp);clear hpe h hw hac hv hvn IH;have hn : d.n = 2 := by have h : d.n = kidsA d.k := HWA.o.1.2.2; rw [hk, kidsA_two (by omega)] at h; exact h
 have HSB : Hd (P ↔ (sureB v.b (kid 0) = true ∨ sureB v.b (kid 1) = true)) := (show P ↔ _ by rw [HPE.o]; show (if d.k = 0 then _ else if d.k = 7 then _ else if d.k = 1 then _ else if d.k = 3 then _ else _) = true ↔ _; rw [if_neg h0, if_neg h7, if_pos hk]; simp);have HK := iH hk;clear hk h0 h7;obtain ⟨b, off, hka, _, hlt, hc⟩ := HLI.o.2.2.2.2.2.2.2.2.1.resolve_left (by show ¬ d.n = 0; omega);have HK0 : Hd (∀ W, Bl w W → W.rangeAt b off (kid 0).d.cl) := fun W hb c u hu => (hb.cell (p := ⟨b, off + c, none⟩) hlt).trans (by have h := hc 0 (by omega) c u hu; rwa [Nat.zero_mul, Nat.add_zero] at h);have HK1 : Hd (∀ W, Bl w W → W.rangeAt b (off + 13) (kid 1).d.cl) := fun W hb c u hu => (hb.cell (p := ⟨b, off + 13 + c, none⟩) hlt).trans (by have h := hc 1 (by omega) c u hu; rwa [Nat.one_mul] at h);replace HX : Hd (Box (w.alloc (.cells d.ar 52)) w.heap.size (gL d.k (.slice d.pa d.pn d.pc) d.e.d d.v (.slice d.ta d.tb.length d.tc) (.slice (some ⟨b, off, none⟩) d.n d.kc))) := (show Box _ _ _ by rw [← hka]; exact HX.o);have HN2 := iH hn;have h0n : (0 : Int) < (d.n : Int) := by omega
 have hnz : ¬ d.n = 0 := by omega
 have h1n : (1 : Int) < (d.n : Int) := by omega
 have hnl : ¬ d.n ≤ 1 := by omega
 clear hka hlt hc hn;go_in;go_upto_region 1 with fail
 generalize (w.alloc (.cells d.ar 52)) = W1 at *;have c0 := (by have h := HX.o.2 0 _ rfl; rwa [HK.o] at h);have c12 := HX.o.2 12 _ rfl;have l0 := HK0.o W1 HB.o;go_wp2_with (with_reducible refine wpv_at ?_; refine wpList_load_mid rfl 52 _ rfl _ _ rfl (kid 0).d.cl _ l0 Tryz.underlying52 rfl (by kernel_rfl) ?_; try simp only [Act.put, sA, zA, cA])
 refine (HI.o 0 (by have := HN2.o; omega) _ HB.o).mono ?_;rintro r w3 ⟨q, rfl, hq, hb3⟩;have HQ : Hd (TQ q (sureB v.b (kid 0) = true)) := hq;have HXn := iH (HX.o.below hb3);have HBn := iH (bl_trans HB.o hb3);clear hq hb3 HX HB c0 c12 l0;have c12 := HXn.o.2 12 _ rfl;cases q with
 | true =>
  go_wp2;go_ret;exact Tells.of ⟨fun _ => HSB.o.2 (.inl HQ.o.yes), fun _ => rfl⟩ HBn.o
 | false =>
  have l1 := HK1.o w3 HBn.o;go_wp2_with (with_reducible refine wpq_at ?_; refine wpq_stop 52 _ rfl ?_)
  change wpList _ _ _ _ _ _;refine wpq_load ?hw 52 _ rfl b (off + 13) rfl (kid 1).d.cl _ l1 Tryz.underlying52 rfl (by kernel_rfl) ?_
  case hw => rfl
  simp only [Act.put, sA, zA, cA];go_wp2_with fail
  refine (HI.o 1 (by have := HN2.o; omega) _ HBn.o).mono ?_;rintro r w4 ⟨q2, rfl, hq2, hb4⟩;have HT : Hd (q2 = true ↔ P) := (show _ ↔ _ by rw [hq2, HSB.o]; exact ⟨.inr, fun h => h.resolve_left HQ.o.no⟩);have HB4 := iH (bl_trans HBn.o hb4);clear hq2 hb4 c12 l1;go_wp2;go_ret;exact Tells.of HT.o HB4.o
theorem surely_union (d : AN) (kid : Nat → AT) (v : SL) (w : World) (h : (AT.mk d kid).lies 0 w) (hw : WA (AT.mk d kid)) (hac : ac (AT.mk d kid) ≤ NN) (hv : BsF 0 w v) (hvn : v.b ≠ []) (h0 : ¬ d.k = 0) (h7 : ¬ d.k = 7) (hk : d.k = 3)
 (IH : ∀ i, i < d.n → ∀ W, Bl w W → Calls Tryz.prog 163 #[.agg (kid i).d.ar, .slice v.a v.len v.cap] W (Tells (sureB v.b (kid i) = true) W)) :
 Calls Tryz.prog 163 #[.agg d.ar, .slice v.a v.len v.cap] w (Tells (sureB v.b (AT.mk d kid) = true) w) := by
 suffices hs : ∀ P : Prop, (P ↔ sureB v.b (AT.mk d kid) = true) → Calls Tryz.prog 163 #[.agg #[.int .i64 d.k, .slice d.pa d.pn d.pc, .int .i64 d.e.d.k, .int .i64 d.e.d.op, .slice d.e.d.v.a d.e.d.v.len d.e.d.v.cap, .int .i64 d.e.d.t.t.k, .slice d.e.d.t.t.a d.e.d.t.t.len d.e.d.t.t.cap, .int .i64 d.e.d.t.t.n, .int .i64 d.e.d.t.t.s, .slice d.e.d.ka d.e.d.n d.e.d.kc, .slice d.v.a d.v.len d.v.cap, .slice d.ta d.tb.length d.tc, .slice d.ka d.n d.kc], .slice v.a v.len v.cap] w (Tells P w) from hs _ Iff.rfl
 intro P hpe;have HPE := iH hpe;have HLI := iH h;have HWA := iH hw;have HAC := iH hac;have HV := iH hv;have HVN := iH hvn;have HI := iH IH;have HX := iH (Box.new w d.ar 52 (0, 0));have HB : Hd (Bl w (w.alloc (.cells d.ar 52))) := bl_a _;have HSZ : Hd ((w.alloc (.cells d.ar 52)).heap.size = w.heap.size + 1) := (show _ = _ by simp);clear hpe h hw hac hv hvn IH;have hn : d.n = 2 := by have h : d.n = kidsA d.k := HWA.o.1.2.2; rw [hk, kidsA_two (by omega)] at h; exact h
 have HSB : Hd (P ↔ (sureB v.b (kid 0) = true ∧ sureB v.b (kid 1) = true)) := (show P ↔ _ by rw [HPE.o]; show (if d.k = 0 then _ else if d.k = 7 then _ else if d.k = 1 then _ else if d.k = 3 then _ else _) = true ↔ _; rw [if_neg h0, if_neg h7, if_neg (by omega), if_pos hk]; simp);have HK := iH hk;clear hk h0 h7;obtain ⟨b, off, hka, _, hlt, hc⟩ := HLI.o.2.2.2.2.2.2.2.2.1.resolve_left (by show ¬ d.n = 0; omega);have HK0 : Hd (∀ W, Bl w W → W.rangeAt b off (kid 0).d.cl) := fun W hb c u hu => (hb.cell (p := ⟨b, off + c, none⟩) hlt).trans (by have h := hc 0 (by omega) c u hu; rwa [Nat.zero_mul, Nat.add_zero] at h);have HK1 : Hd (∀ W, Bl w W → W.rangeAt b (off + 13) (kid 1).d.cl) := fun W hb c u hu => (hb.cell (p := ⟨b, off + 13 + c, none⟩) hlt).trans (by have h := hc 1 (by omega) c u hu; rwa [Nat.one_mul] at h);replace HX : Hd (Box (w.alloc (.cells d.ar 52)) w.heap.size (gL d.k (.slice d.pa d.pn d.pc) d.e.d d.v (.slice d.ta d.tb.length d.tc) (.slice (some ⟨b, off, none⟩) d.n d.kc))) := (show Box _ _ _ by rw [← hka]; exact HX.o);have HN2 := iH hn;have h0n : (0 : Int) < (d.n : Int) := by omega
 have hnz : ¬ d.n = 0 := by omega
 have h1n : (1 : Int) < (d.n : Int) := by omega
 have hnl : ¬ d.n ≤ 1 := by omega
 clear hka hlt hc hn;go_in;go_upto_region 1 with fail
 generalize (w.alloc (.cells d.ar 52)) = W1 at *;have c0 := (by have h := HX.o.2 0 _ rfl; rwa [HK.o] at h);have c12 := HX.o.2 12 _ rfl;have l0 := HK0.o W1 HB.o;go_wp2_with (with_reducible refine wpv_at ?_; refine wpList_load_mid rfl 52 _ rfl _ _ rfl (kid 0).d.cl _ l0 Tryz.underlying52 rfl (by kernel_rfl) ?_; try simp only [Act.put, sA, zA, cA])
 refine (HI.o 0 (by have := HN2.o; omega) _ HB.o).mono ?_;rintro r w3 ⟨q, rfl, hq, hb3⟩;have HQ : Hd (TQ q (sureB v.b (kid 0) = true)) := hq;have HXn := iH (HX.o.below hb3);have HBn := iH (bl_trans HB.o hb3);clear hq hb3 HX HB c0 c12 l0;have c12 := HXn.o.2 12 _ rfl;cases q
 · go_wp2
   go_ret;exact Tells.no (fun h => HQ.o.no (HSB.o.1 h).1) HBn.o
 have l1 := HK1.o w3 HBn.o;go_wp2_with (with_reducible refine wpq_at ?_; refine wpq_stop 52 _ rfl ?_)
 change wpList _ _ _ _ _ _;refine wpq_load ?hw 52 _ rfl b (off + 13) rfl (kid 1).d.cl _ l1 Tryz.underlying52 rfl (by kernel_rfl) ?_
 case hw => rfl
 simp only [Act.put, sA, zA, cA];go_wp2_with fail
 refine (HI.o 1 (by have := HN2.o; omega) _ HBn.o).mono ?_;rintro r w4 ⟨q2, rfl, hq2, hb4⟩;have HT : Hd (q2 = true ↔ P) := (show _ ↔ _ by rw [hq2, HSB.o]; exact ⟨fun h => ⟨HQ.o.yes, h⟩, fun h => h.2⟩);have HB4 := iH (bl_trans HBn.o hb4);clear hq2 hb4 c12 l1;go_wp2;go_ret;exact Tells.of HT.o HB4.o
theorem surely_else (d : AN) (kid : Nat → AT) (v : SL) (w : World) (h : (AT.mk d kid).lies 0 w) (hw : WA (AT.mk d kid)) (hac : ac (AT.mk d kid) ≤ NN) (hv : BsF 0 w v) (hvn : v.b ≠ []) (h0 : ¬ d.k = 0) (h7 : ¬ d.k = 7) (h1 : ¬ d.k = 1) (h3 : ¬ d.k = 3)
 (IH : ∀ i, i < d.n → ∀ W, Bl w W → Calls Tryz.prog 163 #[.agg (kid i).d.ar, .slice v.a v.len v.cap] W (Tells (sureB v.b (kid i) = true) W)) :
 Calls Tryz.prog 163 #[.agg d.ar, .slice v.a v.len v.cap] w (Tells (sureB v.b (AT.mk d kid) = true) w) := by
 suffices hs : ∀ P : Prop, (P ↔ sureB v.b (AT.mk d kid) = true) → Calls Tryz.prog 163 #[.agg #[.int .i64 d.k, .slice d.pa d.pn d.pc, .int .i64 d.e.d.k, .int .i64 d.e.d.op, .slice d.e.d.v.a d.e.d.v.len d.e.d.v.cap, .int .i64 d.e.d.t.t.k, .slice d.e.d.t.t.a d.e.d.t.t.len d.e.d.t.t.cap, .int .i64 d.e.d.t.t.n, .int .i64 d.e.d.t.t.s, .slice d.e.d.ka d.e.d.n d.e.d.kc, .slice d.v.a d.v.len d.v.cap, .slice d.ta d.tb.length d.tc, .slice d.ka d.n d.kc], .slice v.a v.len v.cap] w (Tells P w) from hs _ Iff.rfl
 intro P hpe;have HPE := iH hpe;have HLI := iH h;have HWA := iH hw;have HAC := iH hac;have HV := iH hv;have HVN := iH hvn;have HI := iH IH;have HX := iH (Box.new w d.ar 52 (0, 0));have HB : Hd (Bl w (w.alloc (.cells d.ar 52))) := bl_a _;have HSZ : Hd ((w.alloc (.cells d.ar 52)).heap.size = w.heap.size + 1) := (show _ = _ by simp);clear hpe h hw hac hv hvn IH;have hk0 := HWA.o.1.1;have hk7 := HWA.o.1.2.1;have hn := hn_of HWA.o.1.2.2 (by omega);have HSB : Hd (P ↔ sureB v.b (kid 0) = true) := (show P ↔ _ by rw [HPE.o]; show (if d.k = 0 then _ else if d.k = 7 then _ else if d.k = 1 then _ else if d.k = 3 then _ else _) = true ↔ _; rw [if_neg h0, if_neg h7, if_neg h1, if_neg h3]);have b0 : (d.k == 0) = false := by simpa using h0
 have b7 : (d.k == 7) = false := by simpa using h7
 have b1 : (d.k == 1) = false := by simpa using h1
 have b3 : (d.k == 3) = false := by simpa using h3
 clear h0 h7 h1 h3 hk0 hk7;obtain ⟨b, off, hka, _, hlt, hc⟩ := HLI.o.2.2.2.2.2.2.2.2.1.resolve_left (by show ¬ d.n = 0; omega);have HK0 : Hd (∀ W, Bl w W → W.rangeAt b off (kid 0).d.cl) := fun W hb c u hu => (hb.cell (p := ⟨b, off + c, none⟩) hlt).trans (by have h := hc 0 (by omega) c u hu; rwa [Nat.zero_mul, Nat.add_zero] at h);replace HX : Hd (Box (w.alloc (.cells d.ar 52)) w.heap.size (gL d.k (.slice d.pa d.pn d.pc) d.e.d d.v (.slice d.ta d.tb.length d.tc) (.slice (some ⟨b, off, none⟩) d.n d.kc))) := (show Box _ _ _ by rw [← hka]; exact HX.o);have HN2 := iH hn;have h0n : (0 : Int) < (d.n : Int) := by omega
 have hnz : ¬ d.n = 0 := by omega
 clear hka hlt hc hn;go_in;go_upto_region 1 with fail
 generalize (w.alloc (.cells d.ar 52)) = W1 at *;have c0 := HX.o.2 0 _ rfl;have c12 := HX.o.2 12 _ rfl;have l0 := HK0.o W1 HB.o;go_wp2_with (with_reducible refine wpv_at ?_; refine wpList_load_mid rfl 52 _ rfl _ _ rfl (kid 0).d.cl _ l0 Tryz.underlying52 rfl (by kernel_rfl) ?_; try simp only [Act.put, sA, zA, cA])
 refine (HI.o 0 (by have := HN2.o; omega) _ HB.o).mono ?_;rintro r w3 ⟨q, rfl, hq, hb3⟩;have HT : Hd (q = true ↔ P) := (show _ ↔ _ by rw [hq, HSB.o]);have HB4 := iH (bl_trans HB.o hb3);clear hq hb3 c0 c12 l0;go_wp2;go_ret;exact Tells.of HT.o HB4.o
theorem surely_any (v : SL) (hvn : v.b ≠ []) (a : AT) : ∀ (w : World), a.lies 0 w → WA a → ac a ≤ NN → BsF 0 w v → Calls Tryz.prog 163 #[.agg a.d.ar, .slice v.a v.len v.cap] w (Tells (sureB v.b a = true) w) := by
 induction a with
 | nil => exact fun _ h => False.elim h
 | mk d kid ih =>
  intro w h hw hac hv;have IH : ∀ i, i < d.n → ∀ W, Bl w W → Calls Tryz.prog 163 #[.agg (kid i).d.ar, .slice v.a v.len v.cap] W (Tells (sureB v.b (kid i) = true) W) := fun i hi W hb => by
   refine ih i W (AT.lies.upper (uB hb) (h.2.2.2.2.2.2.2.2.2 i hi)) (hw.2.2.2.2 i hi) ?_ (hv.upper (uB hb));have e : ac (AT.mk d kid) = 3 * d.pn + esz d.e + 1 + sumN d.n (fun i => ac (kid i)) := rfl;have h2 := sumN_le (f := fun i => ac (kid i)) hi;have h3 : (fun i => ac (kid i)) i = ac (kid i) := rfl;omega
  by_cases h0 : d.k = 0
  · exact surely_bgp d kid v w h hw hac hv hvn h0 IH
  by_cases h7 : d.k = 7
  · exact surely_rows d kid v w h hw hac hv hvn h0 h7 IH
  by_cases h1 : d.k = 1
  · exact surely_join d kid v w h hw hac hv hvn h0 h7 h1 IH
  by_cases h3 : d.k = 3
  · exact surely_union d kid v w h hw hac hv hvn h0 h7 h3 IH
  exact surely_else d kid v w h hw hac hv hvn h0 h7 h1 h3 IH
theorem indexG_any (v : Value) (L : List SL) (G : SL → Prop) (c B : Nat) (w0 w : World) (h : VL w0 w B v L) (hn : L.length ≤ 1048576) (HNP : ∀ x ∈ L, ∀ W, Bl w W → Calls Tryz.prog 162 #[.slice x.a x.len x.cap, .pointer (some ⟨c, 0, none⟩)] W (Tells (¬ G x) W)) :
 Calls Tryz.prog 178 #[v, .func (.func 162) #[] #[.pointer (some ⟨c, 0, none⟩)]] w (IdxAns (∀ x ∈ L, G x) w) := by
 obtain ⟨a, cap, rfl, hf⟩ := h.form;obtain ⟨n, hnn⟩ : ∃ n, n = L.length := ⟨_, rfl⟩;have HN := iH hnn;have HNP := iH HNP;rw [← hnn] at hn ⊢;by_cases hL : L = []
 · have HNI : Hd (∀ x ∈ L, G x) := (show _ by rw [hL]; exact fun x hx => absurd hx (List.not_mem_nil))
   have hn0 : n = 0 := by rw [hnn, hL]; rfl
   clear h hf hnn hL HN HNP;subst hn0;go_in;go_wp2_with fail
   go_loopw [8] (fun i wr => i = .int .i64 0 ∧ Hd (Bl w wr)) (fun _ _ => 0)
   case atStart => exact ⟨rfl, Below.refl _ _⟩
   obtain ⟨rfl, HB⟩ := hrel;go_wp2;go_ret;exact IdxAns.of ⟨fun h => absurd h (by decide), fun h => absurd HNI.o h⟩ HB.o
 obtain ⟨g, rfl, _, hg, hcs⟩ := hf.resolve_left hL;have HCS := iH hcs;clear h hf hnn hL hcs;go_in;go_wp2_with fail
 go_loopw [8] (fun i wr => ∃ k : Nat, k ≤ n ∧ i = .int .i64 k ∧ Hd (∀ j y, j < k → L[j]? = some y → G y) ∧ Hd (Bl w wr)) (fun i _ => n - (intOf i).toNat)
 case atStart => exact ⟨0, nZ, rfl, fun j y hj => absurd hj nN, Below.refl _ _⟩
 obtain ⟨k, hk, rfl, HNE, HB⟩ := hrel;by_cases hlk : k < n;rotate_left
 · obtain rfl : k = n := by omega
   have hlkz : ¬ (k : Int) < (k : Int) := by omega
   have HNI : Hd (∀ x ∈ L, G x) := fun y hy => by
    obtain ⟨j, hj, rfl⟩ := List.getElem_of_mem hy;exact HNE.o j _ (by rw [HN.o]; exact hj) (List.getElem?_eq_getElem hj)
   go_wp2;go_ret;exact IdxAns.of ⟨fun h => absurd h (by decide), fun h => absurd HNI.o h⟩ HB.o
 have hlkz : (k : Int) < (n : Int) := by omega
 obtain ⟨y, hy⟩ : ∃ y, L[k]? = some y := ⟨_, List.getElem?_eq_getElem (by rw [← HN.o]; exact hlk)⟩;have HY := iH hy;have y0 := (HB.o.cell (p := ⟨g, k, none⟩) hg).trans (HCS.o k y hy);have A := HNP.o y (List.mem_of_getElem? hy) wr HB.o;clear hy;go_wp2_with fail
 refine A.mono ?_;rintro e w1 ⟨q1, rfl, hq1, hb1⟩;have HB1 := iH (bl_trans HB.o hb1);have HQ1 : Hd (TQ q1 (¬ G y)) := hq1;clear hb1 HB y0 hq1 A;cases q1 with
 | true =>
  go_wp2;go_ret;exact IdxAns.of ⟨fun _ h => HQ1.o.yes (h y (List.mem_of_getElem? HY.o)), fun _ => by omega⟩ HB1.o
 | false =>
  have HYX := iH (Classical.not_not.1 HQ1.o.no);clear HQ1;go_wp2;go_roundw
  case rel =>
   refine ⟨k + 1, by omega, by go_num, fun j z hj hz => ?_, HB1⟩
   by_cases e : j = k
   · subst e
     rw [HY.o] at hz;cases hz;exact HYX.o
   exact HNE.o j z (by omega) hz
  case measure => simp [intOf]; omega
theorem containsG_any (v : Value) (L : List SL) (G : SL → Prop) (c B : Nat) (w0 w : World) (h : VL w0 w B v L) (hn : L.length ≤ 1048576) (HNP : ∀ x ∈ L, ∀ W, Bl w W → Calls Tryz.prog 162 #[.slice x.a x.len x.cap, .pointer (some ⟨c, 0, none⟩)] W (Tells (¬ G x) W)) :
 Calls Tryz.prog 159 #[v, .func (.func 162) #[] #[.pointer (some ⟨c, 0, none⟩)]] w (Tells (¬ ∀ x ∈ L, G x) w) := by
 have IX := indexG_any v L G c B w0 w h hn HNP;obtain ⟨P, hP⟩ : ∃ P : Prop, P = ∀ x ∈ L, G x := ⟨_, rfl⟩;rw [← hP] at IX ⊢;obtain ⟨a, cap, rfl, _⟩ := h.form;clear hP h hn HNP;go_in;go_wp2_with fail
 refine IX.mono ?_;rintro e w1 ⟨v, rfl, hv, hb⟩;have HV := iH hv;have HB := iH hb;clear IX hv hb;go_wp2;go_ret;refine Tells.of ?_ HB.o;rw [← HV.o];simp
theorem surelyC_any (a : AT) (v : SL) (c : Nat) (w : World) (hx : Box w c a.d.cl) (ha : a.lies 0 w) (hw : WA a) (hac : ac a ≤ NN) (hv : BsF 0 w v) (hvn : v.b ≠ []) :
 Calls Tryz.prog 162 #[.slice v.a v.len v.cap, .pointer (some ⟨c, 0, none⟩)] w (Tells (¬ sureB v.b a = true) w) := by
 try unfold AN.ar AN.cl
 have A := surely_any v hvn a w ha hw hac hv;obtain ⟨P, hP⟩ : ∃ P : Prop, P = (sureB v.b a = true) := ⟨_, rfl⟩;rw [← hP] at A ⊢;have lx : w.rangeAt c 0 a.d.cl := hx.range 0 _ rfl;clear hP hx ha hw hac hv hvn;go_in;go_wp2_with (with_reducible refine wpv_at ?_; refine ldr rfl rfl rfl Tryz.underlying52 lx rfl ?_; try simp only [Act.put, sA, zA, cA])
 refine A.mono ?_;rintro e w1 ⟨q, rfl, hq, hb⟩;have HQ := iH hq;have HB := iH hb;clear A hq hb lx;go_wp2;go_ret;refine Tells.of ?_ HB.o;rw [← HQ.o];simp
theorem eV_names : ∀ {l : List (List Int)}, (∀ y ∈ l, y ≠ []) → ∀ y ∈ eV e l, y ≠ [] := by
 induction e with
 | nil => exact fun hl => hl
 | mk d kid ih =>
  intro l hl;have step : ∀ (n : Nat) {m : List (List Int)}, (∀ y ∈ m, y ≠ []) → ∀ y ∈ foldN n (fun i acc => eV (kid i) acc) m, y ≠ [] := by
   intro n;induction n with
   | zero => exact fun hm => hm
   | succ n ihn => exact fun hm => ih n (ihn hm)
  exact step d.n (fun y hy => (mem_addV.1 hy).elim (hl y) fun h => h.2 ▸ h.1)
theorem surelyAll_any (e : ET) (a : AT) (w : World) (he : e.lies 0 w) (ha : a.lies 0 w) (hw : WA a) (hez : esz e ≤ NN) (hac : ac a ≤ NN) :
 Calls Tryz.prog 147 #[.agg a.d.ar, .agg e.d.ar] w (Tells (((eV e []).all fun v => sureB v a) = true) w) := by
 try unfold AN.ar AN.cl
 try unfold EN.ar EN.cl
 suffices hs : ∀ P : Prop, (P ↔ ((eV e []).all fun v => sureB v a) = true) → Calls Tryz.prog 147 #[.agg #[.int .i64 a.d.k, .slice a.d.pa a.d.pn a.d.pc, .int .i64 a.d.e.d.k, .int .i64 a.d.e.d.op, .slice a.d.e.d.v.a a.d.e.d.v.len a.d.e.d.v.cap, .int .i64 a.d.e.d.t.t.k, .slice a.d.e.d.t.t.a a.d.e.d.t.t.len a.d.e.d.t.t.cap, .int .i64 a.d.e.d.t.t.n, .int .i64 a.d.e.d.t.t.s, .slice a.d.e.d.ka a.d.e.d.n a.d.e.d.kc, .slice a.d.v.a a.d.v.len a.d.v.cap, .slice a.d.ta a.d.tb.length a.d.tc, .slice a.d.ka a.d.n a.d.kc], .agg #[.int .i64 e.d.k, .int .i64 e.d.op, .slice e.d.v.a e.d.v.len e.d.v.cap, .int .i64 e.d.t.t.k, .slice e.d.t.t.a e.d.t.t.len e.d.t.t.cap, .int .i64 e.d.t.t.n, .int .i64 e.d.t.t.s, .slice e.d.ka e.d.n e.d.kc]] w (Tells P w) from hs _ Iff.rfl
 intro P hpe;have HPE := iH hpe;have HEL : Hd (e.lies 0 w ∧ a.lies 0 w ∧ WA a ∧ esz e ≤ NN ∧ ac a ≤ NN) := ⟨he, ha, hw, hez, hac⟩;have HX : Hd (Box ((w.alloc (.cells a.d.ar 52)).alloc (.cells e.d.ar 42)) w.heap.size a.d.cl) := (Box.new w _ 52 _).below (bl_a _);have HE := iH (show Box _ _ _ by have h := Box.new (w.alloc (.cells a.d.ar 52)) e.d.ar 42 (0, 0); simpa using h);have HB : Hd (Bl w ((w.alloc (.cells a.d.ar 52)).alloc (.cells e.d.ar 42))) := bl_alloc (bl_a _) _;have HSZ : Hd (((w.alloc (.cells a.d.ar 52)).alloc (.cells e.d.ar 42)).heap.size = w.heap.size + 2) := (show _ = _ by simp);clear hpe he ha hw hez hac;go_in;go_upto_region 1 with fail
 generalize ((w.alloc _).alloc _) = W1 at *;go_upto_region 2 with fail
 have hq0 := vq_new HB.o 135;have HXn := iH (HX.o.below (bl_a (.cells #[.slice none 0 0] 135)));have HEn := iH (HE.o.below (bl_a (.cells #[.slice none 0 0] 135)));have HSn : Hd ((W1.alloc (.cells #[.slice none 0 0] 135)).heap.size = w.heap.size + 3) := (show _ = _ by simp [HSZ.o]);rw [HSZ.o] at hq0 ⊢;have HQ0 := iH hq0;clear hq0 HX HE HB HSZ;generalize W1.alloc _ = W2 at *;have lx : W2.rangeAt (w.heap.size + 1) 0 e.d.cl := HEn.o.range 0 _ rfl;have A := addExpr_any e (.slice none 0 0) [] (w.heap.size + 2) (w.heap.size + 2) w W2 HEL.o.1 HQ0.o (by have h := HEL.o.2.2.2.1; unfold NN at h; simpa using h);go_wp2_with (with_reducible refine wpv_at ?_; refine ldr rfl rfl rfl Tryz.underlying42 lx rfl ?_; try simp only [Act.put, sA, zA, cA])
 refine A.mono ?_;rintro r w3 ⟨v3, L3, rfl, hV3, hR3, hK3⟩;have HVL := iH hV3.vl;have HB3 := iH hV3.bl;have HR3 : Hd (L3.map SL.b = eV e []) := hR3;have x3 := hV3.cell;have HX3 := iH (hK3.box HXn.o (by omega) (fun e => by cases e));clear hV3 hR3 hK3 A lx HQ0 HXn HEn HSn;obtain ⟨a3, c3, rfl, _⟩ := HVL.o.form;have HNM : Hd (∀ x ∈ L3, x.b ≠ []) := fun x hx => eV_names (e := e) (l := []) (fun y hy => absurd hy (List.not_mem_nil)) x.b (by rw [← HR3.o]; exact List.mem_map_of_mem hx);have A := containsG_any _ L3 (fun x => sureB x.b a = true) w.heap.size _ w w3 HVL.o (by have h := congrArg List.length HR3.o; rw [List.length_map] at h; have h2 := eV_len e []; have h3 := HEL.o.2.2.2.1; unfold NN at h3; simp only [List.length_nil] at h2; omega) (fun x hx W hb => surelyC_any a x w.heap.size W (HX3.o.below hb) (AT.lies.upper (uB (bl_trans HB3.o hb)) HEL.o.2.1) HEL.o.2.2.1 HEL.o.2.2.2.2 ((HVL.o.txt x hx).upper (uB (bl_trans HB3.o hb))) (HNM.o x hx));go_wp2_with fail
 refine A.mono ?_;rintro r w4 ⟨q, rfl, hq, hb4⟩;have HT : Hd (q = true ↔ ¬ P) := (show _ ↔ _ by rw [hq, HPE.o, List.all_eq_true, ← HR3.o]; exact not_congr ⟨fun h y hy => by obtain ⟨x, hx, rfl⟩ := List.mem_map.1 hy; exact h x hx, fun h x hx => h x.b (List.mem_map_of_mem hx)⟩);have HB4 := iH (bl_trans HB3.o hb4);clear A hq hb4 x3;go_wp2;go_ret;refine Tells.of ?_ HB4.o;have h := HT.o;cases q with
 | true => exact ⟨fun h2 => absurd h2 (by decide), fun h2 => absurd h2 (h.1 rfl)⟩
 | false => exact ⟨fun _ => Classical.not_not.1 fun h2 => (by have := h.2 h2; cases this), fun _ => rfl⟩
def A2Y (da : AN) (q : Nat) (f b : AT) : AT := .mk ⟨da.k, da.pa, da.pc, da.pn, da.pat, da.e, da.v, da.ta, da.tc, da.tb, some ⟨q, 0, none⟩, 2, 2⟩ (fun i => if i = 0 then f else b)
theorem A2Y.hung {w0 w : World} {g : Nat} (ha : (AT.mk da kida).hung w0 g w) (hf : f.hung w0 g w) (hb : b.hung w0 g w) (hx : Box w q (f.d.cells ++ b.d.cells)) (hq : q ≠ g) : (A2Y da q f b).hung w0 g w := by
 have h := A2X.hung (k := da.k) (ex := ET0) hf hb (ET0_ow 0 w0).l hx hq;obtain ⟨h1, h2, h3, h4, h5, h6, h7, _, _, _⟩ := ha;exact ⟨h1, h2, h3, h4, h5, h6, h7, h.2.2.2.2.2.2.2.1, h.2.2.2.2.2.2.2.2.1, h.2.2.2.2.2.2.2.2.2⟩
theorem A2Y.wa (hk : da.k = 1 ∨ da.k = 2 ∨ da.k = 3 ∨ da.k = 4) (h : WA (AT.mk da kida)) (hf : WA f) (hb : WA b) : WA (A2Y da q f b) := by
 obtain ⟨⟨h1, h2, _⟩, h4, h5, h6, _⟩ := h;refine ⟨⟨h1, h2, (kidsA_two hk).symm⟩, h4, h5, h6, fun i hi => ?_⟩;show WA (if i = 0 then f else b);split
 · exact hf
 exact hb
theorem A2Y.fa {N : Nat} (hk : da.k ≠ 5) (hf : FA N f) (hb : FA N b) : FA N (A2Y da q f b) := by
 refine ⟨fun h => absurd h hk, fun _ i hi => ?_⟩;show FA N (if i = 0 then f else b);split
 · exact hf
 exact hb
theorem A2Y.ma (hk : da.k ≠ 5) : mA (A2Y da q f b) = 1 + (mA f + mA b) := by
 show (if da.k = 5 then _ else 1 + sumN 2 _) = _;rw [if_neg hk, sum_two];rfl
theorem A2Y.same {ex : ET} {kid : Nat → AT} (hk : da.k = 1 ∨ da.k = 2 ∨ da.k = 3 ∨ da.k = 4) (h : WA (AT.mk da kida)) (he : da.e.same ex) (hf : f.same (kid 0)) (hb : b.same (kid 1)) : (A2Y da q f b).same (.mk ⟨da.k, none, 0, 0, AN0.pat, ex, SL0, none, 0, [], none, 2, 2⟩ kid) := by
 have hp := h.2.1.1 (by omega);have ht := h.2.1.2 (by omega);have hv := h.2.2.1.2 (by unfold hasV; omega);refine ⟨rfl, hp, fun i hi => absurd hi (by show ¬ i < da.pn; omega), he, hv, by show da.tb.map TB.td = _; rw [ht], rfl, fun i hi => ?_⟩
 have hi2 : i = 0 ∨ i = 1 := by have : i < 2 := hi; omega
 show AT.same (if i = 0 then f else b) (kid i);rcases hi2 with rfl | rfl
 · exact hf
 exact hb
theorem AF.same2 {a : AT} (he : e.same e) (ha : a.same b) : (AF e q a).same (filterA e b) := ⟨rfl, rfl, fun _ hi => absurd hi nN, he, rfl, rfl, rfl, fun _ _ => ha⟩
def EarR (w0 : World) (g : Nat) (e : ET) (a : AT) (w : World) (r : Ending) (w' : World) : Prop :=
 (early e a = none ∧ r = .returned (.tuple #[.agg #[.int .i64 0, .slice none 0 0, .int .i64 0, .int .i64 0, .slice none 0 0, .int .i64 0, .slice none 0 0, .int .i64 0, .int .i64 0, .slice none 0 0, .slice none 0 0, .slice none 0 0, .slice none 0 0], .bool false]) ∧ Bl w w') ∨ ∃ b b' : AT, early e a = some b' ∧ r = .returned (.tuple #[.agg #[.int .i64 b.d.k, .slice b.d.pa b.d.pn b.d.pc, .int .i64 b.d.e.d.k, .int .i64 b.d.e.d.op, .slice b.d.e.d.v.a b.d.e.d.v.len b.d.e.d.v.cap, .int .i64 b.d.e.d.t.t.k, .slice b.d.e.d.t.t.a b.d.e.d.t.t.len b.d.e.d.t.t.cap, .int .i64 b.d.e.d.t.t.n, .int .i64 b.d.e.d.t.t.s, .slice b.d.e.d.ka b.d.e.d.n b.d.e.d.kc, .slice b.d.v.a b.d.v.len b.d.v.cap, .slice b.d.ta b.d.tb.length b.d.tc, .slice b.d.ka b.d.n b.d.kc], .bool true]) ∧ b.hung w0 g w' ∧ b.same b' ∧ WA b ∧ FA NN b ∧ mA b = mA b' ∧ Bl w w'
theorem ear_and (d : EN) (kid : Nat → ET) (da : AN) (kida : Nat → AT) (g : Nat) (w0 w : World) (hb : Bl w0 w) (h0 : w0.heap.size ≤ g) (hgw : g < w.heap.size) (he : (ET.mk d kid).lies 0 w0) (ha : (AT.mk da kida).hung w0 g w) (hwe : WE (ET.mk d kid)) (hwa : WA (AT.mk da kida)) (hez : esz (ET.mk d kid) ≤ NN) (hfa : FA NN (AT.mk da kida)) (hac : da.k = 5 ∨ ac (AT.mk da kida) ≤ NN) (hand : d.k = 2 ∧ d.op = 6) :
 Calls Tryz.prog 123 #[.agg d.ar, .agg da.ar] w (EarR w0 g (ET.mk d kid) (AT.mk da kida) w) := by
 have hn2 := hwe.1 hand.1;have hne : ¬ d.n = 0 := by omega
 have HEA : Hd (early (ET.mk d kid) (AT.mk da kida) = some (filterA (kid 0) (filterA (kid 1) (AT.mk da kida)))) := early_and hand;have HAND := iH hand;have HNN := iH hn2;clear hand hn2;have HBW := iH hb;have HG0 := iH h0;have HE0 := iH he;have HA0 := iH ha;have HWE := iH hwe;have HWA := iH hwa;have HEZ := iH hez;have HFA := iH hfa;have HAC := iH hac;have hw0 := hb.size;obtain ⟨be, oe, hke, _, hle, hce⟩ := he.2.2.2.2.1.resolve_left hne;have HKE : Hd (∀ i, i < d.n → ∀ W, Past g w W → W.rangeAt be (oe + i * 8) (kid i).d.cells) := fun i hi W hW c u hu => ((hb.trans (hW.below h0 hw0)).cell (p := ⟨be, oe + i * 8 + c, none⟩) hle).trans (hce i hi c u hu);have HF : Hd (FE w g (eL d.k d.op d.v d.t (.slice (some ⟨be, oe, none⟩) d.n d.kc)) da.cl (((w.alloc (.cells d.ar 42)).alloc (.cells da.ar 52)).alloc (.cells zGa 52))) := ⟨Past.of_below (bl_alloc (bl_alloc (bl_a _) _) _), (show Box _ _ _ by rw [← hke]; exact ((Box.new w d.ar 42 (0, 0)).below (bl_a _)).below (bl_a _)), (show Box _ _ _ by have h := (Box.new (w.alloc (.cells d.ar 42)) da.ar 52 (0, 0)).below (bl_a (.cells zGa 52)); simpa using h), (show _ ≤ _ by simp), hgw⟩;have HO := iH (show OB _ _ _ by have h := OB.new ((w.alloc (.cells d.ar 42)).alloc (.cells da.ar 52)) zGa 52; simpa using h);have HBL : Hd (Bl w (((w.alloc (.cells d.ar 42)).alloc (.cells da.ar 52)).alloc (.cells zGa 52))) := bl_alloc (bl_alloc (bl_a _) _) _;clear hb h0 he ha hwe hwa hez hfa hac hce hke;go_in;go_upto_region 1 with fail
 generalize (((w.alloc _).alloc _).alloc _) = W1 at *;have c0 := (by have h := HF.o.e.2 0 _ rfl; rwa [HAND.o.1] at h);have c1 := (by have h := HF.o.e.2 1 _ rfl; rwa [HAND.o.2] at h);have h1n : (1 : Int) < (d.n : Int) := by have := HNN.o; omega
 have h0n : (0 : Int) < (d.n : Int) := by omega
 go_wp2_with fail
 clear c0 c1;refine wqd (fun w' => FE w g (eL d.k d.op d.v d.t (.slice (some ⟨be, oe, none⟩) d.n d.kc)) da.cl w') ?_ fun hHeld => ?_
 · exact HF.o.past (Past.of_below bdr)
 replace HF := iH (HF.o.past (Past.of_below bdr));replace HO := iH (HO.o.below bdr);replace HBL := iH (Below.drew HBL.o);generalize W1.drew = w2 at *;skip;refine tqB 0 15 ?_;refine tqB 1 16 (v := .slice (some ⟨be, oe, none⟩) d.n d.kc) (hy := by intro w' hSw; have c0 := hSw.e.2 7 _ rfl; go_simp; (try with_reducible rfl)) ?_;refine tqB 2 17 (v := .pointer (some ⟨be, oe, none⟩)) ?_;have HK00 : Hd (∀ W, Past g w W → W.rangeAt be oe (kid 0).d.cl) := fun W hW => by have h := HKE.o 0 (by have := HNN.o; omega) W hW; rw [Nat.zero_mul, Nat.add_zero] at h; exact h
 have HK01 : Hd (∀ W, Past g w W → W.rangeAt be (oe + 8) (kid 1).d.cl) := fun W hW => by have h := HKE.o 1 (by have := HNN.o; omega) W hW; rw [Nat.one_mul] at h; exact h
 refine ldq 3 18 Tryz.underlying42 (fun w' h => HK00.o w' h.p) ?_;refine tqB 4 19 ?_;refine tqB 5 20 (v := .slice (some ⟨be, oe, none⟩) d.n d.kc) (hy := by intro w' hSw; have c0 := hSw.e.2 7 _ rfl; go_simp; (try with_reducible rfl)) ?_;refine tqB 6 21 (v := .pointer (some ⟨be, oe + 8, none⟩)) ?_;refine ldq 7 22 Tryz.underlying42 (fun w' h => HK01.o w' h.p) ?_;refine ldq 8 23 Tryz.underlying52 (fun w' h => h.a.range 0 da.cl rfl) ?_;refine rqA 9 fun K hK => ?_;go_simp;refine (filterOf_any (kid 1) (AT.mk da kida) w2).mono ?_;rintro r w3 ⟨q1, rfl, hq1, hq2, hqb, hb2⟩;have HFn := iH (HF.o.past (Past.of_below hb2));replace HO := iH (HO.o.below hb2);have HBq1 := iH hqb;have HQq1 : Hd (w.heap.size + 3 ≤ q1) := (show _ ≤ _ by have := HF.o.s; omega);clear HF;have HF := HFn;clear HFn;replace HBL := iH (bl_trans HBL.o hb2);clear hq1 hq2 hqb hb2 hHeld;refine rhK hK HF.o fun hHeld => ?_;clear hK K;refine rqA 10 fun K hK => ?_;go_simp;refine (filterOf_any (kid 0) (AF (kid 1) q1 (AT.mk da kida)) w3).mono ?_;rintro r w4 ⟨q2, rfl, hq1, hq2, hqb, hb2⟩;replace HBq1 := iH (HBq1.o.below hb2);have HFn := iH (HF.o.past (Past.of_below hb2));replace HO := iH (HO.o.below hb2);have HBq2 := iH hqb;have HQq2 : Hd (w.heap.size + 3 ≤ q2) := (show _ ≤ _ by have := HF.o.s; omega);clear HF;have HF := HFn;clear HFn;replace HBL := iH (bl_trans HBL.o hb2);clear hq1 hq2 hqb hb2 hHeld;refine rhK hK HF.o fun hHeld => ?_;clear hK K;have hst := HO.o.there 0 13 (by simp);have on := all_oneCell_toArray (cs := (gVL 5 (.slice none 0 0) ((kid 0).d) (.slice none 0 0) (.slice none 0 0) (.slice (some ⟨q2, 0, none⟩) 1 1))) (by simp [Value.oneCell']);have hrd : (w4.setCells (w.heap.size + 2) 0 (gVL 5 (.slice none 0 0) ((kid 0).d) (.slice none 0 0) (.slice none 0 0) (.slice (some ⟨q2, 0, none⟩) 1 1))).rangeAt (w.heap.size + 2) 0 (gVL 5 (.slice none 0 0) ((kid 0).d) (.slice none 0 0) (.slice none 0 0) (.slice (some ⟨q2, 0, none⟩) 1 1)) := World.rangeAt_setCells_same _ _ _ _ hst;have HU := iH (but_sets (w.heap.size + 2) (gVL 5 (.slice none 0 0) ((kid 0).d) (.slice none 0 0) (.slice none 0 0) (.slice (some ⟨q2, 0, none⟩) 1 1)) 0 w4);refine rqA 11 fun K hK => ?_;refine step_storeV 52 (w.heap.size + 2) 0 (gVA 5 (.slice none 0 0) ((kid 0).d) (.slice none 0 0) (.slice none 0 0) (.slice (some ⟨q2, 0, none⟩) 1 1)) hst on ?_;clear hHeld;refine hK.out _ _ ?_ fun hHeld => ?_
 · exact HF.o.but HU.o nR
 clear hK K hst on;try simp only [Act.put]
 generalize w4.setCells _ _ _ = W5 at *;refine tqB 12 5 ?_;clear hHeld;refine wpAnyH_done (by kernel_rfl) ?_ _;go_wp2;try simp only [Exit.inBlock, Exit.then]
 refine bodyPost_ret (v := .tuple #[.agg (gVA 5 (.slice none 0 0) ((kid 0).d) (.slice none 0 0) (.slice none 0 0) (.slice (some ⟨q2, 0, none⟩) 1 1)), .bool true]) ?_ rfl ?_
 · exact results_cell2 rfl rfl rfl (run_loadVar_mid (P := Tryz.prog) _ (w.heap.size + 2) 0 52 (gVL 5 (.slice none 0 0) ((kid 0).d) (.slice none 0 0) (.slice none 0 0) (.slice (some ⟨q2, 0, none⟩) 1 1)) _ hrd Tryz.underlying52 rfl (by kernel_rfl))
 have hn2 := HNN.o;have hAH := HA0.o.past (HF.o.p.but HU.o (by omega));have h1w := HWE.o.2 1 (by omega);have h0w := HWE.o.2 0 (by omega);have h1l := HE0.o.2.2.2.2.2 1 (by omega);have h0l := HE0.o.2.2.2.2.2 0 (by omega);have hsz : 1 + (esz (kid 0) + esz (kid 1)) ≤ NN := by have h := HEZ.o; have e : esz (ET.mk d kid) = 1 + sumN d.n (fun i => esz (kid i)) := rfl; rw [hn2, sum_two] at e; omega
 have hf1 := AF.hung hAH h1l (HBq1.o.upper HU.o (by have := HQq1.o; omega)) (by have := HQq1.o; omega);have hf2 := AF.hung hf1 h0l (HBq2.o.upper HU.o (by have := HQq2.o; omega)) (by have := HQq2.o; omega);exact .inr ⟨AF (kid 0) q2 (AF (kid 1) q1 (AT.mk da kida)), _, HEA.o, rfl, hf2, AF.same2 (ET.same.refl h0l) (AF.same (ET.same.refl h1l) (AT.refl_lies (AT.hung.lies (HBW.o.trans ((HF.o.p.but HU.o (by omega)).below HG0.o hw0)) hAH))), filterA.wa h0w (filterA.wa h1w HWA.o), FA.filter (by omega) (FA.filter (by omega) HFA.o HAC.o) (.inl rfl), rfl, HBL.o.trans (HU.o.below (by omega))⟩
end Go.Proofs.YtoloadogihbdeaaGreat
