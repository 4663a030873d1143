/- PROVED: at every algebra and choices the program's PlanOf answers as its model, field by field, writes into no argument and owns what it answers, behind another call too (FnExactPlanOfSaid; no condition). -/
import Derived.Test.YtoloadogihbdeaaGreatMk31
namespace Go.Proofs.YtoloadogihbdeaaGreat
open Go.RowKit Go.Deep
set_option maxHeartbeats 40000000
set_option maxRecDepth 100000
theorem implPlanOf_any (a : AT) (ca : Option Addr) (cc : Nat) (cs : List Int) (w : World) (h : a.lies 0 w) (hN : cs = [] ∨ ∃ b off, ca = some ⟨b, off, none⟩ ∧ b < w.heap.size ∧ ∀ i x, cs[i]? = some x → w.cell? ⟨b, off + i, none⟩ = some (.int .i64 x)) (hr : ∀ x ∈ cs, -9223372036854775808 ≤ x ∧ x ≤ 9223372036854775807) (hcc : cs.length ≤ cc) (hcm : cs.length ≤ 1048576) :
 Calls Tryz.prog 9 #[.agg a.d.ar, .slice ca cs.length cc] w fun r w' => ∃ (y : PT) (q : Bool), r = .returned (.tuple #[.agg y.d.ar, .bool q]) ∧ y.ow w.heap.size w' ∧ Cp w.heap.size w'.heap.size y.fp ∧ PlanA a cs y q ∧ Bl w w' := by
 try unfold AN.ar AN.cl
 try unfold PN.ar PN.cl
 have HAO := iH (fun W (hb : Bl w W) => implAlgOk_any a W (AT.lies.upper (uB hb) h));have HLA := iH h;have HNR := iH hN;have HRG := iH hr;have HCC := iH hcc;have HCL := iH hcm;have HX := iH ((Box.new w a.d.ar 52 (0, 0)).below (bl_a (.cells zNa 46)));have HO := iH (show OB _ _ _ by have h := OB.new (w.alloc (.cells a.d.ar 52)) zNa 46; simpa using h);have HB : Hd (Bl w ((w.alloc (.cells a.d.ar 52)).alloc (.cells zNa 46))) := bl_alloc (bl_a _) _;clear h hN hr hcc hcm;go_in;go_upto_region 1 with fail
 generalize ((w.alloc _).alloc _) = W1 at *;have HG := iH HO.o.1;have lp : W1.rangeAt w.heap.size 0 a.d.cl := HX.o.range 0 _ rfl;go_wp2_with (with_reducible refine wpv_at ?_; refine ldr rfl rfl rfl Tryz.underlying52 lp rfl ?_; try simp only [Act.put, sA, zA, cA])
 refine (HAO.o _ HB.o).mono ?_;rintro r w2 ⟨q, rfl, hq, hb2⟩;have HB2 := iH (bl_trans HB.o hb2);have HX2 := iH (HX.o.below hb2);have HO2 := iH (HO.o.below hb2);have HG2 := iH (Nat.lt_of_lt_of_le HG.o hb2.size);clear lp hb2 HX HO HB HG HAO;by_cases h300 : 300 < cs.length
 · have HN : Hd (¬ (algOk a ∧ cs.length ≤ 300 ∧ planOk (planF (mA a) a cs).1)) := fun h => by have := h.2.1; omega
   clear hq;cases q
   · have hst := HO2.o.there 0 28 (by simp)
     have on := all_oneCell_toArray (cs := zNl) (by simp [Value.oneCell']);have hrd : (w2.setCells (w.heap.size + 1) 0 zNl).rangeAt (w.heap.size + 1) 0 zNl := World.rangeAt_setCells_same _ _ _ _ hst;have hbf := iH (below_sets (w0 := w) (w.heap.size + 1) (by omega) zNl 0 w2 HB2.o);have hsf := iH ((but_sets (w.heap.size + 1) zNl 0 w2).size);have huf := iH (upper_sets (w.heap.size + 1) zNl 0 w2);go_wp2_with (with_reducible refine wpv_at ?_; refine store_stopV 46 (.tmp 4) (.tmp 16) rfl ?_)
     change wpList _ _ _ _ _ _;refine wpList_store_mid rfl 46 _ _ rfl (w.heap.size + 1) 0 zNa rfl rfl hst (by kernel_rfl) on ?_;try simp only [Act.put]
     generalize w2.setCells (w.heap.size + 1) 0 zNl = W5 at *;go_wp2;try simp only [Exit.inBlock, Exit.then]
     refine bodyPost_ret (v := .tuple #[.agg zNa, .bool false]) ?hrf1 rfl ?hpf1
     case hrf1 => exact results_cell2 rfl rfl rfl (run_loadVar_mid (P := Tryz.prog) _ (w.heap.size + 1) 0 46 zNl _ hrd Tryz.underlying46 rfl (by kernel_rfl))
     exact ⟨PT0, false, rfl, PT0_ow _ _, PT0_fp ▸ Cp.nil _ _, .inr ⟨rfl, HN.o, rfl⟩, hbf.o⟩
   go_upto_region 2 with fail
   have hst := HO2.o.there 0 28 (by simp);have on := all_oneCell_toArray (cs := zNl) (by simp [Value.oneCell']);have hrd : (w2.setCells (w.heap.size + 1) 0 zNl).rangeAt (w.heap.size + 1) 0 zNl := World.rangeAt_setCells_same _ _ _ _ hst;have hbf := iH (below_sets (w0 := w) (w.heap.size + 1) (by omega) zNl 0 w2 HB2.o);have hsf := iH ((but_sets (w.heap.size + 1) zNl 0 w2).size);have huf := iH (upper_sets (w.heap.size + 1) zNl 0 w2);go_wp2_with (with_reducible refine wpv_at ?_; refine store_stopV 46 (.tmp 4) (.tmp 16) rfl ?_)
   change wpList _ _ _ _ _ _;refine wpList_store_mid rfl 46 _ _ rfl (w.heap.size + 1) 0 zNa rfl rfl hst (by kernel_rfl) on ?_;try simp only [Act.put]
   generalize w2.setCells (w.heap.size + 1) 0 zNl = W5 at *;go_wp2;try simp only [Exit.inBlock, Exit.then]
   refine bodyPost_ret (v := .tuple #[.agg zNa, .bool false]) ?hrf2 rfl ?hpf2
   case hrf2 => exact results_cell2 rfl rfl rfl (run_loadVar_mid (P := Tryz.prog) _ (w.heap.size + 1) 0 46 zNl _ hrd Tryz.underlying46 rfl (by kernel_rfl))
   exact ⟨PT0, false, rfl, PT0_ow _ _, PT0_fp ▸ Cp.nil _ _, .inr ⟨rfl, HN.o, rfl⟩, hbf.o⟩
 cases q with
 | false =>
  have HN : Hd (¬ (algOk a ∧ cs.length ≤ 300 ∧ planOk (planF (mA a) a cs).1)) := fun h => by cases hq.2 h.1
  clear hq;have hst := HO2.o.there 0 28 (by simp);have on := all_oneCell_toArray (cs := zNl) (by simp [Value.oneCell']);have hrd : (w2.setCells (w.heap.size + 1) 0 zNl).rangeAt (w.heap.size + 1) 0 zNl := World.rangeAt_setCells_same _ _ _ _ hst;have hbf := iH (below_sets (w0 := w) (w.heap.size + 1) (by omega) zNl 0 w2 HB2.o);have hsf := iH ((but_sets (w.heap.size + 1) zNl 0 w2).size);have huf := iH (upper_sets (w.heap.size + 1) zNl 0 w2);go_wp2_with (with_reducible refine wpv_at ?_; refine store_stopV 46 (.tmp 4) (.tmp 16) rfl ?_)
  change wpList _ _ _ _ _ _;refine wpList_store_mid rfl 46 _ _ rfl (w.heap.size + 1) 0 zNa rfl rfl hst (by kernel_rfl) on ?_;try simp only [Act.put]
  generalize w2.setCells (w.heap.size + 1) 0 zNl = W5 at *;go_wp2;try simp only [Exit.inBlock, Exit.then]
  refine bodyPost_ret (v := .tuple #[.agg zNa, .bool false]) ?hrf3 rfl ?hpf3
  case hrf3 => exact results_cell2 rfl rfl rfl (run_loadVar_mid (P := Tryz.prog) _ (w.heap.size + 1) 0 46 zNl _ hrd Tryz.underlying46 rfl (by kernel_rfl))
  exact ⟨PT0, false, rfl, PT0_ow _ _, PT0_fp ▸ Cp.nil _ _, .inr ⟨rfl, HN.o, rfl⟩, hbf.o⟩
 | true =>
  have HAK := iH (hq.1 rfl);clear hq;have HC3 := iH (show cs.length ≤ 300 by omega);go_upto_region 4 with fail
  have hng : (w2.alloc (.cells #[.slice ca cs.length cc] 92)).heap.size = w2.heap.size + 1 := by simp
  have HGO := iH (show OB _ _ _ by have h := OB.new w2 #[.slice ca cs.length cc] 92; simpa using h);have HB3 : Hd (Bl w (w2.alloc (.cells #[.slice ca cs.length cc] 92))) := bl_alloc HB2.o _;have HX3 := iH (HX2.o.below (bl_a (.cells #[.slice ca cs.length cc] 92)));have HO3 := iH (HO2.o.below (bl_a (.cells #[.slice ca cs.length cc] 92)));have HSZ3 := iH hng;clear hng;obtain ⟨g, hg⟩ : ∃ g, g = w2.heap.size := ⟨_, rfl⟩;have HGG : Hd (w.heap.size + 1 < g) := (show _ by rw [hg]; exact HG2.o);have HSG : Hd ((w2.alloc (.cells #[.slice ca cs.length cc] 92)).heap.size = g + 1) := (show _ by rw [hg]; exact HSZ3.o);rw [← hg] at HGO ⊢;clear HSZ3 hg;generalize w2.alloc _ = W3 at *;have HNB : Hd (NumR w.heap.size W3 g ca cs) := HNR.o.imp id fun ⟨b, off, e1, e2, e3⟩ => ⟨b, off, e1, Nat.lt_of_lt_of_le e2 HB3.o.size, ⟨by have := HGG.o; omega, e2⟩, fun i x hx => (HB3.o.cell (p := ⟨b, off + i, none⟩) e2).trans (e3 i x hx)⟩
  have HC : Hd (CH w.heap.size W3 g cs) := ⟨⟨ca, cc, HGO.o, HCC.o, HNB.o⟩, HRG.o⟩;have HPL := iH (plan_any a cs g w W3 HB3.o (by have := HGG.o; omega) HLA.o HAK.o.1.wa (by have h1 := ac_le HAK.o.1; have h2 := HAK.o.2.1; show ac a ≤ 1000000; omega) HC.o);clear HC HNB HGO HNR HLA HRG HCL HCC HG2 HB2 HX2 HO2;have lp : W3.rangeAt w.heap.size 0 a.d.cl := HX3.o.range 0 _ rfl;go_wp2_with (with_reducible refine wpv_at ?_; refine ldr rfl rfl rfl Tryz.underlying52 lp rfl ?_; try simp only [Act.put, sA, zA, cA])
  clear lp;refine HPL.o.mono ?_;rintro r w3 ⟨y0, rfl, hh, _, hs, _, hp⟩;have hb3 := hp.below (by have := HGG.o; omega) HB3.o.size;have HB4 := iH (HB3.o.trans hb3);have HO4 := iH (HO3.o.pastP hp (by have := HGG.o; omega));have HYL := iH (hh.lies HB4.o);have HS := iH hs;have HSZ := iH HO4.o.1;clear hh hs hp hb3 HPL HB3 HX3 HO3 HSG HGG;have hth := (OB.new w3 zNa 46).there 0 28 (by simp);have one1 := all_oneCell_toArray (cs := y0.d.cl) (by simp [Value.oneCell']);have HPB := iH ((OB.new w3 zNa 46).put [.int _ _, .int _ _, .slice _ _ _, .int _ _, .slice _ _ _, .int _ _, .int _ _, .slice _ _ _, .int _ _, .slice _ _ _, .int _ _, .int _ _, .slice _ _ _, .int _ _, .slice _ _ _, .int _ _, .int _ _, .int _ _, .int _ _, .slice _ _ _, .int _ _, .slice _ _ _, .int _ _, .int _ _, .slice _ _ _, .slice _ _ _, .slice _ _ _, .slice _ _ _] 0 y0.d.cl (by simp) rfl);have HB5 : Hd (Bl w3 ((w3.alloc (.cells zNa 46)).setCells w3.heap.size 0 y0.d.cl)) := below_sets (w0 := w3) _ nR _ 0 _ (bl_a _);go_wp2_with (with_reducible refine wpv_at ?_; refine store_stopV 46 (.tmp 7) (.tmp 20) rfl ?_)
  change wpList _ _ _ _ _ _;refine wpList_store_mid rfl 46 _ _ rfl w3.heap.size 0 y0.d.ar rfl rfl hth (by kernel_rfl) one1 ?_;try simp only [Act.put]
  generalize (w3.alloc _).setCells _ _ _ = w5 at *;have HO5 := iH (HO4.o.below HB5.o);have HYL5 := iH (PT.lies.upper (uB HB5.o) HYL.o);have HB6 := iH (bl_trans HB4.o HB5.o);have HSZ5 := iH HB5.o.size;obtain ⟨gp, hgp⟩ : ∃ b, b = w3.heap.size := ⟨_, rfl⟩;rw [← hgp] at HPB ⊢;clear hth one1 HO4 HYL HB4 HB5 hgp;have lq : w5.rangeAt gp 0 y0.d.cl := HPB.o.box.range 0 _ rfl;go_wp2_with (with_reducible refine wpv_at ?_; refine ldr rfl rfl rfl Tryz.underlying46 lq rfl ?_; try simp only [Act.put, sA, zA, cA])
  clear lq;refine (implPlanOk_any y0 w5 HYL5.o).mono ?_;rintro r w6 ⟨q, rfl, hq, hb6⟩;have HQ := iH (hq.trans (planOk_same HS.o));have HB7 := iH (bl_trans HB6.o hb6);have HO6 := iH (HO5.o.below hb6);have HPB6 := iH (HPB.o.below hb6);have HYL6 := iH (PT.lies.upper (uB hb6) HYL5.o);have HSZ6 := iH HO6.o.1;clear hq hb6 HB6 HO5 HPB HYL5 HSZ5 HSZ;cases q
  · have HN : Hd (¬ (algOk a ∧ cs.length ≤ 300 ∧ planOk (planF (mA a) a cs).1)) := fun h => by cases HQ.o.2 h.2.2
    have hst := HO6.o.there 0 28 (by simp);have on := all_oneCell_toArray (cs := zNl) (by simp [Value.oneCell']);have hrd : (w6.setCells (w.heap.size + 1) 0 zNl).rangeAt (w.heap.size + 1) 0 zNl := World.rangeAt_setCells_same _ _ _ _ hst;have hbf := iH (below_sets (w0 := w) (w.heap.size + 1) (by omega) zNl 0 w6 HB7.o);have hsf := iH ((but_sets (w.heap.size + 1) zNl 0 w6).size);have huf := iH (upper_sets (w.heap.size + 1) zNl 0 w6);go_wp2_with (with_reducible refine wpv_at ?_; refine store_stopV 46 (.tmp 4) (.tmp 24) rfl ?_)
    change wpList _ _ _ _ _ _;refine wpList_store_mid rfl 46 _ _ rfl (w.heap.size + 1) 0 zNa rfl rfl hst (by kernel_rfl) on ?_;try simp only [Act.put]
    generalize w6.setCells (w.heap.size + 1) 0 zNl = W5 at *;go_wp2;try simp only [Exit.inBlock, Exit.then]
    refine bodyPost_ret (v := .tuple #[.agg zNa, .bool false]) ?hrf4 rfl ?hpf4
    case hrf4 => exact results_cell2 rfl rfl rfl (run_loadVar_mid (P := Tryz.prog) _ (w.heap.size + 1) 0 46 zNl _ hrd Tryz.underlying46 rfl (by kernel_rfl))
    exact ⟨PT0, false, rfl, PT0_ow _ _, PT0_fp ▸ Cp.nil _ _, .inr ⟨rfl, HN.o, rfl⟩, hbf.o⟩
  have HPK := iH (HQ.o.1 rfl);have lq : w6.rangeAt gp 0 y0.d.cl := HPB6.o.box.range 0 _ rfl;go_wp2_with (with_reducible refine wpv_at ?_; refine ldr rfl rfl rfl Tryz.underlying46 lq rfl ?_; try simp only [Act.put, sA, zA, cA])
  clear lq;refine (planCopied y0 w6 HYL6.o).mono ?_;rintro r w7 ⟨y, rfl, hy, hcp, hs, hb7⟩;have HY := iH hy;have HC := iH hcp;have HSY := iH hs;have HB8 := iH (bl_trans HB7.o hb7);have HO7 := iH (HO6.o.below hb7);clear hy hcp hs hb7 HB7 HO6 HPB6 HYL6;have hst := HO7.o.there 0 28 (by simp);have on := all_oneCell_toArray (cs := y.d.cl) (by simp [Value.oneCell']);have hrd : (w7.setCells (w.heap.size + 1) 0 y.d.cl).rangeAt (w.heap.size + 1) 0 y.d.cl := World.rangeAt_setCells_same _ _ _ _ hst;have hbf := iH (below_sets (w0 := w) (w.heap.size + 1) (by omega) y.d.cl 0 w7 HB8.o);have hsf := iH ((but_sets (w.heap.size + 1) y.d.cl 0 w7).size);have huf := iH (upper_sets (w.heap.size + 1) y.d.cl 0 w7);go_wp2_with (with_reducible refine wpv_at ?_; refine store_stopV 46 (.tmp 4) (.tmp 26) rfl ?_)
  change wpList _ _ _ _ _ _;refine wpList_store_mid rfl 46 _ _ rfl (w.heap.size + 1) 0 y.d.ar rfl rfl hst (by kernel_rfl) on ?_;try simp only [Act.put]
  generalize w7.setCells (w.heap.size + 1) 0 y.d.cl = W5 at *;go_wp2;try simp only [Exit.inBlock, Exit.then]
  refine bodyPost_ret (v := .tuple #[.agg y.d.ar, .bool true]) ?hrt rfl ?hpt
  case hrt => exact results_cell2 rfl rfl rfl (run_loadVar_mid (P := Tryz.prog) _ (w.heap.size + 1) 0 46 y.d.cl _ hrd Tryz.underlying46 rfl (by kernel_rfl))
  have hg : w.heap.size + 1 + 1 ≤ w6.heap.size := by have := HSZ6.o; omega
  exact ⟨y, true, rfl, (HY.o.upper (huf.o.mono hg)).base (by omega), HC.o.mono (by omega) (Nat.le_of_eq hsf.o.symm), .inl ⟨rfl, ⟨HAK.o, HC3.o, HPK.o⟩, PT.same.trans (PT.same.symm HSY.o) HS.o⟩, hbf.o⟩
open Go.ChangeShapes Go.WideShapes Go.ChangeAt Go.RowKit Go.Joins
theorem walkPlanOf (e : AT) (ca : Option Addr) (cc : Nat) (cs : List Int) (w : World) (hc : e.came w) (hk : KIn w ca cs) (hr : ∀ x ∈ cs, -9223372036854775808 ≤ x ∧ x ≤ 9223372036854775807) :
 Calls Tryz.prog 3 #[.agg e.d.ar, .slice ca cs.length cc] w fun r w' => r = .returned (.bool true) ∧ Bl w w' := by
 by_cases hn : cs.length ≤ 1048576
 · exact walkPlanOf_of e ca cc cs w hc hk hn (PlanA e cs)
    (fun W y g h1 h2 h3 => (specPlanOf_any y _ cs.length cs W h1 h3.kin.nums hr nR hn).mono fun r w' ⟨p, q, h4, h5, h6, h7, h8⟩ => ⟨p, q, h4, PT.lies.base nZ h5.l, PlanA.alg h2 h7, h8⟩)
    (fun W y g h1 h2 h3 => (implPlanOf_any y _ cs.length cs W h1 h3.kin.nums hr nR hn).mono fun r w' ⟨p, q, h4, h5, h6, h7, h8⟩ => ⟨p, q, h4, h5, h6, PlanA.alg h2 h7, h8⟩)
    (fun y z q q' h k => PlanA.uniq h k) (fun B w w' y q h ho hb => PlanA.mks h ho hb)
 have hnz : (1048576 : Int) < (cs.length : Int) := by omega
 clear hc hk hr;go_in;go_wp2;go_ret;exact ⟨rfl, bl_a _⟩
set_option maxRecDepth 100000 in
theorem open_nums {H : Type} {enc : TypeId × Value → H} {W : World} {b0 : Nat} {v : Value} {d : DataW H} {p : List MemPlace}
 (hv : Value.okWide Tryz.prog W .any b0 33 v) (h : DataW.Trod enc Tryz.prog W 0 (fun _ => true) true 33 v d p) :
 ∃ (a : Option Addr) (cap : Nat) (ks : List Int), v = .slice a ks.length cap ∧ KIn W a ks ∧ ∀ x ∈ ks, -9223372036854775808 ≤ x ∧ x ≤ 9223372036854775807 := by
 obtain ⟨a1, len, cap, rfl⟩ := okWide_slice Tryz.underlying33 hv;obtain ⟨fuel, hf⟩ := h;rcases open_ints Tryz.underlying33 Tryz.underlying3 (show Tryz.prog.cellsOf 3 = 1 by kernel_rfl) hf with ⟨hcs, _⟩ | ⟨x, l, c, zs, hcs, _, hl, hm, hz, _, hcell, hwf⟩
 · simp [Value.cells] at hcs
   obtain ⟨rfl, rfl, rfl⟩ := hcs;exact ⟨none, 0, [], rfl, .inl rfl, fun x hx => by cases hx⟩
 simp [Value.cells] at hcs;obtain ⟨rfl, rfl, rfl⟩ := hcs;simp only [if_true] at hz;have hlen : (zs.take len).length = len := by rw [List.length_take]; omega
 refine ⟨some x, cap, zs.take len, by rw [hlen], ?_, fun y hy => ?_⟩
 rotate_left
 · have h1 : (decide (IntKind.i64.min ≤ y) && decide (y ≤ IntKind.i64.max)) = true := hwf y (List.mem_of_mem_take hy)
   have e1 : IntKind.i64.min = -9223372036854775808 := by decide
   have e2 : IntKind.i64.max = 9223372036854775807 := by decide
   rw [e1, e2, Bool.and_eq_true, decide_eq_true_eq, decide_eq_true_eq] at h1;exact h1
 by_cases h0 : len = 0
 · exact .inl (by rw [hlen]; exact h0)
 right;obtain ⟨b, off, spot⟩ := x;have hc0 := hcell 0 (by omega);have hspot : spot = none := by simpa [Addr.add] using World.cell?_spot hc0
 subst hspot;refine ⟨b, off, rfl, by simpa [Addr.add] using cell_lt hc0, fun i hi => ?_⟩
 rw [hlen] at hi;have h := hcell i (by omega);rw [Addr.add_lit] at h;rw [h, List.getElem?_take, if_pos hi, List.getD_eq_getElem?_getD]
set_option maxRecDepth 100000 in
theorem liftedPlanOf (os : Os) (started : os.Started) (H : Type) (enc : TypeId × Value → H) :
 ReturnsInHanded {} Tryz.checked os 3 .any (Rows.fnExactPlanOfSpec.pre6 enc Tryz.prog Tryz.f3 Rows.fnExactPlanOfRow.domain false) (Rows.fnExactPlanOfSpec.post enc Tryz.prog Tryz.f3 false true false false) := by
 refine returnsInHanded_of_change (C := Tryz.checked) own started (by kernel_rfl) Tryz.func3
  (ChangeSpec.witness6 (enc := enc) (C := Tryz.checked) false ⟨#[], #[.agg #[.int .i64 0, .slice none 0 0, .int .i64 0, .int .i64 0, .slice none 0 0, .int .i64 0, .slice none 0 0, .int .i64 0, .int .i64 0, .slice none 0 0, .slice none 0 0, .slice none 0 0, .slice none 0 0], .slice none 0 0], []⟩ 8 (by kernel_rfl) (by kernel_rfl) (by kernel_rfl) (by kernel_rfl)) ?_
 intro W base args ds gs before hval0 hW hcnd _;have hval : ∀ (j : Nat) t v, Tryz.f3.params[j]? = some t → args[j]? = some v → Value.okWide Tryz.prog W .any base t v := hval0;have hW' := hW;obtain ⟨p, q, hA0, hV, rfl, hfz, hnd⟩ := hW;have hA : DataW.TrodAll enc Tryz.prog W 0 (fun _ => true) true Tryz.f3.params.toList args.toList ds p := hA0;rw [Tryz.params3] at hA hval;obtain ⟨v0, vs0, d0, ds0, p0, q0, hargs, rfl, rfl, h0, r0⟩ := trodAll_cons hA;obtain ⟨v1, vs1, d1, ds1, p1, q1, rfl, rfl, rfl, h1, r1⟩ := trodAll_cons r0;obtain ⟨rfl, rfl, rfl⟩ := trodAll_nil r1;obtain rfl : args = #[v0, v1] := by cases args; simp_all
 obtain ⟨rfl, rfl⟩ := trodVars_none hV;have k0 := h0;have k1 := h1;have lt0 : ∀ x ∈ p0, x.block < W.heap.size := by obtain ⟨m, hm⟩ := k0; exact DataW.trod_lt m _ _ _ hm
 have lt1 : ∀ x ∈ p1, x.block < W.heap.size := by obtain ⟨m, hm⟩ := k1; exact DataW.trod_lt m _ _ _ hm
 obtain ⟨e, rfl, hc⟩ := open_alg (hval 0 32 v0 rfl rfl) h0;obtain ⟨ca, cc, cs, rfl, hk, hr⟩ := open_nums (hval 1 33 v1 rfl rfl) h1;clear hA0 hval0;refine (walkPlanOf e ca cc cs W hc hk hr).mono fun r W' ⟨he, bel⟩ => ?_;subst he;exact ⟨_, rfl, _, _, _, [], _, [], hW', trodAll_mk1 (shut_bool Tryz.underlying4 _), (trodAll_cons_mk (Below.trod laidOut (by kernel_rfl) (of_decide_eq_true (by kernel_rfl)) k0 bel lt0) (trodAll_cons_mk (Below.trod laidOut (by kernel_rfl) (of_decide_eq_true (by kernel_rfl)) k1 bel lt1) trodAll_mk0)), rfl, bel.frame _, fun h => by cases h⟩
theorem overPlanOf : Rows.fnExactPlanOfRow.holds Tryz.pinned (OpenSpec.ofChange Rows.fnExactPlanOfSpec) :=
 OpenClaim.holds_of_wide 3 Tryz.f3 rfl rfl rfl rfl rfl rfl rfl ⟨rfl, rfl, rfl, rfl, rfl⟩ rfl rfl rfl rfl rfl (by kernel_rfl) Tryz.func3 (by kernel_rfl)
  (of_decide_eq_true (by kernel_rfl)) (by unfold Func.isWrapper; first | (rw [if_pos (by decide +kernel)]; kernel_rfl) | (rw [if_neg (by decide +kernel)]; exact ⟨rfl, rfl⟩))
  (fun os started H enc _ => liftedPlanOf os started H enc)
theorem provedPlanOf : Rows.FnExactPlanOfSaid := overPlanOf
#print axioms provedPlanOf
end Go.Proofs.YtoloadogihbdeaaGreat
