import Derived.Test.YtoloadogihbdeaaGreatMk17
import Derived.Test.YtoloadogihbdeaaGreatMk24
namespace Go.Proofs.YtoloadogihbdeaaGreat
open Go.RowKit Go.Deep
set_option maxHeartbeats 40000000
set_option maxRecDepth 100000
variable {a b : AT} {q : Bool} {cs : List Int} {l : List PB} {B cap g i m n : Nat} {f : Nat → Nat} {y : PT} {w w' : World}
theorem PBz_own (B : Nat) (w : World) : PBz.own B w := ⟨⟨(PBz.lies B w).1, .inl rfl, .inl rfl⟩, ⟨(PBz.lies B w).2.1, .inl rfl, .inl rfl⟩, ⟨(PBz.lies B w).2.2, .inl rfl, .inl rfl⟩⟩
def PT0 : PT := .mk ⟨0, 0, PBz, ET0, SL0, none, 0, [], none, 0, 0⟩ (fun _ => .nil)
theorem PT0_ow (B : Nat) (w : World) : PT0.ow B w := ⟨⟨PBz.lies _ _, (ET0_ow _ _).l, (SL0_own _ _).1, TRow0 _ _, nZ, nZ, .inl rfl, fun i hi => absurd hi nN⟩, ⟨PBz_own _ _, (ET0_ow _ _).z, .inl rfl, ⟨.inl rfl, fun x hx => by cases hx⟩, .inl rfl, fun i hi => absurd hi nN⟩⟩
theorem PT0_fp : PT0.fp = [] := rfl
def PlanA (a : AT) (cs : List Int) (y : PT) (q : Bool) : Prop := (q = true ∧ (algOk a ∧ cs.length ≤ 300 ∧ planOk (planF (mA a) a cs).1) ∧ y.same (planF (mA a) a cs).1) ∨ (q = false ∧ ¬ (algOk a ∧ cs.length ≤ 300 ∧ planOk (planF (mA a) a cs).1) ∧ y = PT0)
theorem specPlanOf_any (a : AT) (ca : Option Addr) (cc : Nat) (cs : List Int) (w : World) (h : a.lies 0 w) (hN : cs = [] ∨ ∃ b off, ca = some ⟨b, off, none⟩ ∧ b < w.heap.size ∧ ∀ i x, cs[i]? = some x → w.cell? ⟨b, off + i, none⟩ = some (.int .i64 x)) (hr : ∀ x ∈ cs, -9223372036854775808 ≤ x ∧ x ≤ 9223372036854775807) (hcc : cs.length ≤ cc) (hcm : cs.length ≤ 1048576) :
 Calls Tryz.prog 6 #[.agg a.d.ar, .slice ca cs.length cc] w fun r w' => ∃ (y : PT) (q : Bool), r = .returned (.tuple #[.agg y.d.ar, .bool q]) ∧ y.ow w.heap.size w' ∧ Cp w.heap.size w'.heap.size y.fp ∧ PlanA a cs y q ∧ Bl w w' := by
 try unfold AN.ar AN.cl
 try unfold PN.ar PN.cl
 have HAO := iH (fun W (hb : Bl w W) => specAlgOk_any a W (AT.lies.upper (uB hb) h));have HLA := iH h;have HNR := iH hN;have HRG := iH hr;have HCC := iH hcc;have HCL := iH hcm;have HX := iH ((Box.new w a.d.ar 52 (0, 0)).below (bl_a (.cells zNa 46)));have HO := iH (show OB _ _ _ by have h := OB.new (w.alloc (.cells a.d.ar 52)) zNa 46; simpa using h);have HB : Hd (Bl w ((w.alloc (.cells a.d.ar 52)).alloc (.cells zNa 46))) := bl_alloc (bl_a _) _;clear h hN hr hcc hcm;go_in;go_upto_region 1 with fail
 generalize ((w.alloc _).alloc _) = W1 at *;have HG := iH HO.o.1;have lp : W1.rangeAt w.heap.size 0 a.d.cl := HX.o.range 0 _ rfl;go_wp2_with (with_reducible refine wpv_at ?_; refine ldr rfl rfl rfl Tryz.underlying52 lp rfl ?_; try simp only [Act.put, sA, zA, cA])
 refine (HAO.o _ HB.o).mono ?_;rintro r w2 ⟨q, rfl, hq, hb2⟩;have HB2 := iH (bl_trans HB.o hb2);have HX2 := iH (HX.o.below hb2);have HO2 := iH (HO.o.below hb2);have HG2 := iH (Nat.lt_of_lt_of_le HG.o hb2.size);clear lp hb2 HX HO HB HG HAO;by_cases h300 : 300 < cs.length
 · have HN : Hd (¬ (algOk a ∧ cs.length ≤ 300 ∧ planOk (planF (mA a) a cs).1)) := fun h => by have := h.2.1; omega
   clear hq;cases q
   · have hst := HO2.o.there 0 28 (by simp)
     have on := all_oneCell_toArray (cs := zNl) (by simp [Value.oneCell']);have hrd : (w2.setCells (w.heap.size + 1) 0 zNl).rangeAt (w.heap.size + 1) 0 zNl := World.rangeAt_setCells_same _ _ _ _ hst;have hbf := iH (below_sets (w0 := w) (w.heap.size + 1) (by omega) zNl 0 w2 HB2.o);have hsf := iH ((but_sets (w.heap.size + 1) zNl 0 w2).size);have huf := iH (upper_sets (w.heap.size + 1) zNl 0 w2);go_wp2_with (with_reducible refine wpv_at ?_; refine store_stopV 46 (.tmp 4) (.tmp 15) rfl ?_)
     change wpList _ _ _ _ _ _;refine wpList_store_mid rfl 46 _ _ rfl (w.heap.size + 1) 0 zNa rfl rfl hst (by kernel_rfl) on ?_;try simp only [Act.put]
     generalize w2.setCells (w.heap.size + 1) 0 zNl = W5 at *;go_wp2;try simp only [Exit.inBlock, Exit.then]
     refine bodyPost_ret (v := .tuple #[.agg zNa, .bool false]) ?hrf1 rfl ?hpf1
     case hrf1 => exact results_cell2 rfl rfl rfl (run_loadVar_mid (P := Tryz.prog) _ (w.heap.size + 1) 0 46 zNl _ hrd Tryz.underlying46 rfl (by kernel_rfl))
     exact ⟨PT0, false, rfl, PT0_ow _ _, PT0_fp ▸ Cp.nil _ _, .inr ⟨rfl, HN.o, rfl⟩, hbf.o⟩
   go_upto_region 2 with fail
   have hst := HO2.o.there 0 28 (by simp);have on := all_oneCell_toArray (cs := zNl) (by simp [Value.oneCell']);have hrd : (w2.setCells (w.heap.size + 1) 0 zNl).rangeAt (w.heap.size + 1) 0 zNl := World.rangeAt_setCells_same _ _ _ _ hst;have hbf := iH (below_sets (w0 := w) (w.heap.size + 1) (by omega) zNl 0 w2 HB2.o);have hsf := iH ((but_sets (w.heap.size + 1) zNl 0 w2).size);have huf := iH (upper_sets (w.heap.size + 1) zNl 0 w2);go_wp2_with (with_reducible refine wpv_at ?_; refine store_stopV 46 (.tmp 4) (.tmp 15) rfl ?_)
   change wpList _ _ _ _ _ _;refine wpList_store_mid rfl 46 _ _ rfl (w.heap.size + 1) 0 zNa rfl rfl hst (by kernel_rfl) on ?_;try simp only [Act.put]
   generalize w2.setCells (w.heap.size + 1) 0 zNl = W5 at *;go_wp2;try simp only [Exit.inBlock, Exit.then]
   refine bodyPost_ret (v := .tuple #[.agg zNa, .bool false]) ?hrf2 rfl ?hpf2
   case hrf2 => exact results_cell2 rfl rfl rfl (run_loadVar_mid (P := Tryz.prog) _ (w.heap.size + 1) 0 46 zNl _ hrd Tryz.underlying46 rfl (by kernel_rfl))
   exact ⟨PT0, false, rfl, PT0_ow _ _, PT0_fp ▸ Cp.nil _ _, .inr ⟨rfl, HN.o, rfl⟩, hbf.o⟩
 cases q with
 | false =>
  have HN : Hd (¬ (algOk a ∧ cs.length ≤ 300 ∧ planOk (planF (mA a) a cs).1)) := fun h => by cases hq.2 h.1
  clear hq;have hst := HO2.o.there 0 28 (by simp);have on := all_oneCell_toArray (cs := zNl) (by simp [Value.oneCell']);have hrd : (w2.setCells (w.heap.size + 1) 0 zNl).rangeAt (w.heap.size + 1) 0 zNl := World.rangeAt_setCells_same _ _ _ _ hst;have hbf := iH (below_sets (w0 := w) (w.heap.size + 1) (by omega) zNl 0 w2 HB2.o);have hsf := iH ((but_sets (w.heap.size + 1) zNl 0 w2).size);have huf := iH (upper_sets (w.heap.size + 1) zNl 0 w2);go_wp2_with (with_reducible refine wpv_at ?_; refine store_stopV 46 (.tmp 4) (.tmp 15) rfl ?_)
  change wpList _ _ _ _ _ _;refine wpList_store_mid rfl 46 _ _ rfl (w.heap.size + 1) 0 zNa rfl rfl hst (by kernel_rfl) on ?_;try simp only [Act.put]
  generalize w2.setCells (w.heap.size + 1) 0 zNl = W5 at *;go_wp2;try simp only [Exit.inBlock, Exit.then]
  refine bodyPost_ret (v := .tuple #[.agg zNa, .bool false]) ?hrf3 rfl ?hpf3
  case hrf3 => exact results_cell2 rfl rfl rfl (run_loadVar_mid (P := Tryz.prog) _ (w.heap.size + 1) 0 46 zNl _ hrd Tryz.underlying46 rfl (by kernel_rfl))
  exact ⟨PT0, false, rfl, PT0_ow _ _, PT0_fp ▸ Cp.nil _ _, .inr ⟨rfl, HN.o, rfl⟩, hbf.o⟩
 | true =>
  have HAK := iH (hq.1 rfl);clear hq;have HC3 := iH (show cs.length ≤ 300 by omega);go_upto_region 3 with fail
  have lp : w2.rangeAt w.heap.size 0 a.d.cl := HX2.o.range 0 _ rfl;go_wp2_with (with_reducible refine wpv_at ?_; refine ldr rfl rfl rfl Tryz.underlying52 lp rfl ?_; try simp only [Act.put, sA, zA, cA])
  clear lp;have hng : (w2.alloc (.cells #[.slice ca cs.length cc, .int .i64 0] 83)).heap.size = w2.heap.size + 1 := by simp
  have HGO := iH (show OB _ _ _ by have h := OB.new w2 #[.slice ca cs.length cc, .int .i64 0] 83; simpa using h);have HB3 : Hd (Bl w (w2.alloc (.cells #[.slice ca cs.length cc, .int .i64 0] 83))) := bl_alloc HB2.o _;have HX3 := iH (HX2.o.below (bl_a (.cells #[.slice ca cs.length cc, .int .i64 0] 83)));have HO3 := iH (HO2.o.below (bl_a (.cells #[.slice ca cs.length cc, .int .i64 0] 83)));have HSZ3 := iH hng;clear hng;obtain ⟨g, hg⟩ : ∃ g, g = w2.heap.size := ⟨_, rfl⟩;have HGG : Hd (w.heap.size + 1 < g) := (show _ by rw [hg]; exact HG2.o);have HSG : Hd ((w2.alloc (.cells #[.slice ca cs.length cc, .int .i64 0] 83)).heap.size = g + 1) := (show _ by rw [hg]; exact HSZ3.o);rw [← hg] at HGO ⊢;clear HSZ3 hg;generalize w2.alloc _ = W3 at *;have HNB : Hd (NumR w.heap.size W3 g ca cs) := HNR.o.imp id fun ⟨b, off, e1, e2, e3⟩ => ⟨b, off, e1, Nat.lt_of_lt_of_le e2 HB3.o.size, ⟨by have := HGG.o; omega, e2⟩, fun i x hx => (HB3.o.cell (p := ⟨b, off + i, none⟩) e2).trans (e3 i x hx)⟩
  have HC : Hd (CM w.heap.size W3 g cs) := ⟨⟨ca, cc, cs, 0, HGO.o, nZ, HCL.o, rfl, HNB.o⟩, HRG.o⟩;have HPL := iH (l7plan_any a cs g w W3 HB3.o (by have := HGG.o; omega) HLA.o HAK.o.1.wa (by have h1 := ac_le HAK.o.1; have h2 := HAK.o.2.1; show ac a ≤ 1000000; omega) HC.o);clear HC HNB HGO HNR HLA HRG HCL HCC HG2 HB2 HX2 HO2;refine HPL.o.mono ?_;rintro r w3 ⟨y0, rfl, hh, _, hs, _, hp⟩;have hb3 := hp.below (by have := HGG.o; omega) HB3.o.size;have HB4 := iH (HB3.o.trans hb3);have HO4 := iH (HO3.o.pastP hp (by have := HGG.o; omega));have HYL := iH (hh.lies HB4.o);have HS := iH hs;have HSZ := iH HO4.o.1;clear hh hs hp hb3 HPL HB3 HX3 HO3 HSG HGG;have hth := (OB.new w3 zNa 46).there 0 28 (by simp);have one1 := all_oneCell_toArray (cs := y0.d.cl) (by simp [Value.oneCell']);have HPB := iH ((OB.new w3 zNa 46).put [.int _ _, .int _ _, .slice _ _ _, .int _ _, .slice _ _ _, .int _ _, .int _ _, .slice _ _ _, .int _ _, .slice _ _ _, .int _ _, .int _ _, .slice _ _ _, .int _ _, .slice _ _ _, .int _ _, .int _ _, .int _ _, .int _ _, .slice _ _ _, .int _ _, .slice _ _ _, .int _ _, .int _ _, .slice _ _ _, .slice _ _ _, .slice _ _ _, .slice _ _ _] 0 y0.d.cl (by simp) rfl);have HB5 : Hd (Bl w3 ((w3.alloc (.cells zNa 46)).setCells w3.heap.size 0 y0.d.cl)) := below_sets (w0 := w3) _ nR _ 0 _ (bl_a _);go_wp2_with (with_reducible refine wpv_at ?_; refine store_stopV 46 (.tmp 6) (.tmp 20) rfl ?_)
  change wpList _ _ _ _ _ _;refine wpList_store_mid rfl 46 _ _ rfl w3.heap.size 0 y0.d.ar rfl rfl hth (by kernel_rfl) one1 ?_;try simp only [Act.put]
  generalize (w3.alloc _).setCells _ _ _ = w5 at *;have HO5 := iH (HO4.o.below HB5.o);have HYL5 := iH (PT.lies.upper (uB HB5.o) HYL.o);have HB6 := iH (bl_trans HB4.o HB5.o);have HSZ5 := iH HB5.o.size;obtain ⟨gp, hgp⟩ : ∃ b, b = w3.heap.size := ⟨_, rfl⟩;rw [← hgp] at HPB ⊢;clear hth one1 HO4 HYL HB4 HB5 hgp;have lq : w5.rangeAt gp 0 y0.d.cl := HPB.o.box.range 0 _ rfl;go_wp2_with (with_reducible refine wpv_at ?_; refine ldr rfl rfl rfl Tryz.underlying46 lq rfl ?_; try simp only [Act.put, sA, zA, cA])
  clear lq;refine (specPlanOk_any y0 w5 HYL5.o).mono ?_;rintro r w6 ⟨q, rfl, hq, hb6⟩;have HQ := iH (hq.trans (planOk_same HS.o));have HB7 := iH (bl_trans HB6.o hb6);have HO6 := iH (HO5.o.below hb6);have HPB6 := iH (HPB.o.below hb6);have HYL6 := iH (PT.lies.upper (uB hb6) HYL5.o);have HSZ6 := iH HO6.o.1;clear hq hb6 HB6 HO5 HPB HYL5 HSZ5 HSZ;cases q
  · have HN : Hd (¬ (algOk a ∧ cs.length ≤ 300 ∧ planOk (planF (mA a) a cs).1)) := fun h => by cases HQ.o.2 h.2.2
    have hst := HO6.o.there 0 28 (by simp);have on := all_oneCell_toArray (cs := zNl) (by simp [Value.oneCell']);have hrd : (w6.setCells (w.heap.size + 1) 0 zNl).rangeAt (w.heap.size + 1) 0 zNl := World.rangeAt_setCells_same _ _ _ _ hst;have hbf := iH (below_sets (w0 := w) (w.heap.size + 1) (by omega) zNl 0 w6 HB7.o);have hsf := iH ((but_sets (w.heap.size + 1) zNl 0 w6).size);have huf := iH (upper_sets (w.heap.size + 1) zNl 0 w6);go_wp2_with (with_reducible refine wpv_at ?_; refine store_stopV 46 (.tmp 4) (.tmp 24) rfl ?_)
    change wpList _ _ _ _ _ _;refine wpList_store_mid rfl 46 _ _ rfl (w.heap.size + 1) 0 zNa rfl rfl hst (by kernel_rfl) on ?_;try simp only [Act.put]
    generalize w6.setCells (w.heap.size + 1) 0 zNl = W5 at *;go_wp2;try simp only [Exit.inBlock, Exit.then]
    refine bodyPost_ret (v := .tuple #[.agg zNa, .bool false]) ?hrf4 rfl ?hpf4
    case hrf4 => exact results_cell2 rfl rfl rfl (run_loadVar_mid (P := Tryz.prog) _ (w.heap.size + 1) 0 46 zNl _ hrd Tryz.underlying46 rfl (by kernel_rfl))
    exact ⟨PT0, false, rfl, PT0_ow _ _, PT0_fp ▸ Cp.nil _ _, .inr ⟨rfl, HN.o, rfl⟩, hbf.o⟩
  have HPK := iH (HQ.o.1 rfl);have lq : w6.rangeAt gp 0 y0.d.cl := HPB6.o.box.range 0 _ rfl;go_wp2_with (with_reducible refine wpv_at ?_; refine ldr rfl rfl rfl Tryz.underlying46 lq rfl ?_; try simp only [Act.put, sA, zA, cA])
  clear lq;refine (l7own_any y0 w6 HYL6.o).mono ?_;rintro r w7 ⟨y, rfl, hy, hcp, hs, hb7⟩;have HY := iH hy;have HC := iH hcp;have HSY := iH hs;have HB8 := iH (bl_trans HB7.o hb7);have HO7 := iH (HO6.o.below hb7);clear hy hcp hs hb7 HB7 HO6 HPB6 HYL6;have hst := HO7.o.there 0 28 (by simp);have on := all_oneCell_toArray (cs := y.d.cl) (by simp [Value.oneCell']);have hrd : (w7.setCells (w.heap.size + 1) 0 y.d.cl).rangeAt (w.heap.size + 1) 0 y.d.cl := World.rangeAt_setCells_same _ _ _ _ hst;have hbf := iH (below_sets (w0 := w) (w.heap.size + 1) (by omega) y.d.cl 0 w7 HB8.o);have hsf := iH ((but_sets (w.heap.size + 1) y.d.cl 0 w7).size);have huf := iH (upper_sets (w.heap.size + 1) y.d.cl 0 w7);go_wp2_with (with_reducible refine wpv_at ?_; refine store_stopV 46 (.tmp 4) (.tmp 26) rfl ?_)
  change wpList _ _ _ _ _ _;refine wpList_store_mid rfl 46 _ _ rfl (w.heap.size + 1) 0 y.d.ar rfl rfl hst (by kernel_rfl) on ?_;try simp only [Act.put]
  generalize w7.setCells (w.heap.size + 1) 0 y.d.cl = W5 at *;go_wp2;try simp only [Exit.inBlock, Exit.then]
  refine bodyPost_ret (v := .tuple #[.agg y.d.ar, .bool true]) ?hrt rfl ?hpt
  case hrt => exact results_cell2 rfl rfl rfl (run_loadVar_mid (P := Tryz.prog) _ (w.heap.size + 1) 0 46 y.d.cl _ hrd Tryz.underlying46 rfl (by kernel_rfl))
  have hg : w.heap.size + 1 + 1 ≤ w6.heap.size := by have := HSZ6.o; omega
  exact ⟨y, true, rfl, (HY.o.upper (huf.o.mono hg)).base (by omega), HC.o.mono (by omega) (Nat.le_of_eq hsf.o.symm), .inl ⟨rfl, ⟨HAK.o, HC3.o, HPK.o⟩, PT.same.trans (PT.same.symm HSY.o) HS.o⟩, hbf.o⟩
theorem sum_w {g : Nat → Nat} (h : ∀ i, i < n → f i + 1 ≤ m * g i) : n + sumN n f ≤ m * sumN n g := by
 induction n with
 | zero => simp [sumN]
 | succ n ih =>
  have h1 := ih fun i hi => h i (by omega);have h2 := h n (by omega);show n + 1 + (sumN n f + f n) ≤ m * (sumN n g + g n);rw [Nat.mul_add];omega
theorem ET.wt_sz (e : ET) : e.lies B w → e.wt + 1 ≤ 4194304 * esz e := by
 induction e with
 | nil => exact fun h => False.elim h
 | mk d kid ih =>
  intro h;have h1 := h.1.1.2.1;have h2 : d.t.t.len ≤ 1048576 := h.2.1.1.2.1;have hs := sum_w (m := 4194304) (f := fun i => (kid i).wt) (g := fun i => esz (kid i)) fun i (hi : i < d.n) => ih i (h.2.2.2.2.2 i hi);show d.v.len + d.t.t.len + (d.n + sumN d.n (fun i => (kid i).wt)) + 1 ≤ 4194304 * (1 + sumN d.n (fun i => esz (kid i)));omega
theorem sum_max (h : ∀ i, i < n → f i ≤ 1048576) : sumN n f ≤ 1048576 * n := by
 induction n with
 | zero => exact nR
 | succ n ih =>
  have h1 := ih fun i hi => h i (by omega);have h2 := h n (by omega);show sumN n f + f n ≤ 1048576 * (n + 1);omega
theorem PT.wt_sz (e : PT) : ∀ {deep : Int}, e.lies B w → pOk e deep → e.wt + 1 ≤ 16777216 * psz e := by
 induction e with
 | nil => exact fun h => False.elim h
 | mk d kid ih =>
  intro deep h hp;obtain ⟨lp, le, lv, lt, _, _, _, lk⟩ := h;obtain ⟨_, hN, hk⟩ := hp;have p1 := lp.1.1.1.2.1;have p2 : d.p.s.t.t.len ≤ 1048576 := lp.1.2.1.1.2.1;have p3 := lp.2.1.1.1.2.1;have p4 : d.p.p.t.t.len ≤ 1048576 := lp.2.1.2.1.1.2.1;have p5 := lp.2.2.1.1.2.1;have p6 : d.p.o.t.t.len ≤ 1048576 := lp.2.2.2.1.1.2.1;have h1 := lv.1.2.1;have ht : twt d.tb d.tb.length ≤ 1048576 * d.tb.length := sum_max fun i hi => by
   have h2 : (d.tb[i]?.map (fun x => x.t.len)).getD 0 = d.tb[i].t.len := by simp [hi]
   show (d.tb[i]?.map (fun x => x.t.len)).getD 0 ≤ _;rw [h2];exact (lt.2.2 d.tb[i] (List.getElem_mem hi)).1.1.2.1
  have htn := hN.tn;have hs := sum_w (m := 16777216) (f := fun i => (kid i).wt) (g := fun i => psz (kid i)) fun i (hi : i < d.n) => ih i (lk i hi) (hk i hi);have he : d.e.wt ≤ 4194304 * (if d.k = 2 ∨ d.k = 5 ∨ d.k = 6 then esz d.e else 0) := by
   by_cases hE : d.k = 2 ∨ d.k = 5 ∨ d.k = 6
   · rw [if_pos hE]
     have := ET.wt_sz d.e le;omega
   rw [if_neg hE, zeroE_wt (hN.e0 hE) le];exact nZ
  have hpw : d.p.wt ≤ 6291456 := by
   show (d.p.s.v.len + d.p.s.t.t.len) + (d.p.p.v.len + d.p.p.t.t.len) + (d.p.o.v.len + d.p.o.t.t.len) ≤ _;omega
  rw [psz_mk];unfold ownP;show d.p.wt + d.e.wt + d.v.len + (d.tb.length + twt d.tb d.tb.length) + (d.n + sumN d.n (fun i => (kid i).wt)) + 1 ≤ _;omega
theorem PT.ow.mks {e : PT} (h : e.ow B w) (hb : Bl w w') (hp : planOk e) : PMk B w.heap.size w' e :=
 h.marks hb (by have h1 := PT.wt_sz e h.l hp.1; have h2 := hp.2.1; omega)
theorem PT0.mks (hb : Bl w w') : PMk B w.heap.size w' PT0 := (PT0_ow B w).marks hb (by show 0 + 0 + 0 + (0 + 0) + (0 + 0) ≤ 34359738368; omega)
theorem PlanA.mks (h : PlanA a cs y q) (ho : y.ow B w) (hb : Bl w w') : PMk B w.heap.size w' y := by
 rcases h with ⟨_, h1, h2⟩ | ⟨_, _, rfl⟩
 · exact ho.mks hb ((planOk_same h2).2 h1.2.2)
 exact PT0.mks hb
theorem cE_same {e : ET} : ∀ {e' : ET}, WE e → e.same e' → cE e = cE e' := by
 induction e with
 | nil => intro e' _ s; cases e' <;> exact False.elim s
 | mk d kid ih =>
  intro e' hw s;cases e' with
  | nil => exact False.elim s
  | mk d' kid' =>
   obtain ⟨s1, s2, _, _, _, s6⟩ := s;unfold cE;rw [← s1, ← s2];by_cases h : d.k = 2 ∧ d.op = 6
   · have hn := hw.1 h.1
     rw [if_pos h, if_pos h, ih 0 (hw.2 0 (by omega)) (s6 0 (by omega)), ih 1 (hw.2 1 (by omega)) (s6 1 (by omega))]
   rw [if_neg h, if_neg h]
theorem mA_same : ∀ {a' : AT}, WA a → a.same a' → mA a = mA a' := by
 induction a with
 | nil => intro a' h; exact False.elim h
 | mk d kid ih =>
  intro a' hw s;cases a' with
  | nil => exact False.elim s
  | mk d' kid' =>
   obtain ⟨⟨_, _, wn⟩, _, _, we, wk⟩ := hw;obtain ⟨s1, _, _, s4, _, _, s7, s8⟩ := s;unfold mA;rw [← s1];by_cases h : d.k = 5
   · have hn : 0 < d.n := by rw [wn, h]; decide
     rw [if_pos h, if_pos h, cE_same we s4, ih 0 (wk 0 hn) (s8 0 hn)]
   rw [if_neg h, if_neg h, ← s7];exact congrArg (1 + ·) (sumN_congr fun i hi => ih i (wk i hi) (s8 i hi))
theorem planZ_same (s : a.same b) (h : algOk a) (cs : List Int) : (planF (mA a) a cs).1.same (planF (mA b) b cs).1 := by
 rw [← mA_same h.1.wa s];exact (planF_same (mA a) cs h.1.wa s).1
theorem PlanA.alg (s : a.same b) (h : PlanA b cs y q) : PlanA a cs y q := by
 rcases h with ⟨h1, ⟨h2, h3, h4⟩, h5⟩ | ⟨h1, h2, h3⟩
 · have ha := (algOk_same s).2 h2
   have hz := planZ_same s ha cs;exact .inl ⟨h1, ⟨ha, h3, (planOk_same hz).2 h4⟩, PT.same.trans h5 (PT.same.symm hz)⟩
 exact .inr ⟨h1, fun ⟨k1, k2, k3⟩ => h2 ⟨(algOk_same s).1 k1, k2, (planOk_same (planZ_same s k1 cs)).1 k3⟩, h3⟩
theorem PT0.refl : PT0.same PT0 := ⟨rfl, rfl, PBz.refl, ET0.refl, rfl, rfl, rfl, fun _ hi => absurd hi nN⟩
theorem PlanA.uniq {z : PT} {q' : Bool} (h : PlanA a cs y q) (k : PlanA a cs z q') : q' = q ∧ z.same y := by
 rcases h with ⟨h1, h2, h3⟩ | ⟨h1, h2, h3⟩
 · rcases k with ⟨k1, k2, k3⟩ | ⟨k1, k2, k3⟩
   · exact ⟨k1.trans h1.symm, PT.same.trans k3 (PT.same.symm h3)⟩
   exact absurd h2 k2
 rcases k with ⟨k1, k2, k3⟩ | ⟨k1, k2, k3⟩
 · exact absurd k2 h2
 subst h3 k3;exact ⟨k1.trans h1.symm, PT0.refl⟩
def OwnL (w : World) (B : Nat) (a : Option Addr) (n cap : Nat) (l : List PB) : Prop := n = l.length ∧ n ≤ cap ∧ (l = [] ∨ ∃ g, a = some ⟨g, 0, none⟩ ∧ B ≤ g ∧ ∃ R, OB w g (flatP l ++ R) ∧ (flatP l ++ R).length = cap * 15)
theorem OwnL.of_own {a' : Option Addr} (h : w.ownsRow B 39 15 (.slice a' n cap) n (flatP l)) : OwnL w B a' n cap l := by
 have hl := h.1;rw [flatP_len] at hl;have hn : n = l.length := by omega
 rcases h.2 with ⟨hv, h0⟩ | ⟨g, cap', cur, hv, hB, hg, hc, _, hs, ht⟩
 · cases hv
   exact ⟨hn, by omega, .inl (List.eq_nil_of_length_eq_zero (by omega))⟩
 cases hv;refine ⟨hn, hc, .inr ⟨g, rfl, hB, cur.toList.drop (n * 15), ?_, ?_⟩⟩
 · rw [← ht, List.take_append_drop]
   refine ⟨(Array.getElem?_eq_some_iff.1 hg).1, fun c u hu => ⟨?_, ?_⟩⟩
   · simp only [World.cell?, hg]
     simpa using hu
   simp only [World.frozen?, hg];simp
 rw [← ht, List.take_append_drop];simpa using hs
theorem OwnL.past {a : Option Addr} (h : OwnL w B a n cap l) (hp : Past g w w') (hg : g < B) : OwnL w' B a n cap l :=
 ⟨h.1, h.2.1, h.2.2.imp id fun ⟨q, ha, hB, R, ho, hr⟩ => ⟨q, ha, hB, R, ho.pastP hp (by omega), hr⟩⟩
theorem OwnL.row {a : Option Addr} (h : OwnL w B a n cap l) : PRow B w a l :=
 h.2.2.imp id fun ⟨g, ha, hB, R, ho, _⟩ => ⟨g, 0, ha, hB, ho.1, fun j u hu => by rw [Nat.zero_add]; exact (ho.2 j u (by rw [List.getElem?_append_left (List.getElem?_eq_some_iff.1 hu).1]; exact hu)).1⟩
theorem Past.but2 {wx wy : World} (h : Past g w wx) (hu : But g wx wy) : Past g w wy := ⟨hu.os.trans h.os, hu.tape.trans h.tape, hu.output.trans h.output, by rw [hu.size]; exact h.size, fun b hb hn => (hu.block b hn).trans (h.block b hb hn)⟩
theorem flatP_app' (_h : (flatP (l.take i) ++ flatP (l.drop (i + 1))).length = m * 15) : flatP (l.take i) ++ flatP (l.drop (i + 1)) = flatP (l.eraseIdx i) := by rw [← flatP_app, List.eraseIdx_eq_take_drop_succ]
theorem zero_tail {R2 : List Value} (hA : (flatP (l.take i) ++ flatP (l.drop (i + 1))).length = m * 15) (_h : (flatP (l.take i)).length + ((flatP (l.drop (i + 1))).length + R2.length) = cap * 15) :
 (flatP (l.take i) ++ (flatP (l.drop (i + 1)) ++ R2)).take (m * 15) ++ (zPl ++ (flatP (l.take i) ++ (flatP (l.drop (i + 1)) ++ R2)).drop (m * 15 + (zPl : List Value).length)) = flatP (l.eraseIdx i) ++ (zPl ++ R2.drop 15) := by
 have hd : ∀ (A : List Value), A.length = m * 15 → (A ++ R2).drop (m * 15 + 15) = R2.drop 15 := fun A h => by rw [← List.drop_drop, List.drop_left' h]
 rw [(List.append_assoc (flatP (l.take i)) (flatP (l.drop (i + 1))) R2).symm, List.take_left' hA, show m * 15 + ([.slice none 0 0, .int .i64 0, .slice none 0 0, .int .i64 0, .int .i64 0, .slice none 0 0, .int .i64 0, .slice none 0 0, .int .i64 0, .int .i64 0, .slice none 0 0, .int .i64 0, .slice none 0 0, .int .i64 0, .int .i64 0] : List Value).length = m * 15 + 15 from rfl, hd _ hA, flatP_app' hA]
def ClP (w : World) (n : Nat) (l : List PB) (r : Ending) (w' : World) : Prop := ∃ a' c', r = .returned (.slice a' n c') ∧ OwnL w' w.heap.size a' n c' l ∧ Bl w w'
theorem cloneP_any (a : Option Addr) (c : Nat) (l : List PB) (w : World) (h : PRow 0 w a l) (hn : l.length ≤ 1048576) : Calls Tryz.prog 121 #[.slice a l.length c] w (ClP w l.length l) := by
 obtain ⟨n, hnn⟩ : ∃ n, n = l.length := ⟨_, rfl⟩;have HN := iH hnn;rw [← hnn] at hn ⊢;have hq := fun (w : World) (a : Option _) (n : Nat) (c : Nat) (n' : Nat) (c' : Nat) => Lib.run_eql_slice_nil w _ _ a n c n' c' Tryz.underlying49;cases a with
 | none =>
  have HL := iH (h.elim id fun h => by obtain ⟨_, _, h, _⟩ := h; cases h);have hn0 : n = 0 := by rw [hnn, HL.o]; rfl
  subst hn0;clear h hnn;go_in;go_wp2;go_ret;exact ⟨none, 0, rfl, ⟨HN.o, nR, .inl HL.o⟩, Below.refl _ _⟩
 | some ad =>
  have HS : Hd (n = 0 ∨ ∃ b off, (some ad : Option Addr) = some ⟨b, off, none⟩ ∧ ∀ j u, (flatP l)[j]? = some u → (w.alloc (.cells #[] 39)).cell? ⟨b, off + j, none⟩ = some u) := by
   rcases h with h | ⟨b, off, ha, _, hlt, hc⟩
   · exact .inl (by rw [hnn, h]; rfl)
   exact .inr ⟨b, off, ha, fun j u hu => ((bl_a (w := w) (.cells #[] 39)).cell (p := ⟨b, off + j, none⟩) hlt).trans (hc j u hu)⟩
  have HO0 := iH (World.ownsRow_made (e := 39) (size := 15) w #[] 0 (Nat.le_refl w.heap.size) nZ rfl);have HZ : Hd ((flatP l).length = n * 15) := (show _ = _ by rw [flatP_len, HN.o]);have HS1 : Hd (w.heap.size ≤ (w.alloc (.cells #[] 39)).heap.size) := (show _ ≤ _ by simp);clear h hnn;go_in;go_wp2_with (with_reducible refine wpv_at ?_; refine app_stopC (.tmp 5) (.tmp 6) 49 rfl ?_)
  change wpList _ _ _ _ _ _;refine list_appP (.tmp 5) (.tmp 6) 7 w.heap.size 0 (.slice (some ⟨w.heap.size, 0, none⟩) 0 0) [] HO0 (some ad) n c (flatP l) HS HZ (iH (fun u hu => flatP_one hu)) n (Nat.zero_add _) (by omega) HS1.o ?_;intro a' c' w2 HOW HGR;try simp only [Act.put, sA, zA, cA]
  have HB2 := iH ((bl_a _).trans (below_grown HGR.o (fun g hg => by have : w.heap.size = g := (by simpa [Value.ownBlock] using hg); omega) HS1.o));go_wp2;go_ret;exact ⟨a', c', rfl, OwnL.of_own (by have h := HOW.o; rwa [List.nil_append] at h), HB2.o⟩
theorem run_clearP (w : World) (g o c : Nat) (ty : TypeId) (h : w.there g o 15) : (Builtin.clear_ #[49] ty #[.slice (some ⟨g, o, none⟩) 1 c]).run Tryz.prog w = .ok (.tuple #[]) (w.setCells g o zPl) := by
 obtain ⟨i0, hi0, hzz⟩ := Option.map_eq_some_iff.1 infoA15;simp only [Prod.mk.injEq] at hzz;obtain ⟨hi2, hi1, hi3⟩ := hzz;have hst := run_storeCells_cells (P := Tryz.prog) g o zPl 0 w (fun j hj => (by have h2 := (h j hj).1; simpa using h2)) (fun j hj => (by have h2 := (h j hj).2; simpa using h2)) (by intro u hu; simp only [List.mem_cons, List.not_mem_nil, or_false] at hu; rcases hu with rfl | rfl | rfl | rfl | rfl | rfl | rfl | rfl | rfl | rfl | rfl | rfl | rfl | rfl | rfl <;> rfl);simp only [Nat.add_zero] at hst;have hz : ∀ w, (zeroValue 39).run Tryz.prog w = .ok (.agg zPa) w := fun w => by kernel_rfl
 have e : Builtin.zeroCells (Value.agg zPa).cells 1 = zPl.toArray := by kernel_rfl
 simp [Builtin.clear_, run_underlying Tryz.underlying49, hz, e, hst]
def DlP (w : World) (B g n cap : Nat) (l : List PB) (r : Ending) (w' : World) : Prop := r = .returned (.slice (some ⟨g, 0, none⟩) n cap) ∧ OwnL w' B (some ⟨g, 0, none⟩) n cap l ∧ Past g w w'
theorem step_appRoom {ops : Array Oper} {o : Oper} {a : Act} {K : Act → World → Prop} {Q : Exit → Act → World → Prop} {E : Prop} (s x : Operand) (dd : Nat) (g i cap : Nat) (xa : Addr) (m c : Nat) (news : List Value) (hl : Hd (news.length = m * 15)) (hnews : Hd (∀ j u, news[j]? = some u → w.cell? (xa.add j) = some u)) (h1 : Hd (∀ u ∈ news, u.oneCell' = true)) (N : Nat) (hN : i + m = N) (hroom : N ≤ cap) (ht : Hd (w.there g (i * 15) news.length))
 (h : K (a.put (some dd) (.slice (some ⟨g, 0, none⟩) N cap)) (w.setCells g (i * 15) news))
 (hgd : o.guard = none := by rfl) (hdd : o.dst = some dd := by rfl) (ho : o.op = .call { callee := .builtin .append, args := #[s, x], argTypes := #[49, 49] } := by rfl) (hs : a.eval s = .slice (some ⟨g, 0, none⟩) i cap := by rfl) (hx : a.eval x = .slice (some xa) m c := by rfl) :
 if Region.wanted o (yielded ops a.tmps) = true then Oper.wp Tryz.prog o a w K Q else E := by
 have hw : Region.wanted o (yielded ops a.tmps) = true := by simp [Region.wanted, hgd]
 subst hN;rw [if_pos hw];obtain ⟨i0, hi0, hzz⟩ := Option.map_eq_some_iff.1 infoA15;simp only [Prod.mk.injEq] at hzz;obtain ⟨hi2, hi1, hi3⟩ := hzz;have hsrc : Src Tryz.prog i0.size 49 (.slice (some xa) m c) m news w := Src.ofSlice w Tryz.underlying49 xa m c _ (by rw [hi1]; exact hl.o) hnews.o h1.o;have hr := run_append_room_src (P := Tryz.prog) w 49 49 o.type 39 i0 Tryz.underlying49 hi0 g 0 i cap (.slice (some xa) m c) m news hsrc hroom (fun j hj => by rw [hi1, Nat.zero_add]; exact (ht.o j hj).1) (fun j hj => by rw [hi1, Nat.zero_add]; exact (ht.o j hj).2);rw [hi1, Nat.zero_add] at hr;unfold Oper.wp execOp;simp only [ho, resolve, invoke, builtin, Sem.run_bind, Sem.run_pure, Result.andThen_ok, List.map_toArray, List.map_cons, List.map_nil, hs, hx, hr];have h' := h;rw [← hdd] at h';exact h'
theorem deleteP_any (g m cap i : Nat) (l : List PB) (B : Nat) (w : World) (h : OwnL w B (some ⟨g, 0, none⟩) (m + 1) cap l) (hi : i < m + 1) (hn : m + 1 ≤ 1048576) : Calls Tryz.prog 122 #[.slice (some ⟨g, 0, none⟩) (m + 1) cap, .int .i64 i, .int .i64 ((i : Int) + 1)] w (DlP w B g (m) cap (l.eraseIdx i)) := by
 obtain ⟨n, hnm⟩ : ∃ n, n = m + 1 := ⟨_, rfl⟩;rw [← hnm] at h hi hn ⊢;obtain ⟨hnl, hnc, ho⟩ := h;obtain ⟨g', hg', hgB, R, hob, hR⟩ := ho.resolve_left (fun e => by rw [e] at hnl; simp at hnl; omega);cases hg';have HNL := iH hnl;have HOB := iH hob;have HR := iH hR;have HGB := iH hgB;have HFL : Hd (flatP l = flatP (l.take i) ++ flatP (l.drop i)) := (show _ = _ by rw [← flatP_app, List.take_append_drop]);have HT1 : Hd ((flatP (l.take i)).length = i * 15) := (show _ = _ by rw [flatP_len, List.length_take, Nat.min_eq_left (by omega)]);have HT2 : Hd ((flatP (l.drop (i + 1))).length = (n - (i + 1)) * 15) := (show _ = _ by rw [flatP_len, List.length_drop, ← hnl]);have HT3 : Hd (flatP l = flatP (l.take (i + 1)) ++ flatP (l.drop (i + 1))) := (show _ = _ by rw [← flatP_app, List.take_append_drop]);have HT4 : Hd ((flatP (l.take (i + 1))).length = (i + 1) * 15) := (show _ = _ by rw [flatP_len, List.length_take, Nat.min_eq_left (by omega)]);have HLL : Hd ((flatP l).length = n * 15) := (show _ = _ by rw [flatP_len, ← hnl]);clear hnl ho hob hR hgB;obtain ⟨ta, hta⟩ : ∃ ta : Addr, ta = (if cap = i + 1 then ⟨g, 0, none⟩ else ⟨g, (i + 1) * 15, none⟩) := ⟨_, rfl⟩;have HTA := iH hta;clear hta;have hic : (i : Int) ≤ (cap : Int) := by omega
 have hi1n : (i : Int) + 1 ≤ (n : Int) := by omega
 have hi1c : (i : Int) + 1 ≤ (cap : Int) := by omega
 have hnz : (n : Int) ≤ (cap : Int) := by omega
 have hi0 : (0 : Int) ≤ (i : Int) + 1 := by omega
 have hii : (i : Int) ≤ (i : Int) + 1 := by omega
 have hne : ¬ (i : Int) = (i : Int) + 1 := by omega
 have hmn : (m : Int) ≤ (n : Int) := by omega
 have hm0 : (0 : Int) ≤ (m : Int) := by omega
 have HNM := iH hnm;clear hnm;go_in;go_upto_region 5 with fail
 refine wqd (fun w' => Past g w w') ?_ fun hHeld => ?_
 · exact Past.of_below bdr
 have HOBn := iH (HOB.o.below bdr);have HP1 : Hd (Past g w w.drew) := Past.of_below bdr;clear HOB;generalize w.drew = w1 at *;refine tqB 0 20 ?_;refine tqB 1 21 ?_;refine tqB 2 22 (v := .slice (some ⟨g, 0, none⟩) i cap) ?_;refine tqB 3 23 ?_;refine tqB 4 24 ?_;refine tqB 5 25 (v := .slice (some ta) (n - (i + 1)) (cap - (i + 1))) (hy := by intro w' hSw; rw [HTA.o]; split <;> (go_simp; try simp_all)) ?_;have HLN : Hd ((flatP l ++ R).length = cap * 15) := HR;have hl2 := HT2.o;have hll := HLL.o;have hln : (flatP l).length + R.length = cap * 15 := by rw [← List.length_append]; exact HR.o
 refine rqA 6 fun K hK => ?_;refine step_appRoom (.tmp 22) (.tmp 25) 26 g i cap ta (n - (i + 1)) (cap - (i + 1)) (flatP (l.drop (i + 1))) HT2 (iH ?hnw) (iH (fun u hu => flatP_one hu)) m (by have := HNM.o; omega) (by have := HNM.o; omega) (iH (HOBn.o.there (i * 15) _ (by rw [List.length_append, hl2]; have := HNM.o; omega))) ?_
 case hnw =>
  intro j u hu;have hj := (List.getElem?_eq_some_iff.1 hu).1;rw [HTA.o, if_neg (by have := HNM.o; omega)];have h := (HOBn.o.2 ((i + 1) * 15 + j) u (by rw [List.getElem?_append_left (by have := HNM.o; omega), HT3.o, List.getElem?_append_right (by rw [HT4.o]; have := HNM.o; omega), HT4.o, Nat.add_sub_cancel_left]; exact hu)).1;rw [show (⟨g, (i + 1) * 15, none⟩ : Addr).add j = ⟨g, (i + 1) * 15 + j, none⟩ from by unfold Addr.add; split <;> simp_all]
  exact h
 obtain ⟨R2, hR2⟩ : ∃ R2, R2 = (flatP l ++ R).drop (i * 15 + (flatP (l.drop (i + 1))).length) := ⟨_, rfl⟩;have hput := HOBn.o.put (flatP (l.drop (i + 1))) (i * 15) (flatP (l.take i) ++ (flatP (l.drop (i + 1)) ++ R2)) (by rw [List.length_append, hl2]; have := HNM.o; omega) (by rw [← hR2]; congr 1; rw [HFL.o, List.append_assoc, List.take_append_of_le_length (by rw [HT1.o]; exact nR), List.take_of_length_le (by rw [HT1.o]; exact nR)]);have HPT := iH hput;have HR2 : Hd (R2.length = (cap - m) * 15) := (show _ = _ by rw [hR2, List.length_drop, List.length_append, hl2]; have := HNM.o; omega);have HP2 := iH (HP1.o.but2 (but_sets g (flatP (l.drop (i + 1))) (i * 15) w1));clear hput hR2 hl2 hll hln;clear hHeld;refine rhK hK HP2.o fun hHeld => ?_;clear hK K HOBn HP1 HTA;refine tqB 7 0 ?_;clear hHeld;refine wpAnyH_done (by kernel_rfl) ?_ _;generalize w1.setCells _ _ _ = w2 at *;have HLA : Hd ((flatP (l.take i)).length + ((flatP (l.drop (i + 1))).length + R2.length) = cap * 15) := (show _ = _ by rw [HT1.o, HT2.o, HR2.o]; have := HNM.o; omega);have hcl := fun ty => run_clearP w2 g _ (cap - m) ty (HPT.o.there (m * 15) 15 (by rw [List.length_append, List.length_append]; have := HLA.o; have := HNM.o; omega));have HEN := iH (HPT.o.put _ (m * 15) _ (by rw [List.length_append, List.length_append]; have := HLA.o; simp only [List.length_cons, List.length_nil]; have := HNM.o; omega) (zero_tail (by rw [List.length_append, HT1.o, HT2.o]; have := HNM.o; omega) HLA.o));have HP3 := iH (HP2.o.but2 (but_sets g zPl (m * 15) w2));have hcm : ¬ cap = m := by have := HNM.o; omega
 have hcz : (n : Int) ≤ (cap : Int) := by have := HNM.o; omega
 have h1 : n - m = 1 := by have := HNM.o; omega
 clear HPT HP2;go_wp2;go_ret;have hel : (l.eraseIdx i).length = m := by rw [List.length_eraseIdx_of_lt (by rw [← HNL.o]; exact hi), ← HNL.o]; have := HNM.o; omega
 exact ⟨rfl, ⟨hel.symm, by have := HNM.o; omega, .inr ⟨g, rfl, HGB.o, _, HEN.o, by rw [List.length_append, List.length_append, flatP_len, hel, List.length_drop, HR2.o]; have := HNM.o; simp only [List.length_cons, List.length_nil]; omega⟩⟩, HP3.o⟩
end Go.Proofs.YtoloadogihbdeaaGreat
