import Derived.Test.YtoloadogihbdeaaGreatMk12
import Derived.Lib.QuietBelow
namespace Go.Proofs.YtoloadogihbdeaaGreat
open Go.RowKit Go.Deep
set_option maxHeartbeats 40000000
set_option maxRecDepth 100000
variable {ks : List Int} {B B' g n : Nat} {a : Option Addr} {e : PT} {w w' : World}
def PT.wz (B : Nat) (w : World) : PT → Prop
 | .nil => False
 | .mk d kid => d.p.own B w ∧ d.e.wz B w ∧ TxW B w d.v ∧ (RoZ B w d.ta d.tb.length 4 ∧ ∀ x ∈ d.tb, TxW B w x.sl) ∧ RoZ B w d.ka d.n 28 ∧ ∀ i, i < d.n → (kid i).wz B w
def PT.fp : PT → List Nat
 | .nil => []
 | .mk d kid => d.p.fp ++ d.e.fp ++ d.v.fp ++ tfp d.ta d.tb ++ (rfp d.ka d.n ++ catB (fun i => (kid i).fp) d.n)
structure PT.ow (B : Nat) (w : World) (e : PT) : Prop where
 l : e.lies B w
 z : e.wz B w
theorem PT.ow.upper (h : e.ow B w) (hu : Upper B w w') : e.ow B w' := by
 refine ⟨PT.lies.upper hu h.l, ?_⟩;obtain ⟨hl, hz⟩ := h;induction e with
 | nil => exact hz
 | mk d kid ih =>
  obtain ⟨z2, z3, z4, ⟨z5, z6⟩, z7, z8⟩ := hz;exact ⟨z2.upper hu, (ET.ow.upper ⟨hl.2.1, z3⟩ hu).z, z4.upper hu, ⟨z5.upper hu, fun x hx => (z6 x hx).upper hu⟩, z7.upper hu, fun i hi => ih i (hl.2.2.2.2.2.2.2 i hi) (z8 i hi)⟩
theorem PT.ow.base (h : e.ow B w) (hB : B' ≤ B) : e.ow B' w := by
 refine ⟨PT.lies.base hB h.l, ?_⟩;obtain ⟨hl, hz⟩ := h;induction e with
 | nil => exact hz
 | mk d kid ih =>
  obtain ⟨z2, z3, z4, ⟨z5, z6⟩, z7, z8⟩ := hz;exact ⟨z2.base hB, (ET.ow.base ⟨hl.2.1, z3⟩ hB).z, z4.base hB, ⟨z5.base hB, fun x hx => (z6 x hx).base hB⟩, z7.base hB, fun i hi => ih i (hl.2.2.2.2.2.2.2 i hi) (z8 i hi)⟩
theorem PT.ow.keep (h : e.ow B w) (hk : Stay e.fp w w') : e.ow B w' := by
 obtain ⟨hl, hz⟩ := h;induction e with
 | nil => exact False.elim hl
 | mk d kid ih =>
  obtain ⟨l1, l4, l5, l6, l7, l8, l9, l10⟩ := hl;obtain ⟨z2, z3, z4, ⟨z5, z6⟩, z7, z8⟩ := hz;have a2 := z2.keep hk.left.left.left.left;have a3 := ET.ow.keep ⟨l4, z3⟩ hk.left.left.left.right;have a4 := SL.own.keep (x := d.v) ⟨l5, z4⟩ hk.left.left.right;have a5 := terms_keep l6 z5 z6 hk.left.right;have a6 := row_keep l9 z7 hk.right.left;have a7 := fun i hi => ih i (hk.right.right.kid hi) (l10 i hi) (z8 i hi);exact ⟨⟨a2.lies, a3.l, a4.1, a5.1, l7, l8, a6.1, fun i hi => (a7 i hi).l⟩, ⟨a2, a3.z, a4.2, a5.2, a6.2, fun i hi => (a7 i hi).z⟩⟩
def copiesPR (w : World) (n : Nat) (kid : Nat → PT) (e : Ending) (w' : World) : Prop := ∃ (a' : Option Addr) (c' : Nat) (k' : Nat → PT), e = .returned (.slice a' n c') ∧ n ≤ c' ∧ KRow w.heap.size w' 28 a' n (fun i => (k' i).d.cells) ∧ RoZ w.heap.size w' a' n 28 ∧ (∀ i, i < n → (k' i).ow w.heap.size w') ∧ (∀ i, i < n → (kid i).same (k' i)) ∧ Cp w.heap.size w'.heap.size (rfp a' n ++ catB (fun i => (k' i).fp) n) ∧ Bl w w'
theorem infoPc28 : (Tryz.prog.info? 46).map (fun i => (i.zero, i.size, i.bytes)) = some (some (.agg zNa), 28, 416) := by kernel_rfl
theorem copiesP (a : Option Addr) (cap n : Nat) (kid : Nat → PT) (w : World) (hn : n ≤ 1048576) (hR : KRow 0 w 28 a n (fun i => (kid i).d.cells))
 (IH : ∀ i, i < n → ∀ W, Bl w W → Calls Tryz.prog 39 #[.agg (kid i).d.ar] W fun e w' => ∃ y : PT, e = .returned (.agg y.d.ar) ∧ y.ow W.heap.size w' ∧ Cp W.heap.size w'.heap.size y.fp ∧ (kid i).same y ∧ Bl W w') :
 Calls Tryz.prog 94 #[.slice a n cap] w (copiesPR w n kid) := by
 try unfold PN.ar PN.cl
 have HI := iH IH;by_cases h0 : n = 0
 · subst h0
   clear hR HI IH;go_in;go_wp2;refine wl1 ?_;go_wp2;go_ret;exact ⟨none, 0, kid, rfl, nR, .inl rfl, .inl rfl, fun i hi => absurd hi nN, fun i hi => absurd hi nN, Cp.nil _ _, Below.refl _ _⟩
 obtain ⟨b, off, rfl, _, hlt, hc⟩ := hR.resolve_left h0;have HC := iH hc;clear hR hc IH h0;go_in;go_wp2_with fail
 go_loopw [3, 8] (fun o i wr => ∃ (j : Nat) (v : Value) (k' : Nat → PT), j ≤ n ∧ v = o ∧ i = .int .i64 j ∧ Hd (RowO 46 28 w wr v j (fun i => (k' i).d.cells) (fun i => (k' i).fp)) ∧ Hd (∀ i, i < j → (k' i).ow w.heap.size wr) ∧ Hd (∀ i, i < j → (kid i).same (k' i)))
  (fun _ i _ => n - (intOf i).toNat)
 case atStart => exact ⟨0, _, kid, nZ, rfl, rfl, RowO.nil _ _ _ _ brf, fun i hi => absurd hi nN, fun i hi => absurd hi nN⟩
 obtain ⟨j, v, k', hj, rfl, rfl, HR, HO, HS⟩ := hrel;by_cases hlj : j < n
 · have hcx : wr.rangeAt b (off + j * 28) (kid j).d.cl := fun c u hu => (HR.o.bel.cell (p := ⟨b, off + j * 28 + c, none⟩) hlt).trans (HC.o j hlj c u hu)
   have hth := (OB.new wr zNa 46).there 0 28 (by simp);have one1 := all_oneCell_toArray (cs := (kid j).d.cl) (by simp [Value.oneCell']);have HNB := iH ((OB.new wr zNa 46).put [.int _ _, .int _ _, .slice _ _ _, .int _ _, .slice _ _ _, .int _ _, .int _ _, .slice _ _ _, .int _ _, .slice _ _ _, .int _ _, .int _ _, .slice _ _ _, .int _ _, .slice _ _ _, .int _ _, .int _ _, .int _ _, .int _ _, .slice _ _ _, .int _ _, .slice _ _ _, .int _ _, .int _ _, .slice _ _ _, .slice _ _ _, .slice _ _ _, .slice _ _ _] 0 (kid j).d.cl (by simp) rfl);have HNW : Hd (Bl wr ((wr.alloc (.cells zNa 46)).setCells wr.heap.size 0 (kid j).d.cl)) := below_sets (w0 := wr) _ nR _ 0 _ (bl_a _);have HVS : Hd (((wr.alloc (.cells zNa 46)).setCells wr.heap.size 0 (kid j).d.cl).heap.size = wr.heap.size + 1) := (show _ = _ by rw [(but_sets _ _ _ _).size]; simp);go_wp2_with (first | (with_reducible refine wpv_at ?_; refine wpList_load_mid rfl 46 _ rfl _ _ rfl (kid j).d.cl _ hcx Tryz.underlying46 rfl (by kernel_rfl) ?_; try simp only [Act.put, sA, zA, cA]) | (with_reducible refine wpv_at ?_; refine store_stopV 46 (.tmp 5) (.tmp 11) rfl ?_))
   change wpList _ _ _ _ _ _;refine wpList_store_mid rfl 46 _ _ rfl wr.heap.size 0 (kid j).d.ar rfl rfl hth (by kernel_rfl) one1 ?_;try simp only [Act.put]
   generalize ((wr.alloc (.cells zNa 46)).setCells wr.heap.size 0 (kid j).d.cl) = wv at *;clear hth one1;have hl2 : wv.rangeAt wr.heap.size 0 (kid j).d.cl := HNB.o.box.range 0 _ rfl;go_wp2_with (with_reducible refine wpv_at ?_; refine wpList_load_mid rfl 46 _ rfl _ _ rfl (kid j).d.cl _ hl2 Tryz.underlying46 rfl (by kernel_rfl) ?_; try simp only [Act.put, sA, zA, cA])
   refine (HI.o j hlj _ (bl_trans HR.o.bel HNW.o)).mono ?_;rintro e w2 ⟨y, rfl, hy, hcp, hsm, hb2⟩;have HY := iH hy;have HCP := iH hcp;have HSM := iH hsm;have HRo := iH (HR.o.below (bl_trans HNW.o hb2));have hsz : wr.heap.size + 1 ≤ w2.heap.size := by have h := hb2.size; have := HVS.o; omega
   have HB2 := iH (bl_trans HNW.o hb2);replace HCP : Hd (Cp (wr.heap.size + 1) w2.heap.size y.fp) := (show _ by rw [← HVS.o]; exact HCP.o);clear hy hcp hsm hb2 hcx hl2 HNB HNW;have HOB := iH (HRo.o.below (bl_a (w := w2) (.cells y.d.ar 46)));have HOW := iH HOB.o.own;have HN : Hd (∀ j u, (y.d.cl : List Value)[j]? = some u → (w2.alloc (.cells y.d.ar 46)).cell? ((⟨w2.heap.size, 0, none⟩ : Addr).add j) = some u) := fun j u hu => World.news_of_block (Go.heap_alloc_new _ _) j u hu;have H1 := iH (show ∀ u ∈ (y.d.cl : List Value), u.oneCell' = true by intro u hu; simp only [List.mem_cons, List.not_mem_nil, or_false] at hu; rcases hu with rfl | rfl | rfl | rfl | rfl | rfl | rfl | rfl | rfl | rfl | rfl | rfl | rfl | rfl | rfl | rfl | rfl | rfl | rfl | rfl | rfl | rfl | rfl | rfl | rfl | rfl | rfl | rfl <;> rfl);have hBB := HOB.o.bel.size;obtain ⟨kn, hk1, hk2⟩ : ∃ kn : Nat → PT, (∀ i, i < j → kn i = k' i) ∧ kn j = y := ⟨fun i => if i = j then y else k' i, fun i hi => if_neg (by omega), if_pos rfl⟩;have HK1 := iH hk1;have HK2 := iH hk2;have HC1 := iH (fun i (hi : i < j) => (show (kn i).d.cells = _ by rw [HK1.o i hi]));have HC2 : Hd ((fun i => (kn i).d.cells) j = y.d.cl) := (show (kn j).d.cells = _ by rw [HK2.o]; rfl);clear hk1 hk2;go_wp2_with (with_reducible refine wpv_at ?_; refine app_stopC (.tmp 12) (.tmp 16) 44 rfl ?_)
   change wpList _ _ _ _ _ _;refine appC rfl (.tmp 12) (.tmp 16) 44 46 28 416 (.agg zNa) rfl Tryz.underlying44 infoPc28 rfl (by omega) (by omega) w.heap.size _ j (fun i => (k' i).d.cells) rfl HOW ⟨w2.heap.size, 0, none⟩ 1 y.d.cl rfl rfl HN H1 (by omega) hBB (fun i => (kn i).d.cells) HC1 HC2 ?_;intro g9 c9 w9 HO9 HA9 HG9 HD9;go_wp2;go_roundw
   case rel =>
    have hgr := HG9.o;have hst : ∀ L : List Nat, (∀ q ∈ L, q < w2.heap.size) → (∀ g, v.ownBlock = some g → g ∉ L) → Stay L w2 w9 := fun L h1 h2 => ⟨fun q hq => (hgr.block q (by have := h1 q hq; simp; omega) (fun e => h2 q e.symm hq)).trans ((bl_a (w := w2) (.cells y.d.ar 46)).block q (h1 q hq)), Nat.le_trans (bl_a (w := w2) (.cells y.d.ar 46)).size hgr.size⟩;refine ⟨j + 1, _, kn, by omega, rfl, by go_num, ?_, ?_, ?_⟩
    · refine RowO.add (w1 := wr) (m := wr.heap.size + 1) (w2 := w2) (v := v) (L := y.fp) (f := (fun i => (k' i).fp)) (C := (fun i => (k' i).d.cells)) HR.o (Nat.le_succ _) (HCP.o.mono (by simp) nR) hsz (HOB.o.bel.trans HD9.o) HO9.o (HA9.o.imp id fun e => by rw [e]; simp) (Nat.le_trans (bl_a (w := w2) (.cells y.d.ar 46)).size hgr.size) (fun i hi => ?_) ?_
      · show (kn i).fp = _
        rw [HK1.o i hi]
      show (kn j).fp = _;rw [HK2.o]
    · intro i hi
      show (kn i).ow w.heap.size w9;by_cases e : i = j
      · rw [e, HK2.o]
        refine PT.ow.keep (w := w2) (HY.o.base (Nat.le_trans HR.o.bel.size (by have := HVS.o; omega))) (hst _ (fun q hq => (HCP.o.i q hq).2) fun g hg hm => ?_)
        have z1 := (HCP.o.i g hm).1;have z2 := (HR.o.own.blk g hg).2;omega
      rw [HK1.o i (by omega)];have hm : ∀ q, q ∈ (k' i).fp → q ∈ catB (fun i => (k' i).fp) j := fun q hq => catB_mem (f := (fun i => (k' i).fp)) (by omega) hq;exact (PT.ow.keep (w := w2) ((HO.o i (by omega)).upper (uB HB2.o)) (hst _ (fun q hq => Nat.lt_of_lt_of_le (HR.o.cp.i q (hm q hq)).2 (Nat.le_trans (Nat.le_succ _) hsz)) fun g hg hq => HR.o.o g hg (hm g hq)))
    intro i hi;show (kid i).same (kn i);by_cases e : i = j
    · rw [e, HK2.o]
      exact HSM.o
    rw [HK1.o i (by omega)];exact HS.o i (by omega)
   case measure => simp [intOf]; omega
 obtain rfl : j = n := by omega
 go_wp2_with fail
 obtain ⟨a', c', rfl, hcc, hK, hZ, hCp⟩ := HR.o.fin;go_ret;exact ⟨a', c', k', rfl, hcc, hK, hZ, HO.o, HS.o, hCp, HR.o.bel⟩
structure KRP (n B : Nat) (w : World) (y : KR PT) : Prop where
 le : n ≤ y.c
 row : KRow B w 28 y.a n (fun i => (y.k i).d.cells)
 z : RoZ B w y.a n 28
 o : ∀ i, i < n → (y.k i).ow B w
theorem KRP.upper {y : KR PT} (h : KRP n B w y) (hu : Upper B w w') : KRP n B w' y := ⟨h.le, h.row.upper hu, h.z.upper hu, fun i hi => (h.o i hi).upper hu⟩
theorem KRP.base {y : KR PT} (h : KRP n B w y) (hB : B' ≤ B) : KRP n B' w y := ⟨h.le, h.row.base hB, h.z.base hB, fun i hi => (h.o i hi).base hB⟩
theorem planCopied (e : PT) : ∀ (w : World), e.lies 0 w → Calls Tryz.prog 39 #[.agg e.d.ar] w fun r w' => ∃ y : PT, r = .returned (.agg y.d.ar) ∧ y.ow w.heap.size w' ∧ Cp w.heap.size w'.heap.size y.fp ∧ e.same y ∧ Bl w w' := by
 induction e with
 | nil => exact fun _ h => False.elim h
 | mk d kid ih =>
  intro w h;show Calls Tryz.prog 39 #[.agg d.ar] w fun r w' => ∃ y : PT, r = .returned (.agg y.d.ar) ∧ y.ow w.heap.size w' ∧ Cp w.heap.size w'.heap.size y.fp ∧ (PT.mk d kid).same y ∧ Bl w w';obtain ⟨hp, he, hv, ht, htn, hn, hR, hk⟩ := h;have HX := iH ((Box.new w d.ar 46 (0, 0)).below (bl_a (.cells zNa 46)));have HO := iH (show OB _ _ _ by have h := OB.new (w.alloc (.cells d.ar 46)) zNa 46; simpa using h);have HB : Hd (Bl w ((w.alloc (.cells d.ar 46)).alloc (.cells zNa 46))) := bl_alloc (bl_a _) _;have HC0 := iH (fun W (hb : Bl w W) => patCopied d.p W (hp.upper (uB hb)));have HC1 := iH (fun W (hb : Bl w W) => exprCopied d.e W (ET.lies.upper (uB hb) he));have HC2 := iH (fun W (hb : Bl w W) => clone_own d.v W (hv.upper (uB hb)));have HC3 := iH (fun W (hb : Bl w W) => termsCopied d.ta d.tc d.tb W htn (ht.upper (uB hb)));have HC4 : Hd (∀ W, Bl w W → Cl 94 #[.slice d.ka d.n d.kc] W fun r w' => ∃ y : KR PT, r = .returned (.slice y.a d.n y.c) ∧ KRP d.n W.heap.size w' y ∧ Cp W.heap.size w'.heap.size (rfp y.a d.n ++ catB (fun i => (y.k i).fp) d.n) ∧ (∀ i, i < d.n → (kid i).same (y.k i)) ∧ Bl W w') := fun W hb => (copiesP _ _ d.n kid W hn (hR.upper (uB hb)) (fun i hi W' hW => ih i W' (PT.lies.upper (uB (bl_trans hb hW)) (hk i hi)))).mono fun r w' ⟨a', c', k', h1, h2, h3, h4, h5, h6, h7, h8⟩ => ⟨⟨a', c', k'⟩, h1, ⟨h2, h3, h4, h5⟩, h7, h6, h8⟩;have HN := iH hn;have HTN := iH htn;clear hp he hv ht htn hn hR hk ih;go_in;go_upto_region 1 with fail
  generalize ((w.alloc _).alloc _) = W1 at *;have HG := iH HO.o.1;go_wp2_with fail
  refine wqd (fun w' => Bl w w' ∧ Box w' w.heap.size d.cl) ?_ fun hHeld => ?_
  · exact ⟨Below.drew HB.o, HX.o.below bdr⟩
  refine tqB 0 3 ?_;refine tqB 1 4 (v := .int .i64 d.k) (hy := by intro w' hSw; have c0 := hSw.2.2 0 _ rfl; go_simp; (try with_reducible rfl)) ?_;refine tqB 2 5 ?_;refine tqB 3 6 (v := .int .i64 d.ord) (hy := by intro w' hSw; have c0 := hSw.2.2 1 _ rfl; go_simp; (try with_reducible rfl)) ?_;refine tqB 4 7 ?_;refine ldq 5 8 Tryz.underlying39 (fun w' h => h.2.range 2 d.p.cl rfl) ?_;refine tqB 7 10 ?_;refine ldq 8 11 Tryz.underlying42 (fun w' h => h.2.range 17 d.e.d.cl rfl) ?_;refine tqB 10 13 ?_;refine tqB 11 14 (v := .slice d.v.a d.v.len d.v.cap) (hy := by intro w' hSw; have c0 := hSw.2.2 25 _ rfl; go_simp; (try with_reducible rfl)) ?_;refine tqB 13 16 ?_;refine tqB 14 17 (v := .slice d.ta d.tb.length d.tc) (hy := by intro w' hSw; have c0 := hSw.2.2 26 _ rfl; go_simp; (try with_reducible rfl)) ?_;refine tqB 16 19 ?_;refine tqB 17 20 (v := .slice d.ka d.n d.kc) (hy := by intro w' hSw; have c0 := hSw.2.2 27 _ rfl; go_simp; (try with_reducible rfl)) ?_;refine rqA 6 fun K hK => ?_;go_simp;refine (HC0.o _ hHeld.1).mono ?_;rintro r w2 ⟨y1, rfl, hy, hc, he, hb2⟩;replace HB := iH (bl_trans (Below.drew HB.o) hb2);replace HX := iH ((HX.o.below bdr).below hb2);replace HO := iH ((HO.o.below bdr).below hb2);replace HZ := iH (show W1.heap.size ≤ _ from hb2.size);have HC : Hd (Cp W1.heap.size w2.heap.size (y1.fp)) := hc;have HY1 : Hd (y1.own W1.heap.size w2) := hy;have HE1 := iH he;clear hy hc he hb2 hHeld;go_wp2_with fail
  refine rhK hK ⟨HB.o, HX.o⟩ fun hHeld => ?_;clear hK K;refine rqA 9 fun K hK => ?_;go_simp;refine (HC1.o _ hHeld.1).mono ?_;rintro r w3 ⟨y2, rfl, hy, hc, he, hb2⟩;replace HB := iH (bl_trans HB.o hb2);replace HX := iH (HX.o.below hb2);replace HO := iH (HO.o.below hb2);have HZn := iH (Nat.le_trans HZ.o hb2.size);replace HC := iH (HC.o.app hc HZ.o hb2.size);replace HY1 := iH (HY1.o.upper (uB hb2));have HY2 := iH (hy.base HZ.o);have HE2 := iH he;clear hy hc he hb2 hHeld HZ;have HZ := HZn;clear HZn;go_wp2_with fail
  refine rhK hK ⟨HB.o, HX.o⟩ fun hHeld => ?_;clear hK K;refine rqA 12 fun K hK => ?_;go_simp;refine (HC2.o _ hHeld.1).mono ?_;rintro r w4 ⟨y3, rfl, hy, hc, he, hb2⟩;replace HB := iH (bl_trans HB.o hb2);replace HX := iH (HX.o.below hb2);replace HO := iH (HO.o.below hb2);have HZn := iH (Nat.le_trans HZ.o hb2.size);replace HC := iH (HC.o.app hc HZ.o hb2.size);replace HY1 := iH (HY1.o.upper (uB hb2));replace HY2 := iH (HY2.o.upper (uB hb2));have HY3 := iH (hy.base HZ.o);have HE3 := iH he;clear hy hc he hb2 hHeld HZ;have HZ := HZn;clear HZn;go_wp2_with fail
  refine rhK hK ⟨HB.o, HX.o⟩ fun hHeld => ?_;clear hK K;refine rqA 15 fun K hK => ?_;go_simp;refine (HC3.o _ hHeld.1).mono ?_;rintro r w5 ⟨y4, rfl, hy, hc, he, hb2⟩;replace HB := iH (bl_trans HB.o hb2);replace HX := iH (HX.o.below hb2);replace HO := iH (HO.o.below hb2);have HZn := iH (Nat.le_trans HZ.o hb2.size);replace HC := iH (HC.o.app hc HZ.o hb2.size);replace HY1 := iH (HY1.o.upper (uB hb2));replace HY2 := iH (HY2.o.upper (uB hb2));replace HY3 := iH (HY3.o.upper (uB hb2));have HY4 := iH (hy.base HZ.o);have HE4 := iH he;clear hy hc he hb2 hHeld HZ;have HZ := HZn;clear HZn;go_wp2_with fail
  refine rhK hK ⟨HB.o, HX.o⟩ fun hHeld => ?_;clear hK K;refine rqA 18 fun K hK => ?_;go_simp;refine (HC4.o _ hHeld.1).mono ?_;rintro r w6 ⟨y5, rfl, hy, hc, he, hb2⟩;replace HB := iH (bl_trans HB.o hb2);replace HX := iH (HX.o.below hb2);replace HO := iH (HO.o.below hb2);have HZn := iH (Nat.le_trans HZ.o hb2.size);replace HC := iH (HC.o.app hc HZ.o hb2.size);replace HY1 := iH (HY1.o.upper (uB hb2));replace HY2 := iH (HY2.o.upper (uB hb2));replace HY3 := iH (HY3.o.upper (uB hb2));replace HY4 := iH (HY4.o.upper (uB hb2));have HY5 := iH (hy.base HZ.o);have HE5 := iH he;clear hy hc he hb2 hHeld HZ;have HZ := HZn;clear HZn;go_wp2_with fail
  refine rhK hK ⟨HB.o, HX.o⟩ fun hHeld => ?_;clear hK K;refine tqB 19 22 (v := .agg (wA d.k d.ord y1 y2.d y3 (.slice y4.a y4.l.length y4.c) (.slice y5.a d.n y5.c))) ?_;have st := HO.o.there 0 28 (by simp);have on := all_oneCell_toArray (cs := (wL d.k d.ord y1 y2.d y3 (.slice y4.a y4.l.length y4.c) (.slice y5.a d.n y5.c))) (by simp [Value.oneCell']);have hrd : (w6.setCells (w.heap.size + 1) 0 (wL d.k d.ord y1 y2.d y3 (.slice y4.a y4.l.length y4.c) (.slice y5.a d.n y5.c))).rangeAt (w.heap.size + 1) 0 (wL d.k d.ord y1 y2.d y3 (.slice y4.a y4.l.length y4.c) (.slice y5.a d.n y5.c)) := World.rangeAt_setCells_same _ _ _ _ st;have hbf := iH (below_sets (w0 := w) (w.heap.size + 1) (by omega) (wL d.k d.ord y1 y2.d y3 (.slice y4.a y4.l.length y4.c) (.slice y5.a d.n y5.c)) 0 w6 HB.o);have hxf := iH (HX.o.upper (but_sets (w.heap.size + 1) (wL d.k d.ord y1 y2.d y3 (.slice y4.a y4.l.length y4.c) (.slice y5.a d.n y5.c)) 0 w6) (by omega));have hsf := iH ((but_sets (w.heap.size + 1) (wL d.k d.ord y1 y2.d y3 (.slice y4.a y4.l.length y4.c) (.slice y5.a d.n y5.c)) 0 w6).size);have HY1f := iH ((HY1.o.upper ((upper_sets (w.heap.size + 1) (wL d.k d.ord y1 y2.d y3 (.slice y4.a y4.l.length y4.c) (.slice y5.a d.n y5.c)) 0 w6).mono HG.o)).base (by have := HG.o; omega : w.heap.size ≤ W1.heap.size));have HY2f := iH ((HY2.o.upper ((upper_sets (w.heap.size + 1) (wL d.k d.ord y1 y2.d y3 (.slice y4.a y4.l.length y4.c) (.slice y5.a d.n y5.c)) 0 w6).mono HG.o)).base (by have := HG.o; omega : w.heap.size ≤ W1.heap.size));have HY3f := iH ((HY3.o.upper ((upper_sets (w.heap.size + 1) (wL d.k d.ord y1 y2.d y3 (.slice y4.a y4.l.length y4.c) (.slice y5.a d.n y5.c)) 0 w6).mono HG.o)).base (by have := HG.o; omega : w.heap.size ≤ W1.heap.size));have HY4f := iH ((HY4.o.upper ((upper_sets (w.heap.size + 1) (wL d.k d.ord y1 y2.d y3 (.slice y4.a y4.l.length y4.c) (.slice y5.a d.n y5.c)) 0 w6).mono HG.o)).base (by have := HG.o; omega : w.heap.size ≤ W1.heap.size));have HY5f := iH ((HY5.o.upper ((upper_sets (w.heap.size + 1) (wL d.k d.ord y1 y2.d y3 (.slice y4.a y4.l.length y4.c) (.slice y5.a d.n y5.c)) 0 w6).mono HG.o)).base (by have := HG.o; omega : w.heap.size ≤ W1.heap.size));refine rqA 20 fun K hK => ?_;refine step_storeV 46 (w.heap.size + 1) 0 (wA d.k d.ord y1 y2.d y3 (.slice y4.a y4.l.length y4.c) (.slice y5.a d.n y5.c)) st on ?_;refine hK.out _ _ ?_ fun hHeld => ?_
  · exact ⟨hbf.o, hxf.o⟩
  clear hK K st on hHeld;try simp only [Act.put]
  generalize w6.setCells _ _ _ = W5 at *;refine wpAnyH_done (by kernel_rfl) ?_ _;go_wp2;try simp only [Exit.inBlock, Exit.then]
  refine bodyPost_ret (v := .agg (wA d.k d.ord y1 y2.d y3 (.slice y4.a y4.l.length y4.c) (.slice y5.a d.n y5.c))) ?hr rfl ?hp
  case hr => exact results_cell rfl rfl (run_loadVar_mid (P := Tryz.prog) _ (w.heap.size + 1) 0 46 (wL d.k d.ord y1 y2.d y3 (.slice y4.a y4.l.length y4.c) (.slice y5.a d.n y5.c)) _ hrd Tryz.underlying46 rfl (by kernel_rfl))
  have HCf : Cp w.heap.size W5.heap.size (y1.fp ++ y2.fp ++ y3.fp ++ tfp y4.a y4.l ++ (rfp y5.a d.n ++ catB (fun i => (y5.k i).fp) d.n)) := HC.o.mono (by have := HG.o; omega) (by rw [hsf.o]; exact nR);have hl4 : y4.l.length ≤ 1048576 := by have h := congrArg List.length HE4.o; rw [List.length_map, List.length_map] at h; have := HTN.o; omega
  exact ⟨PT.mk ⟨d.k, d.ord, y1, y2, y3, y4.a, y4.c, y4.l, y5.a, y5.c, d.n⟩ y5.k, rfl, ⟨⟨HY1f.o.lies, HY2f.o.l, HY3f.o.1, HY4f.o.row, hl4, HN.o, HY5f.o.row, fun i hi => (HY5f.o.o i hi).l⟩, ⟨HY1f.o, HY2f.o.z, HY3f.o.2, ⟨HY4f.o.z, HY4f.o.t⟩, HY5f.o.z, fun i hi => (HY5f.o.o i hi).z⟩⟩, HCf, ⟨rfl, rfl, HE1.o, HE2.o, HE3.o.symm, HE4.o, rfl, HE5.o⟩, hbf.o⟩
theorem lF_cnt (b q g o : Nat) (d : PN) (M : List MC) : cnt (b, q) (lF g o d M) ≤ uno (b = g ∧ o ≤ q ∧ q < o + 28) + (cnt (b, q) (txC d.p.s.v.a d.p.s.v.len) + cnt (b, q) (txC d.p.s.t.t.a d.p.s.t.t.len) + cnt (b, q) (txC d.p.p.v.a d.p.p.v.len) + cnt (b, q) (txC d.p.p.t.t.a d.p.p.t.t.len) + cnt (b, q) (txC d.p.o.v.a d.p.o.v.len) + cnt (b, q) (txC d.p.o.t.t.a d.p.o.t.t.len) + cnt (b, q) (txC d.e.d.v.a d.e.d.v.len) + cnt (b, q) (txC d.e.d.t.t.a d.e.d.t.t.len) + cnt (b, q) (d.e.ms) + cnt (b, q) (txC d.v.a d.v.len) + cnt (b, q) (termM d.ta d.tb) + cnt (b, q) (M)) := by
 have h := cnt_ns b q g o 28 [0, 1, 3, 5, 6, 8, 10, 11, 13, 15, 16, 17, 18, 20, 22, 23] (by decide) (by decide);simp only [cnt_ns1, cnt_ns0, Nat.add_zero] at h;have e : cnt (b, q) (lF g o d M) = (cnt (b, q) [(g, o, false)] + (cnt (b, q) [(g, o + 1, false)] + (cnt (b, q) [(g, o + 3, false)] + (cnt (b, q) [(g, o + 5, false)] + (cnt (b, q) [(g, o + 6, false)] + (cnt (b, q) [(g, o + 8, false)] + (cnt (b, q) [(g, o + 10, false)] + (cnt (b, q) [(g, o + 11, false)] + (cnt (b, q) [(g, o + 13, false)] + (cnt (b, q) [(g, o + 15, false)] + (cnt (b, q) [(g, o + 16, false)] + (cnt (b, q) [(g, o + 17, false)] + (cnt (b, q) [(g, o + 18, false)] + (cnt (b, q) [(g, o + 20, false)] + (cnt (b, q) [(g, o + 22, false)] + (cnt (b, q) [(g, o + 23, false)])))))))))))))))) + (cnt (b, q) (txC d.p.s.v.a d.p.s.v.len) + cnt (b, q) (txC d.p.s.t.t.a d.p.s.t.t.len) + cnt (b, q) (txC d.p.p.v.a d.p.p.v.len) + cnt (b, q) (txC d.p.p.t.t.a d.p.p.t.t.len) + cnt (b, q) (txC d.p.o.v.a d.p.o.v.len) + cnt (b, q) (txC d.p.o.t.t.a d.p.o.t.t.len) + cnt (b, q) (txC d.e.d.v.a d.e.d.v.len) + cnt (b, q) (txC d.e.d.t.t.a d.e.d.t.t.len) + cnt (b, q) (d.e.ms) + cnt (b, q) (txC d.v.a d.v.len) + cnt (b, q) (termM d.ta d.tb) + cnt (b, q) (M)) := by
  unfold lF;simp only [cnt_app];ac_rfl
 rw [e];exact Nat.add_le_add_right h _
theorem PB.cnt_le (x : PB) (b q : Nat) : cnt (b, q) (txC x.s.v.a x.s.v.len) + cnt (b, q) (txC x.s.t.t.a x.s.t.t.len) + cnt (b, q) (txC x.p.v.a x.p.v.len) + cnt (b, q) (txC x.p.t.t.a x.p.t.t.len) + cnt (b, q) (txC x.o.v.a x.o.v.len) + cnt (b, q) (txC x.o.t.t.a x.o.t.t.len) ≤ x.fp.count b := by
 unfold PB.fp;rw [List.count_append, List.count_append];have h1 := x.s.cnt_le b q;have h2 := x.p.cnt_le b q;have h3 := x.o.cnt_le b q;omega
theorem PT.cnt_le (e : PT) (b q : Nat) : cnt (b, q) e.tms ≤ e.fp.count b := by
 induction e with
 | nil => exact nZ
 | mk d kid ih =>
  have h5 : cnt (b, q) (catM (fun i => lF (blk d.ka) (i * 28) (kid i).d (kid i).ms) d.n) ≤ (rfp d.ka d.n ++ catB (fun i => (kid i).fp) d.n).count b := by
   refine row_le (sz := 28) (F := fun i => (kid i).fp) fun i _ => Nat.le_trans (lF_cnt b q (blk d.ka) (i * 28) (kid i).d (kid i).ms) (Nat.add_le_add_left ?_ _);have h := ih i;unfold PT.tms at h;simp only [cnt_app] at h;omega
  unfold PT.tms;show cnt (b, q) (((txC d.p.s.v.a d.p.s.v.len ++ txC d.p.s.t.t.a d.p.s.t.t.len) ++ (txC d.p.p.v.a d.p.p.v.len ++ txC d.p.p.t.t.a d.p.p.t.t.len) ++ (txC d.p.o.v.a d.p.o.v.len ++ txC d.p.o.t.t.a d.p.o.t.t.len)) ++ (txC d.e.d.v.a d.e.d.v.len ++ txC d.e.d.t.t.a d.e.d.t.t.len ++ d.e.ms) ++ txC d.v.a d.v.len ++ termM d.ta d.tb ++ catM (fun i => lF (blk d.ka) (i * 28) (kid i).d (kid i).ms) d.n) ≤ (d.p.fp ++ d.e.fp ++ d.v.fp ++ tfp d.ta d.tb ++ (rfp d.ka d.n ++ catB (fun i => (kid i).fp) d.n)).count b;have h1 := d.p.cnt_le b q;have h2 := d.e.cnt_le b q;have h3 := d.v.cnt_le b q;have h4 := termM_cnt b q d.ta d.tb;rw [cnt_app, cnt_app, cnt_app, cnt_app, List.count_append, List.count_append, List.count_append, List.count_append];generalize cnt (b, q) (catM (fun i => lF (blk d.ka) (i * 28) (kid i).d (kid i).ms) d.n) = x5 at *;generalize (rfp d.ka d.n ++ catB (fun i => (kid i).fp) d.n).count b = y5 at *;simp only [cnt_app];omega
theorem PT.once (h : e.fp.Nodup) : (psM e.tms).Nodup := List.nodup_iff_count.2 fun ⟨b, q⟩ => Nat.le_trans (e.cnt_le b q) (List.nodup_iff_count.1 h b)
theorem PT.within {c : MC} (h : c ∈ e.tms) : c.1 ∈ e.fp := by
 have h1 : 0 < cnt (c.1, c.2.1) e.tms := List.count_pos_iff.2 (List.mem_map.2 ⟨c, h, rfl⟩);exact List.count_pos_iff.1 (Nat.lt_of_lt_of_le h1 (e.cnt_le c.1 c.2.1))
theorem PT.held {C : Nat} {a b : Int} (h : Mkd B C w w' e.tms a b) (hf : e.fp.Nodup) : Hl w' e.tms a := h.held (PT.once hf)
theorem lm_ow {o : Nat} (h : e.ow B w) (hb : Bl w w') (hB : B ≤ g) (hC : g < w.heap.size) (cc : ∀ c u, (e.d.cells)[c]? = some u → w'.cell? ⟨g, o + c, none⟩ = some u) (ff : ∀ c, c < 28 → w'.frozen? ⟨g, o + c, none⟩ = false) : LM2 B w.heap.size w' g o e.d := by
 obtain ⟨hl, hw⟩ := h;cases e with
 | nil => exact False.elim hl
 | mk d kid =>
  obtain ⟨lp, le, lv, lt, _, _, _, _⟩ := hl;obtain ⟨⟨o1, o2, o3⟩, we, wv, wt, _, _⟩ := hw;obtain ⟨⟨e1, e2⟩, e3, e4⟩ := et_oz ⟨le, we⟩;have nn : ∀ q k, d.cells[q]? = some (.int .i64 k) → q < 28 → WN w' g (o + q) := fun q k hq hl => ⟨⟨_, cc q _ hq⟩, ff q hl⟩;exact ⟨hB, hC, nn 0 _ rfl (by omega), nn 1 _ rfl (by omega), nn 3 _ rfl (by omega), nn 5 _ rfl (by omega), nn 6 _ rfl (by omega), nn 8 _ rfl (by omega), nn 10 _ rfl (by omega), nn 11 _ rfl (by omega), nn 13 _ rfl (by omega), nn 15 _ rfl (by omega), nn 16 _ rfl (by omega), nn 17 _ rfl (by omega), nn 18 _ rfl (by omega), nn 20 _ rfl (by omega), nn 22 _ rfl (by omega), nn 23 _ rfl (by omega),
   cc 2 _ rfl, sl_m o1.1.1 o1.2.1 hb, cc 4 _ rfl, sl_m (x := d.p.s.t.sl) o1.1.2.1 o1.2.2 hb, cc 7 _ rfl, sl_m o2.1.1 o2.2.1 hb, cc 9 _ rfl, sl_m (x := d.p.p.t.sl) o2.1.2.1 o2.2.2 hb, cc 12 _ rfl, sl_m o3.1.1 o3.2.1 hb, cc 14 _ rfl, sl_m (x := d.p.o.t.sl) o3.1.2.1 o3.2.2 hb,
   cc 19 _ rfl, sl_m e1 e2 hb, cc 21 _ rfl, sl_m (x := d.e.d.t.sl) e3 e4 hb, cc 25 _ rfl, sl_m lv wv hb, cc 24 _ rfl, cc 26 _ rfl, cc 27 _ rfl, km_oz hb d.e ⟨le, we⟩, tx_oz lt wt.1 wt.2 hb⟩
theorem qm_ow (hb : Bl w w') (e : PT) (h : e.ow B w) : QM2 B w.heap.size w' e := by
 induction e with
 | nil => exact False.elim h.l
 | mk d kid ih =>
  obtain ⟨hl, hw⟩ := h;by_cases h0 : d.n = 0
  · exact .inl h0
  obtain ⟨g, ha, hB, hC, cc, ff⟩ := row_oz hl.2.2.2.2.2.2.1 hw.2.2.2.2.1 hb h0 (by omega);exact .inr ⟨g, ha, fun i hi => ⟨lm_ow ⟨hl.2.2.2.2.2.2.2 i hi, hw.2.2.2.2.2 i hi⟩ hb hB hC (cc i hi) (ff i hi), ih i ⟨hl.2.2.2.2.2.2.2 i hi, hw.2.2.2.2.2 i hi⟩⟩⟩
theorem PT.ow.marks (h : e.ow B w) (hb : Bl w w') (hw : e.wt ≤ 34359738368) : PMk B w.heap.size w' e := by
 have ht := e.tl_le;unfold PT.tl at ht;have hk := qm_ow hb e h;obtain ⟨hl, hz⟩ := h;cases e with
 | nil => exact False.elim hl
 | mk d kid =>
  obtain ⟨lp, le, lv, lt, _, _, _, _⟩ := hl;obtain ⟨⟨o1, o2, o3⟩, we, wv, wt, _, _⟩ := hz;obtain ⟨⟨e1, e2⟩, e3, e4⟩ := et_oz ⟨le, we⟩;exact ⟨⟨sl_m o1.1.1 o1.2.1 hb, sl_m (x := d.p.s.t.sl) o1.1.2.1 o1.2.2 hb⟩, ⟨sl_m o2.1.1 o2.2.1 hb, sl_m (x := d.p.p.t.sl) o2.1.2.1 o2.2.2 hb⟩, ⟨sl_m o3.1.1 o3.2.1 hb, sl_m (x := d.p.o.t.sl) o3.1.2.1 o3.2.2 hb⟩, ⟨sl_m e1 e2 hb, sl_m (x := d.e.d.t.sl) e3 e4 hb, km_oz hb d.e ⟨le, we⟩, (by show (d.e.ms.length : Int) ≤ _; change _ + (_ + _ + d.e.ms.length) + _ + _ + _ ≤ _ at ht; omega)⟩, sl_m lv wv hb, tx_oz lt wt.1 wt.2 hb, hk, by omega, by omega⟩
theorem Tryz.info3 : (Tryz.prog.info? 3).map (fun i => (i.zero, i.size, i.bytes)) = some (some (.int .i64 0), 1, 8) := by kernel_rfl
theorem run_make_ints (n : Nat) (hn : n ≤ 1048576) (w : World) :
 (Instr.makeSlice 33 (.int .i64 (n : Int)) (.int .i64 (n : Int))).run Tryz.prog w = .ok (.slice (some ⟨w.heap.size, 0, none⟩) n n) (w.alloc (.cells (madeCells #[.int .i64 0] (n * 1)) 3)) := by
 obtain ⟨i, hi, hzz⟩ := Option.map_eq_some_iff.1 Tryz.info3;simp only [Prod.mk.injEq] at hzz;obtain ⟨hz, hs, hb⟩ := hzz;have hr := run_make (P := Tryz.prog) w 33 3 i _ Tryz.underlying33 hi hz .i64 .i64 n n (by omega) (Int.le_refl _) (by rw [hb]; omega) (by omega);simp only [Int.toNat_natCast, hs, Value.cells] at hr;exact hr
theorem below_regrownN (d : Nat) (os : Array Obj) : Bl w (Go.Sort.grow (redrawn w d) os) := below_regrown w d os
theorem made_ints (w : World) (n j : Nat) (hj : j < n) : (w.alloc (.cells (madeCells #[.int .i64 0] (n * 1)) 3)).cell? ⟨w.heap.size, j, none⟩ = some (.int .i64 0) := by
 have e : (madeCells #[Value.int .i64 0] (n * 1))[j]? = some (.int .i64 0) := by simp [madeCells, hj, Nat.mod_one]
 rw [Nat.mul_one] at e ⊢;simp [go_sem, e]
def Ints (w : World) (b off : Nat) (xs : List Int) : Prop := ∀ i, i < xs.length → w.cell? ⟨b, off + i, none⟩ = some (.int .i64 (xs[i]?.getD 0))
structure KO (w : World) (g : Nat) (ks : List Int) : Prop where
 lt : g < w.heap.size
 at_ : ∀ i, i < ks.length → w.cell? ⟨g, i, none⟩ = some (.int .i64 (ks[i]?.getD 0))
 fr : ∀ i, i < ks.length → w.frozen? ⟨g, i, none⟩ = false
theorem KO.below (h : KO w g ks) (hb : Bl w w') : KO w' g ks :=
 ⟨Nat.lt_of_lt_of_le h.lt hb.size, fun i hi => (hb.cell (p := ⟨g, i, none⟩) h.lt).trans (h.at_ i hi), fun i hi => (hb.frozen (p := ⟨g, i, none⟩) h.lt).trans (h.fr i hi)⟩
def KIn (w : World) (a : Option Addr) (ks : List Int) : Prop := ks.length = 0 ∨ ∃ b off, a = some ⟨b, off, none⟩ ∧ b < w.heap.size ∧ Ints w b off ks
theorem KIn.below (h : KIn w a ks) (hb : Bl w w') : KIn w' a ks := by
 rcases h with h | ⟨b, off, e, hl, hc⟩
 · exact .inl h
 exact .inr ⟨b, off, e, Nat.lt_of_lt_of_le hl hb.size, fun j hj => (hb.cell (p := ⟨b, off + j, none⟩) hl).trans (hc j hj)⟩
theorem KO.kin (h : KO w g ks) : KIn w (some ⟨g, 0, none⟩) ks := .inr ⟨g, 0, rfl, h.lt, fun j hj => by rw [Nat.zero_add]; exact h.at_ j hj⟩
theorem toIntS_any (a : Option Addr) (cap : Nat) (ks : List Int) (w : World) (hn : ks.length ≤ 1048576) (hI : KIn w a ks) :
 Calls Tryz.prog 8 #[.slice a ks.length cap] w fun e w' => e = .returned (.slice (some ⟨w.heap.size, 0, none⟩) ks.length ks.length) ∧ KO w' w.heap.size ks ∧ Bl w w' := by
 obtain ⟨n, hnn⟩ : ∃ n, n = ks.length := ⟨_, rfl⟩;have HN := iH hnn;rw [← hnn] at hn ⊢;have hmk := run_make_ints n hn;by_cases hn0 : n = 0
 · subst hn0
   have hmk0 := fun w => by simpa using hmk w
   clear hmk hI hnn hn;go_in;go_wp2;refine wl1 ?_;go_wp2;go_ret;exact ⟨rfl, ⟨by simp, fun i hi => by rw [← HN.o] at hi; omega, fun i hi => by rw [← HN.o] at hi; omega⟩, bl_a _⟩
 obtain ⟨b, off, rfl, hlt, hc⟩ := hI.resolve_left (by omega);have HC := iH hc;have HMD := iH (fun j (hj : j < n) => made_ints w n j hj);have HMF : Hd (∀ j, (w.alloc (.cells (madeCells #[.int .i64 0] (n * 1)) 3)).frozen? ⟨w.heap.size, j, none⟩ = false) := fun j => by simp [go_sem]
 clear hI hc hnn;go_in;go_wp2;go_loopw [4] (fun i wr => ∃ (k : Nat), k ≤ n ∧ i = .int .i64 k ∧ Hd (∀ j, j < k → wr.cell? ⟨w.heap.size, j, none⟩ = some (.int .i64 (ks[j]?.getD 0))) ∧ Hd (∀ j, j < n → N64 wr w.heap.size j) ∧ Hd (∀ j, j < n → wr.frozen? ⟨w.heap.size, j, none⟩ = false) ∧ Hd (w.heap.size < wr.heap.size) ∧ Hd (Bl w wr))
  (fun i _ => n - (intOf i).toNat)
 case atStart => exact ⟨0, nZ, rfl, fun j hj => absurd hj nN, fun j hj => ⟨_, by have := HMD.o j hj; rw [Nat.mul_one] at this; exact this⟩, fun j _ => by have := HMF.o j; rw [Nat.mul_one] at this; exact this, (show w.heap.size < _ by simp), bl_a _⟩
 obtain ⟨k, hk, rfl, HA, HE, HF, HL, HB⟩ := hrel;by_cases hlk : k < n
 · have hlkz : (k : Int) < (n : Int) := by omega
   have x0 := (HB.o.cell (p := ⟨b, off + k, none⟩) hlt).trans (HC.o k (by rw [← HN.o]; exact hlk));obtain ⟨v, hv⟩ := HE.o k hlk;have f0 := HF.o k hlk;clear hmk;go_wp2;go_roundw
   case rel =>
    refine ⟨k + 1, by omega, by go_num, fun j hj => ?_, fun j hj => ?_, fun j hj => by rw [World.frozen?_setCell]; exact HF.o j hj, (show w.heap.size < _ by simp; exact HL.o), HB.o.setCell (p := ⟨w.heap.size, k, none⟩) nR _⟩
    · by_cases e : j = k
      · subst e
        exact set_same hv
      rw [set_other (by omega)];exact HA.o j (by omega)
    by_cases e : j = k
    · subst e
      exact ⟨_, set_same hv⟩
    unfold N64;rw [set_other (by omega)];exact HE.o j hj
   case measure => simp [intOf]; omega
 obtain rfl : k = n := by omega
 have hlkz : ¬ (k : Int) < (k : Int) := by omega
 clear hmk;go_wp2;go_ret;exact ⟨rfl, ⟨HL.o, fun i hi => HA.o i (by rw [HN.o]; exact hi), fun i hi => HF.o i (by rw [HN.o]; exact hi)⟩, HB.o⟩
theorem eqIntS_same (a a' : Option Addr) (cap cap' : Nat) (ks : List Int) (w : World) (hn : ks.length ≤ 1048576) (h : KIn w a ks) (h' : KIn w a' ks) :
 Calls Tryz.prog 12 #[.slice a ks.length cap, .slice a' ks.length cap'] w fun e w' => e = .returned (.bool true) ∧ Bl w w' := by
 obtain ⟨n, hnn⟩ : ∃ n, n = ks.length := ⟨_, rfl⟩;have HN := iH hnn;rw [← hnn] at hn ⊢;by_cases hn0 : n = 0
 · subst hn0
   clear h h' hnn hn HN;go_in;go_wp2;refine wl1 ?_;go_wp2;go_ret;exact ⟨rfl, Below.refl _ _⟩
 obtain ⟨b, off, rfl, hlt, hc⟩ := h.resolve_left (by omega);obtain ⟨b', off', rfl, hlt', hc'⟩ := h'.resolve_left (by omega);have HC := iH hc;have HC' : Hd (Ints w b' off' ks) := hc';clear h h' hc hc' hnn;go_in;go_wp2;go_loopw [5] (fun i wr => ∃ (k : Nat), k ≤ n ∧ i = .int .i64 k ∧ Hd (Bl w wr)) (fun i _ => n - (intOf i).toNat)
 case atStart => exact ⟨0, nZ, rfl, Below.refl _ _⟩
 obtain ⟨k, hk, rfl, HB⟩ := hrel;by_cases hlk : k < n
 · have hlkz : (k : Int) < (n : Int) := by omega
   have x0 := fun d os => ((bl_trans HB.o (below_regrownN (w := wr) d os)).cell (p := ⟨b, off + k, none⟩) hlt).trans (HC.o k (by rw [← HN.o]; exact hlk));have x1 := fun d os => ((bl_trans HB.o (below_regrownN (w := wr) d os)).cell (p := ⟨b', off' + k, none⟩) hlt').trans (HC'.o k (by rw [← HN.o]; exact hlk));generalize ks[k]?.getD 0 = z at x0 x1;go_wp2_with fail
   refine wp_region_quiet_below (by kernel_rfl) (by kernel_rfl) ?_;quiet_step (fail);quiet_step (fail);quiet_step (fail);quiet_step (fail);quiet_step (fail);quiet_step (fail);quiet_step (fail);quiet_step (fail);quiet_step (fail);refine wpQuiet_nil ?_;intro _ hw';obtain ⟨⟨dq, osq⟩, hw''⟩ := hw';subst hw'';go_wp2;go_roundw
   case rel => exact ⟨k + 1, by omega, by go_num, bl_trans HB.o (below_regrownN (w := wr) dq osq)⟩
   case measure => simp [intOf]; omega
 obtain rfl : k = n := by omega
 have hlkz : ¬ (k : Int) < (k : Int) := by omega
 go_wp2;go_ret;exact ⟨rfl, HB.o⟩
theorem KIn.nums {cs : List Int} (h : KIn w a cs) : cs = [] ∨ ∃ b off, a = some ⟨b, off, none⟩ ∧ b < w.heap.size ∧ ∀ i x, cs[i]? = some x → w.cell? ⟨b, off + i, none⟩ = some (.int .i64 x) := by
 rcases h with h | ⟨b, off, e, hl, hc⟩
 · exact .inl (List.eq_nil_of_length_eq_zero h)
 exact .inr ⟨b, off, e, hl, fun i x hx => by
  have hi := (List.getElem?_eq_some_iff.1 hx).1
  have h2 := hc i hi
  rw [hx] at h2
  exact h2⟩
def intM (g n : Nat) : List MC := (List.range n).map fun i => (g, i, false)
theorem intM_succ (g n : Nat) : intM g (n + 1) = intM g n ++ [(g, n, false)] := by
 unfold intM;rw [List.range_succ, List.map_append];rfl
theorem markIntS_x (B C : Nat) (g n cap : Nat) (k : Int) (w : World) (hn : n ≤ 1048576) (hg : n = 0 ∨ B ≤ g ∧ g < C) (h : ∀ j, j < n → N64 w g j ∧ w.frozen? ⟨g, j, none⟩ = false) (hk : 0 ≤ k) (hk2 : k ≤ 1125899906842624) :
 Calls Tryz.prog 14 #[.slice (some ⟨g, 0, none⟩) n cap, .int .i64 k] w fun e w' => ∃ m : Int, e = .returned (.int .i64 m) ∧ Mkd B C w w' (intM g n) k m := by
 have HX := iH h;clear h;go_in;go_wp2_with fail
 go_loopw [1, 5] (fun a b wr => ∃ j : Nat, j ≤ n ∧ b = .int .i64 j ∧ a = .int .i64 (k + j) ∧ Hd (Mkd B C w wr (intM g j) k (k + j)))
  (fun _ b _ => n - (intOf b).toNat)
 case atStart => exact ⟨0, nZ, rfl, by simp, (show Mkd B C w w [] k (k + (0 : Nat)) from by simpa using Mkd.refl B C w k)⟩
 obtain ⟨j, hj, rfl, rfl, HK⟩ := hrel;by_cases hlt : j < n
 · have n0 := (HX.o j hlt).1
   obtain ⟨v0, i0⟩ := HK.o.kb.i g j n0;have f0 := (HK.o.kb.f ⟨g, j, none⟩).trans (HX.o j hlt).2;have HK2 := iH (HK.o.num n0 (hg.resolve_left (by omega)).1 (hg.resolve_left (by omega)).2 rfl);go_wp2;go_roundw
   case rel => exact ⟨j + 1, by omega, by go_num, by go_num, (show Mkd B C w _ (intM g (j + 1)) k (k + ((j + 1 : Nat) : Int)) from by rw [intM_succ, show (k + ((j + 1 : Nat) : Int)) = k + (j : Int) + 1 by omega]; exact HK2.o)⟩
   case measure => simp [intOf]; omega
 obtain rfl : j = n := by omega
 go_wp2;go_ret;exact ⟨_, rfl, HK.o⟩
theorem heldPlanS_x (B C : Nat) (a : Option Addr) (cap n : Nat) (kid : Nat → PT) (k : Int) (w : World) (hk : 0 ≤ k) (hk2 : k + ((catM (fun i => lF (blk a) (i * 28) (kid i).d (kid i).ms) n).length : Int) ≤ 1152921504606846976) (hM : LX2 B C w a n kid)
 (IH : ∀ i, i < n → ∀ (k : Int) (W : World), 0 ≤ k → k + ((kid i).ms.length : Int) ≤ 1152921504606846976 → QM2 B C W (kid i) → Hl W (kid i).ms k → Calls Tryz.prog 58 #[.slice (kid i).d.ka (kid i).d.n (kid i).d.kc, .int .i64 k] W (HdX W (kid i).ms k))
 (hH : Hl w (catM (fun i => lF (blk a) (i * 28) (kid i).d (kid i).ms) n) k) :
 Calls Tryz.prog 58 #[.slice a n cap, .int .i64 k] w (HdX w (catM (fun i => lF (blk a) (i * 28) (kid i).d (kid i).ms) n) k) := by
 by_cases h0 : n = 0
 · subst h0
   clear hM IH hH;go_in;go_wp2;refine wl1 ?_;go_wp2;go_ret;exact ⟨_, rfl, (show k = k + ((0 : Nat) : Int) by simp), rfl⟩
 rcases hM with h | ⟨g, rfl, hx⟩
 · exact absurd h h0
 change k + ((catM (fun i => lF (g) (i * 28) (kid i).d (kid i).ms) n).length : Int) ≤ 1152921504606846976 at hk2;obtain ⟨F, hF⟩ : ∃ F : Nat → List MC, F = (fun i => lF (g) (i * 28) (kid i).d (kid i).ms) := ⟨_, rfl⟩;have HF := iH hF;show Calls _ _ _ w (HdX w (catM (fun i => lF (g) (i * 28) (kid i).d (kid i).ms) n) k);rw [← hF] at hk2 ⊢;have HX := iH hx;have HQ := iH hk2;have HI := iH IH;have HH : Hd (Hl w (catM F n) k) := (show Hl _ _ _ by rw [hF]; exact hH);have HFL : ∀ j, (F j).length = 1 + 1 + (kid j).d.p.s.v.len + 1 + (kid j).d.p.s.t.t.len + 1 + 1 + (kid j).d.p.p.v.len + 1 + (kid j).d.p.p.t.t.len + 1 + 1 + (kid j).d.p.o.v.len + 1 + (kid j).d.p.o.t.t.len + 1 + 1 + 1 + 1 + (kid j).d.e.d.v.len + 1 + (kid j).d.e.d.t.t.len + 1 + 1 + ((kid j).d.e.ms).length + (kid j).d.v.len + (termM (kid j).d.ta (kid j).d.tb).length + ((kid j).ms).length := fun j => by
  rw [hF];simp only [List.length_append, List.length_cons, List.length_nil, txC_len, Nat.zero_add, Nat.add_assoc, lF]
 have HFH := iH HFL;have hn : n ≤ 1152921504606846976 := by
  have h := catM_ge (f := F) (fun i => by rw [HFL]; omega) n;omega
 have HN : Hd (∀ j, j < n → (catM F j).length + (1 + 1 + (kid j).d.p.s.v.len + 1 + (kid j).d.p.s.t.t.len + 1 + 1 + (kid j).d.p.p.v.len + 1 + (kid j).d.p.p.t.t.len + 1 + 1 + (kid j).d.p.o.v.len + 1 + (kid j).d.p.o.t.t.len + 1 + 1 + 1 + 1 + (kid j).d.e.d.v.len + 1 + (kid j).d.e.d.t.t.len + 1 + 1 + ((kid j).d.e.ms).length + (kid j).d.v.len + (termM (kid j).d.ta (kid j).d.tb).length + ((kid j).ms).length) ≤ (catM F n).length) := fun j hlt => by
  have h := catM_le (f := F) hlt;rw [HFL] at h;exact h
 clear HFL;clear hk2 IH hx hF h0 hH;go_in;go_wp2_with fail
 go_loop [1, 5] (fun a b => ∃ (j : Nat) (m : Int), j ≤ n ∧ b = .int .i64 j ∧ a = .int .i64 m ∧ 0 ≤ m ∧ m ≤ 1152921504606846976 ∧ Hd (m = k + ((catM F j).length : Int)))
  (fun _ b => n - (intOf b).toNat)
 case atStart => exact ⟨0, k, nZ, rfl, rfl, hk, by have h := HQ.o; omega, (show k = k + ((0 : Nat) : Int) by simp)⟩
 obtain ⟨j, m, hj, rfl, rfl, hm0, hm1, M0⟩ := hrel;by_cases hlt : j < n
 · have HJ := iH (HN.o j hlt)
   obtain ⟨l2, HL2⟩ : ∃ l, Hd (l = (kid j).d.p.s.v.len) := ⟨_, rfl⟩;rw [← HL2.o] at HJ;obtain ⟨l4, HL4⟩ : ∃ l, Hd (l = (kid j).d.p.s.t.t.len) := ⟨_, rfl⟩;rw [← HL4.o] at HJ;obtain ⟨l7, HL7⟩ : ∃ l, Hd (l = (kid j).d.p.p.v.len) := ⟨_, rfl⟩;rw [← HL7.o] at HJ;obtain ⟨l9, HL9⟩ : ∃ l, Hd (l = (kid j).d.p.p.t.t.len) := ⟨_, rfl⟩;rw [← HL9.o] at HJ;obtain ⟨l12, HL12⟩ : ∃ l, Hd (l = (kid j).d.p.o.v.len) := ⟨_, rfl⟩;rw [← HL12.o] at HJ;obtain ⟨l14, HL14⟩ : ∃ l, Hd (l = (kid j).d.p.o.t.t.len) := ⟨_, rfl⟩;rw [← HL14.o] at HJ;obtain ⟨l19, HL19⟩ : ∃ l, Hd (l = (kid j).d.e.d.v.len) := ⟨_, rfl⟩;rw [← HL19.o] at HJ;obtain ⟨l21, HL21⟩ : ∃ l, Hd (l = (kid j).d.e.d.t.t.len) := ⟨_, rfl⟩;rw [← HL21.o] at HJ;obtain ⟨l24, HL24⟩ : ∃ l, Hd (l = ((kid j).d.e.ms).length) := ⟨_, rfl⟩;rw [← HL24.o] at HJ;obtain ⟨l25, HL25⟩ : ∃ l, Hd (l = (kid j).d.v.len) := ⟨_, rfl⟩;rw [← HL25.o] at HJ;obtain ⟨l26, HL26⟩ : ∃ l, Hd (l = (termM (kid j).d.ta (kid j).d.tb).length) := ⟨_, rfl⟩;rw [← HL26.o] at HJ;obtain ⟨l27, HL27⟩ : ∃ l, Hd (l = ((kid j).ms).length) := ⟨_, rfl⟩;rw [← HL27.o] at HJ;have HE := iH (HX.o j hlt);have hl := HH.o.cat hlt m M0.o;rw [show F j = _ from congrFun HF.o j] at hl;unfold lF at hl;have G := iH (show m = m from rfl);obtain ⟨e0, hl⟩ := hl.num;obtain ⟨e1, hl⟩ := hl.num;have s2 := HE.o.1.s2;have ub : m + 2 ≤ 1152921504606846976 := by have z := G.o; have z1 := HJ.o; have z2 := HQ.o; have z3 := M0.o; omega
   obtain ⟨ht, hr⟩ := hl.app;have HR := iH hr;clear hr;have HT : Hd (∀ q, q = m + 1 + 1 → Hl w _ q) := fun q hq => (show Hl w _ q by rw [hq]; exact ht);clear hl ht;go_wp2_with fail
   refine (heldText_x (kid j).d.p.s.v.a (kid j).d.p.s.v.len (kid j).d.p.s.v.cap _ w (TxM.form HE.o.1.t2) (HT.o _ (by omega)) (by omega) (by omega) HE.o.1.t2.1).mono ?_;rintro e w' ⟨q1, rfl, HQ1, hw'⟩;subst w';have G' : Hd (q1 = m + ((1 + 1 + l2 : Nat) : Int)) := (show _ = _ by have z := G.o; have z1 := HQ1.o; rw [txC_len, ← HL2.o] at z1; omega);have hl := HR.o q1 (by have z1 := HQ1.o; omega);clear G HT HR HQ1 s2 e0 e1 ub;have G := G';clear G';obtain ⟨p1, u1⟩ : 0 ≤ q1 ∧ q1 ≤ 1152921504606846976 := by have z := G.o; have z1 := HJ.o; have z2 := HQ.o; have z3 := M0.o; omega
   obtain ⟨e3, hl⟩ := hl.num;have s4 := HE.o.1.s4;have ub : q1 + 1 ≤ 1152921504606846976 := by have z := G.o; have z1 := HJ.o; have z2 := HQ.o; have z3 := M0.o; omega
   obtain ⟨ht, hr⟩ := hl.app;have HR := iH hr;clear hr;have HT : Hd (∀ q, q = q1 + 1 → Hl w _ q) := fun q hq => (show Hl w _ q by rw [hq]; exact ht);clear hl ht;go_wp2_with fail
   refine (heldText_x (kid j).d.p.s.t.t.a (kid j).d.p.s.t.t.len (kid j).d.p.s.t.t.cap _ w (TxM.form HE.o.1.t4) (HT.o _ (by omega)) (by omega) (by omega) HE.o.1.t4.1).mono ?_;rintro e w' ⟨q2, rfl, HQ2, hw'⟩;subst w';have G' : Hd (q2 = m + ((1 + 1 + l2 + 1 + l4 : Nat) : Int)) := (show _ = _ by have z := G.o; have z1 := HQ2.o; rw [txC_len, ← HL4.o] at z1; omega);have hl := HR.o q2 (by have z1 := HQ2.o; omega);clear G HT HR HQ2 s4 e3 ub p1 u1;have G := G';clear G';obtain ⟨p2, u2⟩ : 0 ≤ q2 ∧ q2 ≤ 1152921504606846976 := by have z := G.o; have z1 := HJ.o; have z2 := HQ.o; have z3 := M0.o; omega
   obtain ⟨e5, hl⟩ := hl.num;obtain ⟨e6, hl⟩ := hl.num;have s7 := HE.o.1.s7;have ub : q2 + 2 ≤ 1152921504606846976 := by have z := G.o; have z1 := HJ.o; have z2 := HQ.o; have z3 := M0.o; omega
   obtain ⟨ht, hr⟩ := hl.app;have HR := iH hr;clear hr;have HT : Hd (∀ q, q = q2 + 1 + 1 → Hl w _ q) := fun q hq => (show Hl w _ q by rw [hq]; exact ht);clear hl ht;go_wp2_with fail
   refine (heldText_x (kid j).d.p.p.v.a (kid j).d.p.p.v.len (kid j).d.p.p.v.cap _ w (TxM.form HE.o.1.t7) (HT.o _ (by omega)) (by omega) (by omega) HE.o.1.t7.1).mono ?_;rintro e w' ⟨q3, rfl, HQ3, hw'⟩;subst w';have G' : Hd (q3 = m + ((1 + 1 + l2 + 1 + l4 + 1 + 1 + l7 : Nat) : Int)) := (show _ = _ by have z := G.o; have z1 := HQ3.o; rw [txC_len, ← HL7.o] at z1; omega);have hl := HR.o q3 (by have z1 := HQ3.o; omega);clear G HT HR HQ3 s7 e5 e6 ub p2 u2;have G := G';clear G';obtain ⟨p3, u3⟩ : 0 ≤ q3 ∧ q3 ≤ 1152921504606846976 := by have z := G.o; have z1 := HJ.o; have z2 := HQ.o; have z3 := M0.o; omega
   obtain ⟨e8, hl⟩ := hl.num;have s9 := HE.o.1.s9;have ub : q3 + 1 ≤ 1152921504606846976 := by have z := G.o; have z1 := HJ.o; have z2 := HQ.o; have z3 := M0.o; omega
   obtain ⟨ht, hr⟩ := hl.app;have HR := iH hr;clear hr;have HT : Hd (∀ q, q = q3 + 1 → Hl w _ q) := fun q hq => (show Hl w _ q by rw [hq]; exact ht);clear hl ht;go_wp2_with fail
   refine (heldText_x (kid j).d.p.p.t.t.a (kid j).d.p.p.t.t.len (kid j).d.p.p.t.t.cap _ w (TxM.form HE.o.1.t9) (HT.o _ (by omega)) (by omega) (by omega) HE.o.1.t9.1).mono ?_;rintro e w' ⟨q4, rfl, HQ4, hw'⟩;subst w';have G' : Hd (q4 = m + ((1 + 1 + l2 + 1 + l4 + 1 + 1 + l7 + 1 + l9 : Nat) : Int)) := (show _ = _ by have z := G.o; have z1 := HQ4.o; rw [txC_len, ← HL9.o] at z1; omega);have hl := HR.o q4 (by have z1 := HQ4.o; omega);clear G HT HR HQ4 s9 e8 ub p3 u3;have G := G';clear G';obtain ⟨p4, u4⟩ : 0 ≤ q4 ∧ q4 ≤ 1152921504606846976 := by have z := G.o; have z1 := HJ.o; have z2 := HQ.o; have z3 := M0.o; omega
   obtain ⟨e10, hl⟩ := hl.num;obtain ⟨e11, hl⟩ := hl.num;have s12 := HE.o.1.s12;have ub : q4 + 2 ≤ 1152921504606846976 := by have z := G.o; have z1 := HJ.o; have z2 := HQ.o; have z3 := M0.o; omega
   obtain ⟨ht, hr⟩ := hl.app;have HR := iH hr;clear hr;have HT : Hd (∀ q, q = q4 + 1 + 1 → Hl w _ q) := fun q hq => (show Hl w _ q by rw [hq]; exact ht);clear hl ht;go_wp2_with fail
   refine (heldText_x (kid j).d.p.o.v.a (kid j).d.p.o.v.len (kid j).d.p.o.v.cap _ w (TxM.form HE.o.1.t12) (HT.o _ (by omega)) (by omega) (by omega) HE.o.1.t12.1).mono ?_;rintro e w' ⟨q5, rfl, HQ5, hw'⟩;subst w';have G' : Hd (q5 = m + ((1 + 1 + l2 + 1 + l4 + 1 + 1 + l7 + 1 + l9 + 1 + 1 + l12 : Nat) : Int)) := (show _ = _ by have z := G.o; have z1 := HQ5.o; rw [txC_len, ← HL12.o] at z1; omega);have hl := HR.o q5 (by have z1 := HQ5.o; omega);clear G HT HR HQ5 s12 e10 e11 ub p4 u4;have G := G';clear G';obtain ⟨p5, u5⟩ : 0 ≤ q5 ∧ q5 ≤ 1152921504606846976 := by have z := G.o; have z1 := HJ.o; have z2 := HQ.o; have z3 := M0.o; omega
   obtain ⟨e13, hl⟩ := hl.num;have s14 := HE.o.1.s14;have ub : q5 + 1 ≤ 1152921504606846976 := by have z := G.o; have z1 := HJ.o; have z2 := HQ.o; have z3 := M0.o; omega
   obtain ⟨ht, hr⟩ := hl.app;have HR := iH hr;clear hr;have HT : Hd (∀ q, q = q5 + 1 → Hl w _ q) := fun q hq => (show Hl w _ q by rw [hq]; exact ht);clear hl ht;go_wp2_with fail
   refine (heldText_x (kid j).d.p.o.t.t.a (kid j).d.p.o.t.t.len (kid j).d.p.o.t.t.cap _ w (TxM.form HE.o.1.t14) (HT.o _ (by omega)) (by omega) (by omega) HE.o.1.t14.1).mono ?_;rintro e w' ⟨q6, rfl, HQ6, hw'⟩;subst w';have G' : Hd (q6 = m + ((1 + 1 + l2 + 1 + l4 + 1 + 1 + l7 + 1 + l9 + 1 + 1 + l12 + 1 + l14 : Nat) : Int)) := (show _ = _ by have z := G.o; have z1 := HQ6.o; rw [txC_len, ← HL14.o] at z1; omega);have hl := HR.o q6 (by have z1 := HQ6.o; omega);clear G HT HR HQ6 s14 e13 ub p5 u5;have G := G';clear G';obtain ⟨p6, u6⟩ : 0 ≤ q6 ∧ q6 ≤ 1152921504606846976 := by have z := G.o; have z1 := HJ.o; have z2 := HQ.o; have z3 := M0.o; omega
   obtain ⟨e15, hl⟩ := hl.num;obtain ⟨e16, hl⟩ := hl.num;obtain ⟨e17, hl⟩ := hl.num;obtain ⟨e18, hl⟩ := hl.num;have s19 := HE.o.1.s19;have ub : q6 + 4 ≤ 1152921504606846976 := by have z := G.o; have z1 := HJ.o; have z2 := HQ.o; have z3 := M0.o; omega
   obtain ⟨ht, hr⟩ := hl.app;have HR := iH hr;clear hr;have HT : Hd (∀ q, q = q6 + 1 + 1 + 1 + 1 → Hl w _ q) := fun q hq => (show Hl w _ q by rw [hq]; exact ht);clear hl ht;go_wp2_with fail
   refine (heldText_x (kid j).d.e.d.v.a (kid j).d.e.d.v.len (kid j).d.e.d.v.cap _ w (TxM.form HE.o.1.t19) (HT.o _ (by omega)) (by omega) (by omega) HE.o.1.t19.1).mono ?_;rintro e w' ⟨q7, rfl, HQ7, hw'⟩;subst w';have G' : Hd (q7 = m + ((1 + 1 + l2 + 1 + l4 + 1 + 1 + l7 + 1 + l9 + 1 + 1 + l12 + 1 + l14 + 1 + 1 + 1 + 1 + l19 : Nat) : Int)) := (show _ = _ by have z := G.o; have z1 := HQ7.o; rw [txC_len, ← HL19.o] at z1; omega);have hl := HR.o q7 (by have z1 := HQ7.o; omega);clear G HT HR HQ7 s19 e15 e16 e17 e18 ub p6 u6;have G := G';clear G';obtain ⟨p7, u7⟩ : 0 ≤ q7 ∧ q7 ≤ 1152921504606846976 := by have z := G.o; have z1 := HJ.o; have z2 := HQ.o; have z3 := M0.o; omega
   obtain ⟨e20, hl⟩ := hl.num;have s21 := HE.o.1.s21;have ub : q7 + 1 ≤ 1152921504606846976 := by have z := G.o; have z1 := HJ.o; have z2 := HQ.o; have z3 := M0.o; omega
   obtain ⟨ht, hr⟩ := hl.app;have HR := iH hr;clear hr;have HT : Hd (∀ q, q = q7 + 1 → Hl w _ q) := fun q hq => (show Hl w _ q by rw [hq]; exact ht);clear hl ht;go_wp2_with fail
   refine (heldText_x (kid j).d.e.d.t.t.a (kid j).d.e.d.t.t.len (kid j).d.e.d.t.t.cap _ w (TxM.form HE.o.1.t21) (HT.o _ (by omega)) (by omega) (by omega) HE.o.1.t21.1).mono ?_;rintro e w' ⟨q8, rfl, HQ8, hw'⟩;subst w';have G' : Hd (q8 = m + ((1 + 1 + l2 + 1 + l4 + 1 + 1 + l7 + 1 + l9 + 1 + 1 + l12 + 1 + l14 + 1 + 1 + 1 + 1 + l19 + 1 + l21 : Nat) : Int)) := (show _ = _ by have z := G.o; have z1 := HQ8.o; rw [txC_len, ← HL21.o] at z1; omega);have hl := HR.o q8 (by have z1 := HQ8.o; omega);clear G HT HR HQ8 s21 e20 ub p7 u7;have G := G';clear G';obtain ⟨p8, u8⟩ : 0 ≤ q8 ∧ q8 ≤ 1152921504606846976 := by have z := G.o; have z1 := HJ.o; have z2 := HQ.o; have z3 := M0.o; omega
   obtain ⟨e22, hl⟩ := hl.num;obtain ⟨e23, hl⟩ := hl.num;have s24 := HE.o.1.s24;have ub : q8 + 2 ≤ 1152921504606846976 := by have z := G.o; have z1 := HJ.o; have z2 := HQ.o; have z3 := M0.o; omega
   obtain ⟨ht, hr⟩ := hl.app;have HR := iH hr;clear hr;have HT : Hd (∀ q, q = q8 + 1 + 1 → Hl w _ q) := fun q hq => (show Hl w _ q by rw [hq]; exact ht);clear hl ht;go_wp2_with fail
   refine (heldKids_x B C (kid j).d.e _ w (by omega) (by have zl := HL24.o; have z := G.o; have z1 := HJ.o; have z2 := HQ.o; have z3 := M0.o; omega) HE.o.1.ke (HT.o _ (by omega))).mono ?_;rintro e w' ⟨q9, rfl, HQ9, hw'⟩;subst w';have G' : Hd (q9 = m + ((1 + 1 + l2 + 1 + l4 + 1 + 1 + l7 + 1 + l9 + 1 + 1 + l12 + 1 + l14 + 1 + 1 + 1 + 1 + l19 + 1 + l21 + 1 + 1 + l24 : Nat) : Int)) := (show _ = _ by have z := G.o; have z1 := HQ9.o; rw [← HL24.o] at z1; omega);have hl := HR.o q9 (by have z1 := HQ9.o; omega);clear G HT HR HQ9 s24 e22 e23 ub p8 u8;have G := G';clear G';obtain ⟨p9, u9⟩ : 0 ≤ q9 ∧ q9 ≤ 1152921504606846976 := by have z := G.o; have z1 := HJ.o; have z2 := HQ.o; have z3 := M0.o; omega
   have s25 := HE.o.1.s25;obtain ⟨ht, hr⟩ := hl.app;have HR := iH hr;clear hr;have HT : Hd (∀ q, q = q9 → Hl w _ q) := fun q hq => (show Hl w _ q by rw [hq]; exact ht);clear hl ht;go_wp2_with fail
   refine (heldText_x (kid j).d.v.a (kid j).d.v.len (kid j).d.v.cap _ w (TxM.form HE.o.1.t25) (HT.o _ (by omega)) (by omega) (by omega) HE.o.1.t25.1).mono ?_;rintro e w' ⟨q10, rfl, HQ10, hw'⟩;subst w';have G' : Hd (q10 = m + ((1 + 1 + l2 + 1 + l4 + 1 + 1 + l7 + 1 + l9 + 1 + 1 + l12 + 1 + l14 + 1 + 1 + 1 + 1 + l19 + 1 + l21 + 1 + 1 + l24 + l25 : Nat) : Int)) := (show _ = _ by have z := G.o; have z1 := HQ10.o; rw [txC_len, ← HL25.o] at z1; omega);have hl := HR.o q10 (by have z1 := HQ10.o; omega);clear G HT HR HQ10 s25  p9 u9;have G := G';clear G';obtain ⟨p10, u10⟩ : 0 ≤ q10 ∧ q10 ≤ 1152921504606846976 := by have z := G.o; have z1 := HJ.o; have z2 := HQ.o; have z3 := M0.o; omega
   have s26 := HE.o.1.s26;obtain ⟨ht, hr⟩ := hl.app;have HR := iH hr;clear hr;have HT : Hd (∀ q, q = q10 → Hl w _ q) := fun q hq => (show Hl w _ q by rw [hq]; exact ht);clear hl ht;go_wp2_with fail
   refine (heldTerms_x B C (kid j).d.ta (kid j).d.tc (kid j).d.tb _ w (by omega) (by have zl := HL26.o; have z := G.o; have z1 := HJ.o; have z2 := HQ.o; have z3 := M0.o; omega) HE.o.1.te (HT.o _ (by omega))).mono ?_;rintro e w' ⟨q11, rfl, HQ11, hw'⟩;subst w';have G' : Hd (q11 = m + ((1 + 1 + l2 + 1 + l4 + 1 + 1 + l7 + 1 + l9 + 1 + 1 + l12 + 1 + l14 + 1 + 1 + 1 + 1 + l19 + 1 + l21 + 1 + 1 + l24 + l25 + l26 : Nat) : Int)) := (show _ = _ by have z := G.o; have z1 := HQ11.o; rw [← HL26.o] at z1; omega);replace ht := HR.o q11 (by have z1 := HQ11.o; omega);clear G HT HR HQ11 s26  p10 u10;have G := G';clear G';obtain ⟨p11, u11⟩ : 0 ≤ q11 ∧ q11 ≤ 1152921504606846976 := by have z := G.o; have z1 := HJ.o; have z2 := HQ.o; have z3 := M0.o; omega
   have s27 := HE.o.1.s27;have HT : Hd (∀ q, q = q11 → Hl w _ q) := fun q hq => (show Hl w _ q by rw [hq]; exact ht);clear ht;go_wp2_with fail
   refine (HI.o j hlt _ w (by omega) (by have zl := HL27.o; have z := G.o; have z1 := HJ.o; have z2 := HQ.o; have z3 := M0.o; omega) HE.o.2 (HT.o _ (by omega))).mono ?_;rintro e w' ⟨q12, rfl, HQ12, hw'⟩;subst w';have G' : Hd (q12 = m + ((1 + 1 + l2 + 1 + l4 + 1 + 1 + l7 + 1 + l9 + 1 + 1 + l12 + 1 + l14 + 1 + 1 + 1 + 1 + l19 + 1 + l21 + 1 + 1 + l24 + l25 + l26 + l27 : Nat) : Int)) := (show _ = _ by have z := G.o; have z1 := HQ12.o; rw [← HL27.o] at z1; omega);clear G HT HQ12 s27  p11 u11;have G := G';clear G';obtain ⟨p12, u12⟩ : 0 ≤ q12 ∧ q12 ≤ 1152921504606846976 := by have z := G.o; have z1 := HJ.o; have z2 := HQ.o; have z3 := M0.o; omega
   go_wp2;go_round
   case rel =>
    refine ⟨j + 1, _, by omega, by go_num, rfl, by omega, by omega, ?_⟩
    show _ = k + (((catM F j ++ F j).length : Nat) : Int);rw [List.length_append, HFH.o j, ← HL2.o, ← HL4.o, ← HL7.o, ← HL9.o, ← HL12.o, ← HL14.o, ← HL19.o, ← HL21.o, ← HL24.o, ← HL25.o, ← HL26.o, ← HL27.o];have z := G.o;have z3 := M0.o;omega
   case measure => simp [intOf]; omega
 obtain rfl : j = n := by omega
 go_wp2;go_ret;exact ⟨m, rfl, M0.o, rfl⟩
theorem heldPlanS_t (B C : Nat) (e : PT) : ∀ (k : Int) (w : World), 0 ≤ k → k + (e.ms.length : Int) ≤ 1152921504606846976 → QM2 B C w e → Hl w e.ms k →
 Calls Tryz.prog 58 #[.slice e.d.ka e.d.n e.d.kc, .int .i64 k] w (HdX w e.ms k) := by
 induction e with
 | nil => exact fun k w hk hk2 _ _ => heldPlanS_x B C _ _ 0 (fun _ => .nil) k w hk hk2 (.inl rfl) (fun i hi => absurd hi nN) trivial
 | mk d kid ih => exact fun k w hk hk2 hM hH => heldPlanS_x B C d.ka d.kc d.n kid k w hk hk2 hM (fun i hi k' W h1 h2 h3 h4 => ih i k' W h1 h2 h3 h4) hH
end Go.Proofs.YtoloadogihbdeaaGreat
