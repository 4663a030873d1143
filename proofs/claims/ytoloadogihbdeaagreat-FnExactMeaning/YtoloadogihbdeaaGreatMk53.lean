import Derived.Test.YtoloadogihbdeaaGreatMk50
import Derived.Test.YtoloadogihbdeaaGreatMk52
namespace Go.Proofs.YtoloadogihbdeaaGreat
open Go.RowKit Go.Deep
set_option maxHeartbeats 40000000
set_option maxRecDepth 100000
theorem zeroE_to {a b : ET} (h : zeroE a) (s : a.same b) : zeroE b := by
 cases a with
 | nil => cases b <;> exact False.elim s
 | mk d kid =>
  cases b with
  | nil => exact False.elim s
  | mk d' kid' =>
   obtain ⟨a1, a2, a3, a4, a5⟩ := h
   obtain ⟨s1, s2, s3, s4, s5, _⟩ := s
   refine ⟨s1.symm.trans a1, s2.symm.trans a2, s3.symm.trans a3, ?_, s5.symm.trans a5⟩
   show zeroT d'.t.td
   rw [← s4]
   exact a4
theorem Bgp1.same {p : PB} {a b : AT} (h : Bgp1 p a) (s : a.same b) : Bgp1 p b := by
 cases a with
 | nil => exact False.elim h
 | mk a ak =>
  cases b with
  | nil => exact False.elim s
  | mk b bk =>
   obtain ⟨a1, a2, a3, a4, a5, a6, a7⟩ := h
   obtain ⟨s1, s2, s3, s4, s5, s6, s7, _⟩ := s
   refine ⟨s1.symm.trans a1, s2.symm.trans a2, a3.trans (s3 0 (by omega)), zeroE_to a4 s4, s5.symm.trans a5, ?_, s7.symm.trans a7⟩
   rw [a6] at s6
   exact List.map_eq_nil_iff.1 s6.symm
theorem Mean.same {p : PT} : ∀ {a b : AT}, Mean p a → a.same b → Mean p b := by
 induction p with
 | nil => intro a b h; cases a <;> exact False.elim h
 | mk d kid ih =>
  intro a b h s
  cases a with
  | nil => exact False.elim h
  | mk a ak =>
   cases b with
   | nil => exact False.elim s
   | mk b bk =>
    obtain ⟨a1, a2, a3, a4, a5⟩ := h
    obtain ⟨s1, s2, s3, s4, s5, s6, s7, s8⟩ := s
    refine ⟨s2.symm.trans a1, a2.trans s4, a3.trans s5, a4.trans s6, ?_⟩
    rcases a5 with ⟨c1, c2, c3, c4, c5⟩ | ⟨c1, c2, c3, c4, c5⟩
    · exact .inl ⟨c1, fun h => s1.symm.trans (c2 h), fun h => s1.symm.trans (c3 h), s7.symm.trans c4, fun i hi => ih i (c5 i hi) (s8 i (by omega))⟩
    exact .inr ⟨c1, s1.symm.trans c2, s7.symm.trans c3, ih 0 c4 (s8 0 (by omega)), c5.same (s8 1 (by omega))⟩
theorem specMeaning_any (e : PT) (w : World) (h : e.lies 0 w) : Calls Tryz.prog 18 #[.agg e.d.ar] w fun r w' => ∃ (y : AT) (q : Bool), r = .returned (.tuple #[.agg y.d.ar, .bool q]) ∧ y.ow w.heap.size w' ∧ MeanA e y q ∧ Bl w w' := by
 have HPO := iH (fun W (hb : Bl w W) => specPlanOk_any e W (PT.lies.upper (uB hb) h))
 have HME := iH (fun W (hb : Bl w W) (hp : planOk e) => l7m_any e 1 w W hb h hp.1)
 have HX := iH ((Box.new w e.d.ar 46 (0, 0)).below (bl_a (.cells zGa 52)))
 have HO : Hd (OB ((w.alloc (.cells e.d.ar 46)).alloc (.cells zGa 52)) (w.heap.size + 1) zGl) := (show OB _ _ _ by have h := OB.new (w.alloc (.cells e.d.ar 46)) zGa 52; simpa using h)
 have HB : Hd (Bl w ((w.alloc (.cells e.d.ar 46)).alloc (.cells zGa 52))) := bl_alloc (bl_a _) _
 clear h
 go_in
 go_upto_region 1 with fail
 generalize ((w.alloc _).alloc _) = W1 at *
 have HG : Hd (w.heap.size + 1 < W1.heap.size) := HO.o.1
 have lp : W1.rangeAt w.heap.size 0 e.d.cl := HX.o.range 0 _ rfl
 go_wp2_with (with_reducible refine wpv_at ?_; refine ldr rfl rfl rfl Tryz.underlying46 lp rfl ?_; try simp only [Act.put, sA, zA, cA])
 refine (HPO.o _ HB.o).mono ?_
 rintro r w2 ⟨q, rfl, hq, hb2⟩
 have HB2 := iH (bl_trans HB.o hb2)
 have HX2 := iH (HX.o.below hb2)
 have HO2 := iH (HO.o.below hb2)
 have HSZ := iH hb2.size
 clear lp hb2 HX HO HB
 cases q
 · have HN : Hd (¬ planOk e) := fun h => by cases hq.2 h
   clear hq HME
   have hst : w2.there (w.heap.size + 1) 0 13 := HO2.o.there 0 13 (by simp)
   have on : (zGa : Array Value).all (·.oneCell') = true := all_oneCell_toArray (cs := zGl) (by simp [Value.oneCell'])
   have hrd : (w2.setCells (w.heap.size + 1) 0 zGl).rangeAt (w.heap.size + 1) 0 zGl := World.rangeAt_setCells_same _ _ _ _ hst
   have hbf := iH (below_sets (w0 := w) (w.heap.size + 1) (by omega) zGl 0 w2 HB2.o)
   have hsf : Hd ((w2.setCells (w.heap.size + 1) 0 zGl).heap.size = w2.heap.size) := (but_sets (w.heap.size + 1) zGl 0 w2).size
   have huf : Hd (Upper (w.heap.size + 1 + 1) w2 (w2.setCells (w.heap.size + 1) 0 zGl)) := upper_sets (w.heap.size + 1) zGl 0 w2
   go_wp2_with (with_reducible refine wpv_at ?_; refine store_stopV 52 (.tmp 2) (.tmp 8) rfl ?_)
   change wpList _ _ _ _ _ _
   refine wpList_store_mid rfl 52 _ _ rfl (w.heap.size + 1) 0 zGa rfl rfl hst (by kernel_rfl) on ?_
   try simp only [Act.put]
   generalize w2.setCells (w.heap.size + 1) 0 zGl = W5 at *
   go_wp2
   try simp only [Exit.inBlock, Exit.then]
   refine bodyPost_ret (v := .tuple #[.agg zGa, .bool false]) ?hrf rfl ?hpf
   case hrf => exact results_cell2 rfl rfl rfl (run_loadVar_mid (P := Tryz.prog) _ (w.heap.size + 1) 0 52 zGl _ hrd Tryz.underlying52 rfl (by kernel_rfl))
   exact ⟨AT0, false, rfl, AT0_ow _ _, .inr ⟨rfl, HN.o, rfl⟩, hbf.o⟩
 have HPK := iH (hq.1 rfl)
 clear hq
 have lp : w2.rangeAt w.heap.size 0 e.d.cl := HX2.o.range 0 _ rfl
 go_upto_region 3 with fail
 go_wp2_with (with_reducible refine wpv_at ?_; refine ldr rfl rfl rfl Tryz.underlying46 lp rfl ?_; try simp only [Act.put, sA, zA, cA])
 refine (HME.o _ HB2.o HPK.o).mono ?_
 rintro r w3 ⟨y0, rfl, hy, _, hm, hb3⟩
 have hl := hy.lies (bl_trans HB2.o hb3)
 have HM0 := iH hm
 have HS3 := iH hb3.size
 have HB3 := iH (bl_trans HB2.o hb3)
 have HO3 := iH (HO2.o.below hb3)
 clear hy hm hb3 lp HX2 HO2 HB2 HME HPO
 go_wp2_with fail
 refine (l5own_any y0 w3 hl).mono ?_
 rintro r w4 ⟨y, rfl, hy, _, hs, hb4⟩
 have HY := iH hy
 have HM : Hd (Mean e y) := HM0.o.same hs
 have HB4 := iH (bl_trans HB3.o hb4)
 have HO4 := iH (HO3.o.below hb4)
 have HS4 := iH (Nat.le_trans HB3.o.size hb4.size)
 clear hl hy hs hb4 HB3 HO3 HM0
 have hth : (w4.alloc (.cells zGa 52)).there w4.heap.size 0 13 := (OB.new w4 zGa 52).there 0 13 (by simp)
 have one1 : (y.d.ar : Array Value).all (·.oneCell') = true := all_oneCell_toArray (cs := y.d.cl) (by simp [Value.oneCell'])
 have lp : ((w4.alloc (.cells zGa 52)).setCells w4.heap.size 0 y.d.cl).rangeAt w4.heap.size 0 y.d.cl := World.rangeAt_setCells_same _ _ _ _ hth
 have HB5 := iH (below_sets (w0 := w4) w4.heap.size nR y.d.cl 0 (w4.alloc (.cells zGa 52)) (bl_a _))
 go_wp2_with (with_reducible refine wpv_at ?_; refine store_stopV 52 (.tmp 4) (.tmp 11) rfl ?_)
 change wpList _ _ _ _ _ _
 refine wpList_store_mid rfl 52 _ _ rfl w4.heap.size 0 y.d.ar rfl rfl hth (by kernel_rfl) one1 ?_
 try simp only [Act.put]
 generalize ((w4.alloc (.cells zGa 52)).setCells w4.heap.size 0 y.d.cl) = w5 at *
 have HO5 := iH (HO4.o.below HB5.o)
 have HY5 := iH (HY.o.upper (uB HB5.o))
 have HB6 := iH (bl_trans HB4.o HB5.o)
 clear hth one1 HO4 HY HB4
 have hst : w5.there (w.heap.size + 1) 0 13 := HO5.o.there 0 13 (by simp)
 have on : (y.d.ar : Array Value).all (·.oneCell') = true := all_oneCell_toArray (cs := y.d.cl) (by simp [Value.oneCell'])
 have hrd : (w5.setCells (w.heap.size + 1) 0 y.d.cl).rangeAt (w.heap.size + 1) 0 y.d.cl := World.rangeAt_setCells_same _ _ _ _ hst
 have hbf := iH (below_sets (w0 := w) (w.heap.size + 1) (by omega) y.d.cl 0 w5 HB6.o)
 have hsf : Hd ((w5.setCells (w.heap.size + 1) 0 y.d.cl).heap.size = w5.heap.size) := (but_sets (w.heap.size + 1) y.d.cl 0 w5).size
 have huf : Hd (Upper (w.heap.size + 1 + 1) w5 (w5.setCells (w.heap.size + 1) 0 y.d.cl)) := upper_sets (w.heap.size + 1) y.d.cl 0 w5
 go_wp2_with (first | (with_reducible refine wpv_at ?_; refine ldr rfl rfl rfl Tryz.underlying52 lp rfl ?_; try simp only [Act.put, sA, zA, cA]) | (with_reducible refine wpv_at ?_; refine store_stopV 52 (.tmp 2) (.tmp 12) rfl ?_))
 change wpList _ _ _ _ _ _
 refine wpList_store_mid rfl 52 _ _ rfl (w.heap.size + 1) 0 y.d.ar rfl rfl hst (by kernel_rfl) on ?_
 try simp only [Act.put]
 generalize w5.setCells (w.heap.size + 1) 0 y.d.cl = W6 at *
 go_wp2
 try simp only [Exit.inBlock, Exit.then]
 refine bodyPost_ret (v := .tuple #[.agg y.d.ar, .bool true]) ?hrt rfl ?hpt
 case hrt => exact results_cell2 rfl rfl rfl (run_loadVar_mid (P := Tryz.prog) _ (w.heap.size + 1) 0 52 y.d.cl _ hrd Tryz.underlying52 rfl (by kernel_rfl))
 have hg : w.heap.size + 1 + 1 ≤ w3.heap.size := by have := HG.o; have := HSZ.o; have := HS3.o; omega
 exact ⟨y, true, rfl, (HY5.o.upper (huf.o.mono hg)).base (by omega), .inl ⟨rfl, HPK.o, HM.o⟩, hbf.o⟩
theorem NodeP.same {d d' : PN} (hk : d.k = d'.k) (ho : d.ord = d'.ord) (hp : d.p.same d'.p) (he : d.e.same d'.e) (hv : d.v.b = d'.v.b) (ht : d.tb.map TB.td = d'.tb.map TB.td) (hn : d.n = d'.n) (h : NodeP d) : NodeP d' := by
 obtain ⟨l1, l2⟩ := tds_same ht
 refine ⟨hk ▸ h.k0, hk ▸ h.k8, ho ▸ h.o0, ho ▸ h.o5, ?_, fun hh => ?_, fun hh => ?_, fun hh => ?_, fun hh => ?_, l1 ▸ h.tn, fun hh => ?_, fun hh => ?_, fun hh => ?_, fun hh => ?_, l2.1 h.tm⟩
 · rw [← hn, ← hk]; exact h.n
 · exact (ptOk_same hp).1 (h.p1 (hk ▸ hh))
 · exact (zeroP_same hp).1 (h.p0 (hk ▸ hh))
 · rw [← ho]; exact h.oz (hk ▸ hh)
 · have h0 := h.t0 (hk ▸ hh); rw [tb_nil] at h0 ⊢; omega
 · exact (eOk_same he).1 (h.e1 (hk ▸ hh))
 · exact (zeroE_same he).1 (h.e0 (hk ▸ hh))
 · rw [← hv]; exact h.v1 (hk ▸ hh)
 rw [← hv]; exact h.v0 (hk ▸ hh)
theorem PT.same.symm {e : PT} : ∀ {e' : PT}, e.same e' → e'.same e := by
 induction e with
 | nil => exact fun h => False.elim h
 | mk d kid ih =>
  intro e' h
  cases e' with
  | nil => exact False.elim h
  | mk d' kid' =>
  obtain ⟨h0, h1, h2, h3, h4, h5, h6, h7⟩ := h
  exact ⟨h0.symm, h1.symm, h2.symm, h3.symm, h4.symm, h5.symm, h6.symm, fun i hi => ih i (h7 i (by omega))⟩
theorem PT.same.trans {e : PT} : ∀ {e' e'' : PT}, e.same e' → e'.same e'' → e.same e'' := by
 induction e with
 | nil => exact fun h => False.elim h
 | mk d kid ih =>
  intro e' e'' h k
  cases e' with
  | nil => exact False.elim h
  | mk d' kid' =>
  cases e'' with
  | nil => exact False.elim k
  | mk d'' kid'' =>
  obtain ⟨h0, h1, h2, h3, h4, h5, h6, h7⟩ := h
  obtain ⟨k0, k1, k2, k3, k4, k5, k6, k7⟩ := k
  exact ⟨h0.trans k0, h1.trans k1, h2.trans k2, h3.trans k3, h4.trans k4, h5.trans k5, h6.trans k6, fun i hi => ih i (h7 i hi) (k7 i (by omega))⟩
theorem pOk_imp {e : PT} : ∀ {e' : PT} {deep : Int}, e.same e' → pOk e deep → pOk e' deep := by
 induction e with
 | nil => exact fun h => False.elim h
 | mk d kid ih =>
  intro e' deep h
  cases e' with
  | nil => exact False.elim h
  | mk d' kid' =>
  obtain ⟨h0, h1, h2, h3, h4, h5, h6, h7⟩ := h
  exact fun hh => ⟨hh.1, NodeP.same h0 h1 h2 h3 h4 h5 h6 hh.2.1, fun i hi => ih i (h7 i (by omega)) (hh.2.2 i (by omega))⟩
theorem psz_same {e : PT} : ∀ {e' : PT}, e.same e' → psz e = psz e' := by
 induction e with
 | nil => exact fun h => False.elim h
 | mk d kid ih =>
  intro e' h
  cases e' with
  | nil => exact False.elim h
  | mk d' kid' =>
  obtain ⟨h0, h1, h2, h3, h4, h5, h6, h7⟩ := h
  show ownP d + sumN d.n _ = ownP d' + sumN d'.n _
  have e1 : ownP d = ownP d' := by
   unfold ownP
   rw [h0, esz_same h3]
  rw [e1, ← h6, sumN_congr fun i hi => ih i (h7 i hi)]
theorem pV_same {e : PT} : ∀ {e' : PT} {l : List (List Int)}, e.same e' → pV e l = pV e' l := by
 induction e with
 | nil => exact fun h => False.elim h
 | mk d kid ih =>
  intro e' l h
  cases e' with
  | nil => exact False.elim h
  | mk d' kid' =>
  obtain ⟨h0, h1, h2, h3, h4, h5, h6, h7⟩ := h
  show foldN d.n _ (addV (eV d.e (ptV d.p l)) d.v.b) = foldN d'.n _ (addV (eV d'.e (ptV d'.p l)) d'.v.b)
  rw [← h6, ← h4, ptV_same h2, eV_same h3]
  exact foldN_congr (fun i hi a => ih i (h7 i hi)) _
theorem planOk_same {e e' : PT} (h : e.same e') : planOk e ↔ planOk e' := by
 unfold planOk
 rw [psz_same h, pV_same h]
 exact and_congr_left fun _ => ⟨pOk_imp h, pOk_imp h.symm⟩
theorem WN.low {w w' : World} {g j : Nat} (h : WN w g j) (hg : g < w.heap.size) (hb : Bl w w') : WN w' g j := by
 obtain ⟨⟨v, hv⟩, hf⟩ := h
 exact ⟨⟨v, (hb.cell (p := ⟨g, j, none⟩) hg).trans hv⟩, (hb.frozen (p := ⟨g, j, none⟩) hg).trans hf⟩
theorem TxM.low {B C : Nat} {w w' : World} {a : Option Addr} {len : Nat} (h : TxM B C w a len) (hC : C ≤ w.heap.size) (hb : Bl w w') : TxM B C w' a len := by
 refine ⟨h.1, ?_⟩
 rcases h.2 with h | ⟨g, ha, hB, hlt, hx⟩
 · exact .inl h
 have hg : g < w.heap.size := Nat.lt_of_lt_of_le hlt hC
 refine .inr ⟨g, ha, hB, hlt, fun i hi => ⟨?_, (hb.frozen (p := ⟨g, i, none⟩) hg).trans (hx i hi).2⟩⟩
 obtain ⟨v, hv⟩ := (hx i hi).1
 exact ⟨v, (hb.cell (p := ⟨g, i, none⟩) hg).trans hv⟩
theorem EM.low {B C : Nat} {w w' : World} {g o : Nat} {d : EN} (h : EM B C w g o d) (hC : C ≤ w.heap.size) (hb : Bl w w') : EM B C w' g o d := by
 have hg : g < w.heap.size := Nat.lt_of_lt_of_le h.hC hC
 exact ⟨h.hB, h.hC, h.n0.low hg hb, h.n1.low hg hb, h.n3.low hg hb, h.n5.low hg hb, h.n6.low hg hb, (hb.cell (p := ⟨g, _, none⟩) hg).trans h.s2, h.t2.low hC hb, (hb.cell (p := ⟨g, _, none⟩) hg).trans h.s4, h.t4.low hC hb, (hb.cell (p := ⟨g, _, none⟩) hg).trans h.s7⟩
theorem KM.low {B C : Nat} {w w' : World} {e : ET} (h : KM B C w e) (hC : C ≤ w.heap.size) (hb : Bl w w') : KM B C w' e := by
 induction e with
 | nil => exact trivial
 | mk d kid ih =>
  rcases h with h | ⟨g, ha, hx⟩
  · exact .inl h
  exact .inr ⟨g, ha, fun i hi => ⟨(hx i hi).1.low hC hb, ih i (hx i hi).2⟩⟩
theorem TE.low {B C : Nat} {w w' : World} {g o : Nat} {d : TB} (h : TE B C w g o d) (hC : C ≤ w.heap.size) (hb : Bl w w') : TE B C w' g o d := by
 have hg : g < w.heap.size := Nat.lt_of_lt_of_le h.hC hC
 exact ⟨h.hB, h.hC, h.n0.low hg hb, h.n2.low hg hb, h.n3.low hg hb, (hb.cell (p := ⟨g, _, none⟩) hg).trans h.s1, h.t1.low hC hb⟩
theorem TsX.low {B C : Nat} {w w' : World} {a : Option Addr} {n : Nat} {kid : Nat → TB} (h : TsX B C w a n kid) (hC : C ≤ w.heap.size) (hb : Bl w w') : TsX B C w' a n kid := by
 rcases h with h | ⟨g, ha, hx⟩
 · exact .inl h
 exact .inr ⟨g, ha, fun i hi => ⟨(hx i hi).1.low hC hb, trivial⟩⟩
theorem PM.low {B C : Nat} {w w' : World} {g o : Nat} {d : PB} (h : PM B C w g o d) (hC : C ≤ w.heap.size) (hb : Bl w w') : PM B C w' g o d := by
 have hg : g < w.heap.size := Nat.lt_of_lt_of_le h.hC hC
 exact ⟨h.hB, h.hC, h.n1.low hg hb, h.n3.low hg hb, h.n4.low hg hb, h.n6.low hg hb, h.n8.low hg hb, h.n9.low hg hb, h.n11.low hg hb, h.n13.low hg hb, h.n14.low hg hb, (hb.cell (p := ⟨g, _, none⟩) hg).trans h.s0, h.t0.low hC hb, (hb.cell (p := ⟨g, _, none⟩) hg).trans h.s2, h.t2.low hC hb, (hb.cell (p := ⟨g, _, none⟩) hg).trans h.s5, h.t5.low hC hb, (hb.cell (p := ⟨g, _, none⟩) hg).trans h.s7, h.t7.low hC hb, (hb.cell (p := ⟨g, _, none⟩) hg).trans h.s10, h.t10.low hC hb, (hb.cell (p := ⟨g, _, none⟩) hg).trans h.s12, h.t12.low hC hb⟩
theorem PX.low {B C : Nat} {w w' : World} {a : Option Addr} {n : Nat} {kid : Nat → PB} (h : PX B C w a n kid) (hC : C ≤ w.heap.size) (hb : Bl w w') : PX B C w' a n kid := by
 rcases h with h | ⟨g, ha, hx⟩
 · exact .inl h
 exact .inr ⟨g, ha, fun i hi => ⟨(hx i hi).1.low hC hb, trivial⟩⟩
theorem AM.low {B C : Nat} {w w' : World} {g o : Nat} {d : AN} (h : AM B C w g o d) (hC : C ≤ w.heap.size) (hb : Bl w w') : AM B C w' g o d := by
 have hg : g < w.heap.size := Nat.lt_of_lt_of_le h.hC hC
 exact ⟨h.hB, h.hC, h.n0.low hg hb, h.n2.low hg hb, h.n3.low hg hb, h.n5.low hg hb, h.n7.low hg hb, h.n8.low hg hb, (hb.cell (p := ⟨g, _, none⟩) hg).trans h.s4, h.t4.low hC hb, (hb.cell (p := ⟨g, _, none⟩) hg).trans h.s6, h.t6.low hC hb, (hb.cell (p := ⟨g, _, none⟩) hg).trans h.s10, h.t10.low hC hb, (hb.cell (p := ⟨g, _, none⟩) hg).trans h.s1, (hb.cell (p := ⟨g, _, none⟩) hg).trans h.s9, (hb.cell (p := ⟨g, _, none⟩) hg).trans h.s11, (hb.cell (p := ⟨g, _, none⟩) hg).trans h.s12, h.pe.low hC hb, h.ke.low hC hb, h.te.low hC hb⟩
theorem BM.low {B C : Nat} {w w' : World} {e : AT} (h : BM B C w e) (hC : C ≤ w.heap.size) (hb : Bl w w') : BM B C w' e := by
 induction e with
 | nil => exact trivial
 | mk d kid ih =>
  rcases h with h | ⟨g, ha, hx⟩
  · exact .inl h
  exact .inr ⟨g, ha, fun i hi => ⟨(hx i hi).1.low hC hb, ih i (hx i hi).2⟩⟩
theorem EMk.low {B C : Nat} {w w' : World} {e : ET} (h : EMk B C w e) (hC : C ≤ w.heap.size) (hb : Bl w w') : EMk B C w' e := ⟨h.v.low hC hb, h.t.low hC hb, h.k.low hC hb, h.l⟩
theorem AMk.low {B C : Nat} {w w' : World} {y : AT} (h : AMk B C w y) (hC : C ≤ w.heap.size) (hb : Bl w w') : AMk B C w' y := ⟨h.p.low hC hb, h.e.low hC hb, h.v.low hC hb, h.t.low hC hb, h.k.low hC hb, h.pl, h.tl, h.kl⟩
theorem Bgp1.plan {p p' : PB} {z : AT} (h : Bgp1 p' z) (s : p.same p') : Bgp1 p z := by
 cases z with
 | nil => exact False.elim h
 | mk a ak =>
  obtain ⟨a1, a2, a3, a4⟩ := h
  exact ⟨a1, a2, s.trans a3, a4⟩
theorem Mean.plan {e : PT} : ∀ {e' : PT} {y : AT} {deep : Int}, Mean e' y → e.same e' → pOk e' deep → Mean e y := by
 induction e with
 | nil => intro e' y _ _ s; cases e' <;> exact False.elim s
 | mk d kid ih =>
  intro e' y deep h s hp
  cases e' with
  | nil => exact False.elim s
  | mk d' kid' =>
   cases y with
   | nil => exact False.elim h
   | mk a ak =>
    obtain ⟨s1, s2, s3, s4, s5, s6, s7, s8⟩ := s
    obtain ⟨a1, a2, a3, a4, a5⟩ := h
    obtain ⟨_, hN, hk⟩ := hp
    refine ⟨a1, s4.trans a2, s5.trans a3, s6.trans a4, ?_⟩
    rcases a5 with ⟨c1, c2, c3, c4, c5⟩ | ⟨c1, c2, c3, c4, c5⟩
    · exact .inl ⟨by rw [s1]; exact c1, fun h => c2 (by rw [← s1]; exact h), fun h => (c3 (by rw [← s1]; exact h)).trans s1.symm, c4.trans s7.symm, fun i hi => ih i (c5 i (by omega)) (s8 i hi) (hk i (by omega))⟩
    have hn : d'.n = 1 := by have h := hN.n; rw [c1] at h; exact h
    exact .inr ⟨s1.trans c1, c2, c3, ih 0 c4 (s8 0 (by omega)) (hk 0 (by omega)), c5.plan s3⟩
theorem MeanA.plan {e e' : PT} {y : AT} {q : Bool} (s : e.same e') (h : MeanA e' y q) : MeanA e y q := by
 rcases h with ⟨h1, h2, h3⟩ | ⟨h1, h2, h3⟩
 · exact .inl ⟨h1, (planOk_same s).2 h2, h3.plan s h2.1⟩
 exact .inr ⟨h1, fun h => h2 ((planOk_same s).1 h), h3⟩
theorem MeanA.uniq {e : PT} {a g : AT} {q q' : Bool} {w w' : World} (ha : MeanA e a q) (hg : MeanA e g q') (la : a.lies 0 w) (lg : g.lies 0 w') : q' = q ∧ g.same a := by
 rcases ha with ⟨h1, h2, h3⟩ | ⟨h1, h2, h3⟩
 · rcases hg with ⟨k1, k2, k3⟩ | ⟨k1, k2, k3⟩
   · exact ⟨k1.trans h1.symm, Mean.uniq lg la k3 h3⟩
   exact absurd h2 k2
 rcases hg with ⟨k1, k2, k3⟩ | ⟨k1, k2, k3⟩
 · exact absurd k2 h2
 subst h3 k3
 exact ⟨k1.trans h1.symm, rfl, rfl, fun i hi => absurd hi nN, ET.same.refl (ET0_ow 0 w).l, rfl, rfl, rfl, fun i hi => absurd hi nN⟩
theorem MeanA.wt {e : PT} {y : AT} {q : Bool} {w w' : World} (h : MeanA e y q) (he : e.lies 0 w) (hy : y.lies 0 w') (hw : e.wt ≤ 1048576) : y.wt ≤ 3145728 := by
 rcases h with ⟨h1, h2, h3⟩ | ⟨h1, h2, h3⟩
 · have := h3.wt h2.1 he hy
   omega
 subst h3
 show 0 ≤ 3145728
 omega
end Go.Proofs.YtoloadogihbdeaaGreat
