import Derived.Test.YtoloadogihbdeaaGreatMk36
namespace Go.Proofs.YtoloadogihbdeaaGreat
open Go.RowKit Go.Deep
set_option maxHeartbeats 40000000
set_option maxRecDepth 100000
theorem meaning_1 (d : PN) (kid : Nat → PT) (deep : Int) (w : World) (h : (PT.mk d kid).lies 0 w) (hp : pOk (PT.mk d kid) deep) (h0 : d.n ≠ 0)
 (IH : ∀ i, i < d.n → ∀ W, Bl w W → Calls Tryz.prog 65 #[.agg (kid i).d.ar] W fun r w' => ∃ y : AT, r = .returned (.agg y.d.ar) ∧ y.ow W.heap.size w' ∧ Cp W.heap.size w'.heap.size y.fp ∧ Mean (kid i) y ∧ Bl W w') :
 Calls Tryz.prog 65 #[.agg d.ar] w fun r w' => ∃ y : AT, r = .returned (.agg y.d.ar) ∧ y.ow w.heap.size w' ∧ Cp w.heap.size w'.heap.size y.fp ∧ Mean (PT.mk d kid) y ∧ Bl w w' := by
 try unfold AN.ar
 try unfold PN.ar
 obtain ⟨hpl, he, hv, ht, htn, hn, hR, hk⟩ := h
 obtain ⟨_, hN, hkid⟩ := hp
 have HP := iH (fun W (hb : Bl w W) => patCopied d.p W (hpl.upper (uB hb)))
 have HEX := iH (fun W (hb : Bl w W) => exprCopied d.e W (ET.lies.upper (uB hb) he))
 have HV := iH (fun W (hb : Bl w W) => clone_own d.v W (hv.upper (uB hb)))
 have HTS := iH (fun W (hb : Bl w W) => termsCopied d.ta d.tc d.tb W htn (ht.upper (uB hb)))
 have HI : Hd (∀ i, i < d.n → ∀ W, Bl w W → Cl 65 #[.agg (kid i).d.ar] W fun r w' => ∃ y : AT, r = .returned (.agg y.d.ar) ∧ y.ow W.heap.size w' ∧ Cp W.heap.size w'.heap.size y.fp ∧ Mean (kid i) y ∧ Bl W w') := fun i hi W hb => IH i hi W hb
 have HND := iH hN
 have HEL := iH he.ne
 have HTN := iH htn
 obtain ⟨b, off, hka, _, hlt, hc⟩ := hR.resolve_left h0
 have HC0 := iH hc
 have hkk : d.k ≠ 7 ∧ d.k ≠ 8 := by
  have h1 := hN.n
  unfold kidsP at h1
  by_cases hh : d.k = 7 ∨ d.k = 8
  · rw [if_pos hh] at h1
    omega
  omega
 rw [hka]
 clear hR hc hka h0
 have HNN := iH hn
 have HX := iH ((Box.new w (wA d.k d.ord d.p d.e.d d.v (.slice d.ta d.tb.length d.tc) (.slice (some ⟨b, off, none⟩) d.n d.kc)) 46 (0, 0)).below (bl_a (.cells zGa 52)))
 have HO : Hd (OB ((w.alloc (.cells (wA d.k d.ord d.p d.e.d d.v (.slice d.ta d.tb.length d.tc) (.slice (some ⟨b, off, none⟩) d.n d.kc)) 46)).alloc (.cells zGa 52)) (w.heap.size + 1) zGl) := (show OB _ _ _ by have h := OB.new (w.alloc (.cells (wA d.k d.ord d.p d.e.d d.v (.slice d.ta d.tb.length d.tc) (.slice (some ⟨b, off, none⟩) d.n d.kc)) 46)) zGa 52; simpa using h)
 have HB : Hd (Bl w ((w.alloc (.cells (wA d.k d.ord d.p d.e.d d.v (.slice d.ta d.tb.length d.tc) (.slice (some ⟨b, off, none⟩) d.n d.kc)) 46)).alloc (.cells zGa 52))) := bl_alloc (bl_a _) _
 clear hpl he hv ht htn hk hN hkid IH
 go_in
 go_upto_region 1 with fail
 generalize ((w.alloc _).alloc _) = W1 at *
 have HG : Hd (w.heap.size + 1 < W1.heap.size) := HO.o.1
 have c6 := HX.o.2 27 _ rfl
 go_wp2_with fail
 clear c6
 go_loopw [3, 9] (fun o i wr => ∃ (j : Nat) (v : Value) (k' : Nat → AT), j ≤ d.n ∧ v = o ∧ i = .int .i64 j ∧ Hd (RowO 52 13 W1 wr v j (fun i => (k' i).d.cells) (fun i => (k' i).fp)) ∧ Hd (∀ i, i < j → (k' i).ow W1.heap.size wr) ∧ Hd (∀ i, i < j → Mean (kid i) (k' i)))
  (fun _ i _ => d.n - (intOf i).toNat)
 case atStart => exact ⟨0, _, fun _ => .nil, nZ, rfl, rfl, RowO.nil _ _ _ _ brf, fun i hi => absurd hi nN, fun i hi => absurd hi nN⟩
 obtain ⟨j, v, k', hj, rfl, rfl, HR, HKO, HKM⟩ := hrel
 by_cases hlj : j < d.n
 · have hcx : wr.rangeAt b (off + j * 28) (kid j).d.cl := fun c u hu => ((bl_trans HB.o HR.o.bel).cell (p := ⟨b, off + j * 28 + c, none⟩) hlt).trans (HC0.o j hlj c u hu)
   have hth : (wr.alloc (.cells zNa 46)).there wr.heap.size 0 28 := (OB.new wr zNa 46).there 0 28 (by simp)
   have one1 : ((kid j).d.ar : Array Value).all (·.oneCell') = true := all_oneCell_toArray (cs := (kid j).d.cl) (by simp [Value.oneCell'])
   have HXk : Hd (Box ((wr.alloc (.cells zNa 46)).setCells wr.heap.size 0 (kid j).d.cl) wr.heap.size (kid j).d.cl) := ((OB.new wr zNa 46).put (kid j).d.cl 0 (kid j).d.cl (by simp) rfl).box
   have HBl : Hd (Bl wr ((wr.alloc (.cells zNa 46)).setCells wr.heap.size 0 (kid j).d.cl)) := below_sets (w0 := wr) wr.heap.size nR (kid j).d.cl 0 _ (bl_a _)
   go_wp2_with (first | (with_reducible refine wpv_at ?_; refine wpList_load_mid rfl 46 _ rfl _ _ rfl (kid j).d.cl _ hcx Tryz.underlying46 rfl (by kernel_rfl) ?_; try simp only [Act.put, sA, zA, cA]) | (with_reducible refine wpv_at ?_; refine store_stopV 46 (.tmp 5) (.tmp 12) rfl ?_))
   change wpList _ _ _ _ _ _
   refine wpList_store_mid rfl 46 _ _ rfl wr.heap.size 0 (kid j).d.ar rfl rfl hth (by kernel_rfl) one1 ?_
   try simp only [Act.put]
   generalize ((wr.alloc (.cells zNa 46)).setCells wr.heap.size 0 (kid j).d.cl) = W2 at *
   clear hcx hth one1
   have lp : W2.rangeAt wr.heap.size 0 (kid j).d.cl := HXk.o.range 0 _ rfl
   go_wp2_with (with_reducible refine wpv_at ?_; refine wpList_load_mid rfl 46 _ rfl _ _ rfl (kid j).d.cl _ lp Tryz.underlying46 rfl (by kernel_rfl) ?_; try simp only [Act.put, sA, zA, cA])
   refine (HI.o j hlj _ (bl_trans (bl_trans HB.o HR.o.bel) HBl.o)).mono ?_
   rintro e w2 ⟨y, rfl, hy, hcp, hsm, hb2⟩
   have HY := iH hy
   have HCP := iH hcp
   have HSM := iH hsm
   have HB2 := iH (bl_trans HBl.o hb2)
   have hsz : W2.heap.size ≤ w2.heap.size := hb2.size
   have HSW := iH HBl.o.size
   have HOB := iH (HR.o.below (bl_trans HB2.o (bl_a (w := w2) (.cells y.d.ar 52))))
   have HOW := iH HOB.o.own
   clear hy hcp hsm hb2 lp HXk HBl
   have HN : Hd (∀ j u, (y.d.cl : List Value)[j]? = some u → (w2.alloc (.cells y.d.ar 52)).cell? ((⟨w2.heap.size, 0, none⟩ : Addr).add j) = some u) := fun j u hu => World.news_of_block (Go.heap_alloc_new _ _) j u hu
   have H1 : Hd (∀ u ∈ (y.d.cl : List Value), u.oneCell' = true) := (show ∀ u ∈ (y.d.cl : List Value), u.oneCell' = true by intro u hu; simp only [List.mem_cons, List.not_mem_nil, or_false] at hu; rcases hu with rfl | rfl | rfl | rfl | rfl | rfl | rfl | rfl | rfl | rfl | rfl | rfl | rfl <;> rfl)
   have hBB : W1.heap.size ≤ (w2.alloc (.cells y.d.ar 52)).heap.size := HOB.o.bel.size
   obtain ⟨kn, hk1, hk2⟩ : ∃ kn : Nat → AT, (∀ i, i < j → kn i = k' i) ∧ kn j = y := ⟨fun i => if i = j then y else k' i, fun i hi => if_neg (by omega), if_pos rfl⟩
   have HK1 := iH hk1
   have HK2 := iH hk2
   have HC1 : Hd (∀ i, i < j → (fun i => (kn i).d.cells) i = (fun i => (k' i).d.cells) i) := fun i hi => (show (kn i).d.cells = _ by rw [HK1.o i hi])
   have HC2 : Hd ((fun i => (kn i).d.cells) j = y.d.cl) := (show (kn j).d.cells = _ by rw [HK2.o]; rfl)
   clear hk1 hk2
   go_wp2_with (with_reducible refine wpv_at ?_; refine app_stopC (.tmp 13) (.tmp 16) 50 rfl ?_)
   change wpList _ _ _ _ _ _
   refine appC rfl (.tmp 13) (.tmp 16) 50 52 13 216 (.agg zGa) rfl Tryz.underlying50 infoA13 rfl (by omega) (by omega) W1.heap.size _ j (fun i => (k' i).d.cells) rfl HOW ⟨w2.heap.size, 0, none⟩ 1 y.d.cl rfl rfl HN H1 (by have := HNN.o; omega) hBB (fun i => (kn i).d.cells) HC1 HC2 ?_
   intro g9 c9 w9 HO9 HA9 HG9 HD9
   go_wp2
   go_roundw
   case rel =>
    have hgr := HG9.o
    have hst : ∀ L : List Nat, (∀ q ∈ L, q < w2.heap.size) → (∀ g, v.ownBlock = some g → g ∉ L) → Stay L w2 w9 := fun L h1 h2 => ⟨fun q hq => (hgr.block q (by have := h1 q hq; simp; omega) (fun e => h2 q e.symm hq)).trans ((bl_a (w := w2) (.cells y.d.ar 52)).block q (h1 q hq)), Nat.le_trans (bl_a (w := w2) (.cells y.d.ar 52)).size hgr.size⟩
    refine ⟨j + 1, _, kn, by omega, rfl, by go_num, ?_, ?_, ?_⟩
    · refine RowO.add (w1 := wr) (m := W2.heap.size) (w2 := w2) (v := v) (L := y.fp) (f := (fun i => (k' i).fp)) (C := (fun i => (k' i).d.cells)) HR.o HSW.o HCP.o hsz (HOB.o.bel.trans HD9.o) HO9.o (HA9.o.imp id fun e => by rw [e]; simp) (Nat.le_trans (bl_a (w := w2) (.cells y.d.ar 52)).size hgr.size) (fun i hi => ?_) ?_
      · show (kn i).fp = _
        rw [HK1.o i hi]
      show (kn j).fp = _
      rw [HK2.o]
    · intro i hi
      by_cases e : i = j
      · rw [e, HK2.o]
        refine AT.ow.keep (w := w2) (HY.o.base (Nat.le_trans HR.o.bel.size HSW.o)) (hst _ (fun q hq => (HCP.o.i q hq).2) fun g hg hm => ?_)
        have z1 := (HCP.o.i g hm).1
        have z2 := (HR.o.own.blk g hg).2
        have z3 := HSW.o
        omega
      rw [HK1.o i (by omega)]
      have hm : ∀ q, q ∈ (k' i).fp → q ∈ catB (fun i => (k' i).fp) j := fun q hq => catB_mem (f := (fun i => (k' i).fp)) (by omega) hq
      exact (AT.ow.keep (w := w2) ((HKO.o i (by omega)).upper (uB HB2.o)) (hst _ (fun q hq => Nat.lt_of_lt_of_le (HR.o.cp.i q (hm q hq)).2 (Nat.le_trans HSW.o hsz)) fun g hg hq => HR.o.o g hg (hm g hq)))
    intro i hi
    by_cases e : i = j
    · rw [e, HK2.o]
      exact HSM.o
    rw [HK1.o i (by omega)]
    exact HKM.o i (by omega)
   case measure => simp [intOf]; omega
 obtain rfl : j = d.n := by omega
 obtain ⟨a', c', rfl, hcc, hK, hZ, hCp⟩ := HR.o.fin
 have HKR := iH hK
 have HZR := iH hZ
 have HCR := iH hCp
 have HXR := iH (HX.o.below HR.o.bel)
 have HOR := iH (HO.o.below HR.o.bel)
 have HBR := iH (bl_trans HB.o HR.o.bel)
 have HWR := iH HR.o.bel.size
 clear hK hZ hCp hcc HI hj hlj HC0
 have c0 := HXR.o.2 0 _ rfl
 by_cases h0 : d.k = 0
 · have HK := iH h0
   clear hkk
   have lp : wr.rangeAt w.heap.size 2 d.p.cl := HXR.o.range 2 _ rfl
   go_wp2_with (with_reducible refine wpv_at ?_; refine ldr rfl rfl rfl Tryz.underlying39 lp rfl ?_; try simp only [Act.put, sA, zA, cA])
   refine (HP.o _ HBR.o).mono ?_
   rintro e w2 ⟨y, rfl, hy, hcp, hsm, hb2⟩
   have HY := iH hy
   have HCP := iH hcp
   have HSM := iH hsm
   have HB2 := iH hb2
   have HOR2 := iH (HOR.o.below hb2)
   have HBR2 := iH (bl_trans HBR.o hb2)
   clear hy hcp hsm hb2 lp HOR HBR HXR
   have HB3 : Hd (Bl w2 ((w2.alloc (.cells y.ar 39)).alloc (.cells #[.int .i64 0, .slice (some ⟨w2.heap.size, 0, none⟩) 1 1, .int .i64 0, .int .i64 0, .slice none 0 0, .int .i64 0, .slice none 0 0, .int .i64 0, .int .i64 0, .slice none 0 0, .slice none 0 0, .slice none 0 0, .slice none 0 0] 52))) := bl_alloc (bl_a _) _
   have HRo := iH (HR.o.below HB2.o)
   have HOW := iH (HRo.o.below HB3.o).own
   have HN : Hd (∀ j u, ([.int .i64 0, .slice (some ⟨w2.heap.size, 0, none⟩) 1 1, .int .i64 0, .int .i64 0, .slice none 0 0, .int .i64 0, .slice none 0 0, .int .i64 0, .int .i64 0, .slice none 0 0, .slice none 0 0, .slice none 0 0, .slice none 0 0] : List Value)[j]? = some u → ((w2.alloc (.cells y.ar 39)).alloc (.cells #[.int .i64 0, .slice (some ⟨w2.heap.size, 0, none⟩) 1 1, .int .i64 0, .int .i64 0, .slice none 0 0, .int .i64 0, .slice none 0 0, .int .i64 0, .int .i64 0, .slice none 0 0, .slice none 0 0, .slice none 0 0, .slice none 0 0] 52)).cell? ((⟨w2.heap.size + 1, 0, none⟩ : Addr).add j) = some u) := fun j u hu => (by have h := World.news_of_block (w := ((w2.alloc (.cells y.ar 39)).alloc (.cells #[.int .i64 0, .slice (some ⟨w2.heap.size, 0, none⟩) 1 1, .int .i64 0, .int .i64 0, .slice none 0 0, .int .i64 0, .slice none 0 0, .int .i64 0, .int .i64 0, .slice none 0 0, .slice none 0 0, .slice none 0 0, .slice none 0 0] 52))) (B := (w2.alloc (.cells y.ar 39)).heap.size) (Go.heap_alloc_new _ _) j u hu; simpa using h)
   have H1 : Hd (∀ u ∈ ([.int .i64 0, .slice (some ⟨w2.heap.size, 0, none⟩) 1 1, .int .i64 0, .int .i64 0, .slice none 0 0, .int .i64 0, .slice none 0 0, .int .i64 0, .int .i64 0, .slice none 0 0, .slice none 0 0, .slice none 0 0, .slice none 0 0] : List Value), u.oneCell' = true) := (show ∀ u ∈ ([.int .i64 0, .slice (some ⟨w2.heap.size, 0, none⟩) 1 1, .int .i64 0, .int .i64 0, .slice none 0 0, .int .i64 0, .slice none 0 0, .int .i64 0, .int .i64 0, .slice none 0 0, .slice none 0 0, .slice none 0 0, .slice none 0 0] : List Value), u.oneCell' = true by intro u hu; simp only [List.mem_cons, List.not_mem_nil, or_false] at hu; rcases hu with rfl | rfl | rfl | rfl | rfl | rfl | rfl | rfl | rfl | rfl | rfl | rfl | rfl <;> rfl)
   have HPX : Hd (Box ((w2.alloc (.cells y.ar 39)).alloc (.cells #[.int .i64 0, .slice (some ⟨w2.heap.size, 0, none⟩) 1 1, .int .i64 0, .int .i64 0, .slice none 0 0, .int .i64 0, .slice none 0 0, .int .i64 0, .int .i64 0, .slice none 0 0, .slice none 0 0, .slice none 0 0, .slice none 0 0] 52)) w2.heap.size y.cl ∧ ∀ j, j < 15 → ((w2.alloc (.cells y.ar 39)).alloc (.cells #[.int .i64 0, .slice (some ⟨w2.heap.size, 0, none⟩) 1 1, .int .i64 0, .int .i64 0, .slice none 0 0, .int .i64 0, .slice none 0 0, .int .i64 0, .int .i64 0, .slice none 0 0, .slice none 0 0, .slice none 0 0, .slice none 0 0] 52)).frozen? ⟨w2.heap.size, j, none⟩ = false) := ⟨(Box.new w2 y.ar 39 (0, 0)).below (bl_a _), fun j hj => ((bl_a (w := (w2.alloc (.cells y.ar 39))) (.cells #[.int .i64 0, .slice (some ⟨w2.heap.size, 0, none⟩) 1 1, .int .i64 0, .int .i64 0, .slice none 0 0, .int .i64 0, .slice none 0 0, .int .i64 0, .int .i64 0, .slice none 0 0, .slice none 0 0, .slice none 0 0, .slice none 0 0] 52)).frozen (p := ⟨w2.heap.size, j, none⟩) (by simp)).trans (((OB.new w2 y.ar 39).2 j _ (List.getElem?_eq_getElem (l := (y.cl : List Value)) (by simpa using hj))).2)⟩
   have HSZ : Hd (((w2.alloc (.cells y.ar 39)).alloc (.cells #[.int .i64 0, .slice (some ⟨w2.heap.size, 0, none⟩) 1 1, .int .i64 0, .int .i64 0, .slice none 0 0, .int .i64 0, .slice none 0 0, .int .i64 0, .int .i64 0, .slice none 0 0, .slice none 0 0, .slice none 0 0, .slice none 0 0] 52)).heap.size = w2.heap.size + 1 + 1) := (show _ = _ by simp)
   have hBB : W1.heap.size ≤ ((w2.alloc (.cells y.ar 39)).alloc (.cells #[.int .i64 0, .slice (some ⟨w2.heap.size, 0, none⟩) 1 1, .int .i64 0, .int .i64 0, .slice none 0 0, .int .i64 0, .slice none 0 0, .int .i64 0, .int .i64 0, .slice none 0 0, .slice none 0 0, .slice none 0 0, .slice none 0 0] 52)).heap.size := (HRo.o.below HB3.o).bel.size
   obtain ⟨z, hz⟩ : ∃ z : AT, z = AT.mk ⟨0, some ⟨w2.heap.size, 0, none⟩, 1, 1, fun _ => y, ET0, SL0, none, 0, [], none, 0, 0⟩ (fun _ => .nil) := ⟨_, rfl⟩
   obtain ⟨kn, hk1, hk2⟩ : ∃ kn : Nat → AT, (∀ i, i < d.n → kn i = k' i) ∧ kn d.n = z := ⟨fun i => if i = d.n then z else k' i, fun i hi => if_neg (by omega), if_pos rfl⟩
   have HZ := iH hz
   have HK1 := iH hk1
   have HK2 := iH hk2
   have HC1 : Hd (∀ i, i < d.n → (fun i => (kn i).d.cells) i = (fun i => (k' i).d.cells) i) := fun i hi => (show (kn i).d.cells = _ by rw [HK1.o i hi])
   have HC2 : Hd ((fun i => (kn i).d.cells) d.n = [.int .i64 0, .slice (some ⟨w2.heap.size, 0, none⟩) 1 1, .int .i64 0, .int .i64 0, .slice none 0 0, .int .i64 0, .slice none 0 0, .int .i64 0, .int .i64 0, .slice none 0 0, .slice none 0 0, .slice none 0 0, .slice none 0 0]) := (show (kn d.n).d.cells = _ by rw [HK2.o, HZ.o]; rfl)
   clear hk1 hk2 hz
   go_wp2_with (with_reducible refine wpv_at ?_; refine app_stopC (.tmp 26) (.tmp 32) 50 rfl ?_)
   generalize hW4 : ((w2.alloc (.cells y.ar 39)).alloc (.cells #[.int .i64 0, .slice (some ⟨w2.heap.size, 0, none⟩) 1 1, .int .i64 0, .int .i64 0, .slice none 0 0, .int .i64 0, .slice none 0 0, .int .i64 0, .int .i64 0, .slice none 0 0, .slice none 0 0, .slice none 0 0, .slice none 0 0] 52)) = W4 at *
   clear hW4
   change wpList _ _ _ _ _ _
   refine appC rfl (.tmp 26) (.tmp 32) 50 52 13 216 (.agg zGa) rfl Tryz.underlying50 infoA13 rfl (by omega) (by omega) W1.heap.size _ d.n (fun i => (k' i).d.cells) rfl HOW ⟨w2.heap.size + 1, 0, none⟩ 1 [.int .i64 0, .slice (some ⟨w2.heap.size, 0, none⟩) 1 1, .int .i64 0, .int .i64 0, .slice none 0 0, .int .i64 0, .slice none 0 0, .int .i64 0, .int .i64 0, .slice none 0 0, .slice none 0 0, .slice none 0 0, .slice none 0 0] rfl rfl HN H1 (by have := HNN.o; omega) hBB (fun i => (kn i).d.cells) HC1 HC2 ?_
   intro g9 c9 w9 HO9 HA9 HG9 HD9
   have hgr := HG9.o
   have HST : Hd (∀ L : List Nat, (∀ q ∈ L, q < w2.heap.size + 1) → (∀ g, (Value.slice a' d.n c').ownBlock = some g → g ∉ L) → Stay L W4 w9) := fun L h1 h2 => ⟨fun q hq => hgr.block q (by have := h1 q hq; have := HSZ.o; omega) (fun e => h2 q e.symm hq), hgr.size⟩
   have HZM : ∀ q ∈ z.fp, q = w2.heap.size ∨ q ∈ y.fp := fun q hq => by
    rw [HZ.o] at hq
    have h3 : q ∈ (([w2.heap.size] ++ ([] ++ y.fp)) ++ [] ++ [] ++ ([] ++ []) ++ ([] ++ [])) := hq
    simp only [List.nil_append, List.append_nil, List.singleton_append] at h3
    exact List.mem_cons.1 h3
   have hcp : Cp wr.heap.size W4.heap.size z.fp := by
    refine ⟨?_, fun q hq => ?_⟩
    · rw [HZ.o]
      show (([w2.heap.size] ++ ([] ++ y.fp)) ++ [] ++ [] ++ ([] ++ []) ++ ([] ++ [])).Nodup
      simp only [List.nil_append, List.append_nil, List.singleton_append]
      exact List.nodup_cons.2 ⟨fun hm => by have := (HCP.o.i _ hm).2; omega, HCP.o.nd⟩
    have hs := HSZ.o
    have hb := HB2.o.size
    rcases HZM q hq with e | e
    · omega
    have := HCP.o.i q e
    omega
   have HRF := iH (RowO.add (w1 := wr) (m := wr.heap.size) (w2 := W4) (v := .slice a' d.n c') (L := z.fp) (f := (fun i => (k' i).fp)) (C := (fun i => (k' i).d.cells)) (C' := (fun i => (kn i).d.cells)) (f' := (fun i => (kn i).fp)) HR.o nR hcp (Nat.le_trans HB2.o.size HB3.o.size) (bl_trans (bl_trans HR.o.bel HB2.o) HB3.o |>.trans HD9.o) HO9.o (HA9.o.imp id fun e => Nat.le_of_eq e.symm) hgr.size (fun i hi => (by show (kn i).fp = _; rw [HK1.o i hi])) (by show (kn d.n).fp = _; rw [HK2.o]))
   have HOK : Hd (∀ i, i < d.n → (k' i).ow W1.heap.size w9) := fun i hi => by
    have hm : ∀ q, q ∈ (k' i).fp → q ∈ catB (fun i => (k' i).fp) d.n := fun q hq => catB_mem (f := (fun i => (k' i).fp)) hi hq
    exact AT.ow.keep (w := W4) (((HKO.o i hi).upper (uB HB2.o)).upper (uB HB3.o)) (HST.o _ (fun q hq => by have := (HR.o.cp.i q (hm q hq)).2; have := HB2.o.size; omega) fun g hg hq => HR.o.o g hg (hm g hq))
   have HOZ : Hd (z.ow W1.heap.size w9) := by
    have hpo : y.own W1.heap.size W4 := (HY.o.base HWR.o).upper (uB HB3.o)
    have hs := HSZ.o
    have hz1 : W1.heap.size ≤ w2.heap.size := Nat.le_trans HWR.o HB2.o.size
    refine AT.ow.keep (w := W4) ?_ (HST.o _ (fun q hq => (HZM q hq).elim (fun e => by omega) fun e => by have := (HCP.o.i q e).2; omega) fun g hg hq => by have := (hcp.i g hq).1; have := (HR.o.own.blk g hg).2; omega)
    rw [HZ.o]
    have hrow : KRow W1.heap.size W4 15 (some ⟨w2.heap.size, 0, none⟩) 1 (fun _ => y.cells) := .inr ⟨w2.heap.size, 0, rfl, hz1, by omega, fun i hi c u hu => by obtain rfl : i = 0 := (by omega); simpa using HPX.o.1.2 c u hu⟩
    have hfr : RoZ W1.heap.size W4 (some ⟨w2.heap.size, 0, none⟩) 1 15 := .inr ⟨w2.heap.size, rfl, .inr ⟨hz1, by omega, fun j hj => HPX.o.2 j (by omega)⟩⟩
    exact ⟨⟨hrow, fun i hi => hpo.lies, (by show 1 ≤ 1048576; omega), (ET0_ow _ _).l, (SL0_own _ _).1, TRow0 _ _, nZ, nZ, .inl rfl, fun i hi => absurd hi nN⟩, ⟨hfr, fun i hi => hpo, (ET0_ow _ _).z, .inl rfl, ⟨.inl rfl, fun x hx => by cases hx⟩, .inl rfl, fun i hi => absurd hi nN⟩⟩
   have HO5 := iH ((HOR2.o.below HB3.o).bel9 HD9.o HG.o)
   have HB5 : Hd (Bl w w9) := bl_trans HBR2.o HB3.o |>.trans (HD9.o.mono (by have := HG.o; omega))
   clear HZM hcp hgr HOR2 HBR2 HN H1 HPX HOW HST HRo
   have hst : w9.there (w.heap.size + 1) 0 13 := HO5.o.there 0 13 (by simp)
   have on : (#[.int .i64 1, .slice none 0 0, .int .i64 0, .int .i64 0, .slice none 0 0, .int .i64 0, .slice none 0 0, .int .i64 0, .int .i64 0, .slice none 0 0, .slice none 0 0, .slice none 0 0, .slice (some ⟨g9, 0, none⟩) (d.n + 1) c9] : Array Value).all (·.oneCell') = true := all_oneCell_toArray (cs := [.int .i64 1, .slice none 0 0, .int .i64 0, .int .i64 0, .slice none 0 0, .int .i64 0, .slice none 0 0, .int .i64 0, .int .i64 0, .slice none 0 0, .slice none 0 0, .slice none 0 0, .slice (some ⟨g9, 0, none⟩) (d.n + 1) c9]) (by simp [Value.oneCell'])
   have hrd : (w9.setCells (w.heap.size + 1) 0 [.int .i64 1, .slice none 0 0, .int .i64 0, .int .i64 0, .slice none 0 0, .int .i64 0, .slice none 0 0, .int .i64 0, .int .i64 0, .slice none 0 0, .slice none 0 0, .slice none 0 0, .slice (some ⟨g9, 0, none⟩) (d.n + 1) c9]).rangeAt (w.heap.size + 1) 0 [.int .i64 1, .slice none 0 0, .int .i64 0, .int .i64 0, .slice none 0 0, .int .i64 0, .slice none 0 0, .int .i64 0, .int .i64 0, .slice none 0 0, .slice none 0 0, .slice none 0 0, .slice (some ⟨g9, 0, none⟩) (d.n + 1) c9] := World.rangeAt_setCells_same _ _ _ _ hst
   have hbf := iH (below_sets (w0 := w) (w.heap.size + 1) (by omega) [.int .i64 1, .slice none 0 0, .int .i64 0, .int .i64 0, .slice none 0 0, .int .i64 0, .slice none 0 0, .int .i64 0, .int .i64 0, .slice none 0 0, .slice none 0 0, .slice none 0 0, .slice (some ⟨g9, 0, none⟩) (d.n + 1) c9] 0 w9 HB5.o)
   have hsf : Hd ((w9.setCells (w.heap.size + 1) 0 [.int .i64 1, .slice none 0 0, .int .i64 0, .int .i64 0, .slice none 0 0, .int .i64 0, .slice none 0 0, .int .i64 0, .int .i64 0, .slice none 0 0, .slice none 0 0, .slice none 0 0, .slice (some ⟨g9, 0, none⟩) (d.n + 1) c9]).heap.size = w9.heap.size) := (but_sets (w.heap.size + 1) [.int .i64 1, .slice none 0 0, .int .i64 0, .int .i64 0, .slice none 0 0, .int .i64 0, .slice none 0 0, .int .i64 0, .int .i64 0, .slice none 0 0, .slice none 0 0, .slice none 0 0, .slice (some ⟨g9, 0, none⟩) (d.n + 1) c9] 0 w9).size
   have huf : Hd (Upper (w.heap.size + 1 + 1) w9 (w9.setCells (w.heap.size + 1) 0 [.int .i64 1, .slice none 0 0, .int .i64 0, .int .i64 0, .slice none 0 0, .int .i64 0, .slice none 0 0, .int .i64 0, .int .i64 0, .slice none 0 0, .slice none 0 0, .slice none 0 0, .slice (some ⟨g9, 0, none⟩) (d.n + 1) c9])) := upper_sets (w.heap.size + 1) [.int .i64 1, .slice none 0 0, .int .i64 0, .int .i64 0, .slice none 0 0, .int .i64 0, .slice none 0 0, .int .i64 0, .int .i64 0, .slice none 0 0, .slice none 0 0, .slice none 0 0, .slice (some ⟨g9, 0, none⟩) (d.n + 1) c9] 0 w9
   go_wp2_with (with_reducible refine wpv_at ?_; refine store_stopV 52 (.tmp 2) (.tmp 34) rfl ?_)
   change wpList _ _ _ _ _ _
   refine wpList_store_mid rfl 52 _ _ rfl (w.heap.size + 1) 0 #[.int .i64 1, .slice none 0 0, .int .i64 0, .int .i64 0, .slice none 0 0, .int .i64 0, .slice none 0 0, .int .i64 0, .int .i64 0, .slice none 0 0, .slice none 0 0, .slice none 0 0, .slice (some ⟨g9, 0, none⟩) (d.n + 1) c9] rfl rfl hst (by kernel_rfl) on ?_
   try simp only [Act.put]
   generalize w9.setCells (w.heap.size + 1) 0 [.int .i64 1, .slice none 0 0, .int .i64 0, .int .i64 0, .slice none 0 0, .int .i64 0, .slice none 0 0, .int .i64 0, .int .i64 0, .slice none 0 0, .slice none 0 0, .slice none 0 0, .slice (some ⟨g9, 0, none⟩) (d.n + 1) c9] = W5 at *
   go_wp2
   try simp only [Exit.inBlock, Exit.then]
   refine bodyPost_ret (v := .agg #[.int .i64 1, .slice none 0 0, .int .i64 0, .int .i64 0, .slice none 0 0, .int .i64 0, .slice none 0 0, .int .i64 0, .int .i64 0, .slice none 0 0, .slice none 0 0, .slice none 0 0, .slice (some ⟨g9, 0, none⟩) (d.n + 1) c9]) ?hrn rfl ?hpn
   case hrn => exact results_cell rfl rfl (run_loadVar_mid (P := Tryz.prog) _ (w.heap.size + 1) 0 52 [.int .i64 1, .slice none 0 0, .int .i64 0, .int .i64 0, .slice none 0 0, .int .i64 0, .slice none 0 0, .int .i64 0, .int .i64 0, .slice none 0 0, .slice none 0 0, .slice none 0 0, .slice (some ⟨g9, 0, none⟩) (d.n + 1) c9] _ hrd Tryz.underlying52 rfl (by kernel_rfl))
   obtain ⟨a7, c7, e7, _, hK7, hZ7, hC7⟩ := HRF.o.fin
   injection e7 with e71 e72 e73
   subst e71
   have hw1 : w.heap.size ≤ W1.heap.size := by have := HG.o; omega
   have HU1 : Upper W1.heap.size _ W5 := huf.o.mono HG.o
   have hE := HND.o.e0 (by rw [HK.o]; unfold hasE; decide)
   have hV := HND.o.v0 (by rw [HK.o]; unfold hasV; decide)
   have hT := HND.o.t0 (by rw [HK.o]; decide)
   have h1 : d.n = 1 := by have h := HND.o.n; rw [HK.o] at h; exact h
   have hO5 : ∀ i, i < d.n + 1 → (kn i).ow w.heap.size W5 := fun i hi => by
    by_cases e : i = d.n
    · rw [e, HK2.o]
      exact (HOZ.o.upper HU1).base hw1
    rw [HK1.o i (by omega)]
    exact ((HOK.o i (by omega)).upper HU1).base hw1
   refine ⟨AT.mk ⟨1, none, 0, 0, AN0.pat, ET0, SL0, none, 0, [], some ⟨g9, 0, none⟩, c9, d.n + 1⟩ kn, rfl, ⟨⟨.inl rfl, fun i hi => absurd hi nN, nZ, (ET0_ow _ _).l, (SL0_own _ _).1, TRow0 _ _, nZ, (by show d.n + 1 ≤ 1048576; omega), (hK7.upper HU1).base hw1, fun i hi => (hO5 i hi).l⟩, ⟨.inl rfl, fun i hi => absurd hi nN, (ET0_ow _ _).z, .inl rfl, ⟨.inl rfl, fun x hx => by cases hx⟩, (hZ7.upper HU1).base hw1, fun i hi => (hO5 i hi).z⟩⟩, ?_, ⟨rfl, zeroE_two HEL.o (fun h => by cases h) hE ET0_zero, hV, by rw [hT], .inr ⟨HK.o, rfl, (by show d.n + 1 = 2; omega), ?_, ?_⟩⟩, hbf.o⟩
   · exact ⟨hC7.nd, fun q hq => ⟨Nat.le_trans hw1 (hC7.i q hq).1, by rw [hsf.o]; exact (hC7.i q hq).2⟩⟩
   · have h := HKM.o 0 (by omega)
     rw [← HK1.o 0 (by omega)] at h
     exact h
   have e : kn 1 = z := by rw [← h1]; exact HK2.o
   rw [e, HZ.o]
   exact ⟨rfl, rfl, HSM.o, ET0_zero, rfl, rfl, rfl⟩
 have h8 : ¬ d.k = 8 := hkk.2
 have HK8 := iH h8
 have HK0 := iH h0
 clear hkk
 clear HX HO HB
 have HX := HXR
 have HO := HOR
 have HB := HBR
 clear HXR HOR HBR HR
 go_wp2_with fail
 refine wqd (fun w' => Bl w w' ∧ Box w' w.heap.size (wL d.k d.ord d.p d.e.d d.v (.slice d.ta d.tb.length d.tc) (.slice (some ⟨b, off, none⟩) d.n d.kc))) ?_ fun hHeld => ?_
 · exact ⟨Below.drew HB.o, HX.o.below bdr⟩
 refine tqB 0 35 ?_
 refine tqB 1 36 (v := .int .i64 d.k) (hy := by intro w' hSw; have c0 := hSw.2.2 0 _ rfl; go_simp; (try with_reducible rfl)) ?_
 refine tqB 2 37 ?_
 refine ldq 3 38 Tryz.underlying42 (fun w' h => h.2.range 17 d.e.d.cl rfl) ?_
 refine tqB 5 40 ?_
 refine tqB 6 41 (v := .slice d.v.a d.v.len d.v.cap) (hy := by intro w' hSw; have c0 := hSw.2.2 25 _ rfl; go_simp; (try with_reducible rfl)) ?_
 refine tqB 8 43 ?_
 refine tqB 9 44 (v := .slice d.ta d.tb.length d.tc) (hy := by intro w' hSw; have c0 := hSw.2.2 26 _ rfl; go_simp; (try with_reducible rfl)) ?_
 refine tqB 11 46 (v := .slice a' d.n c') ?_
 refine rqA 4 fun K hK => ?_
 go_simp
 refine (HEX.o _ hHeld.1).mono ?_
 rintro r w2 ⟨y1, rfl, hy, hc, he, hb2⟩
 have HBn := iH (bl_trans (Below.drew HB.o) hb2)
 have HXn := iH ((HX.o.below bdr).below hb2)
 have HOn := iH ((HO.o.below bdr).below hb2)
 have HZn : Hd (Bl wr w2) := (show Below _ _ _ from bl_trans bdr hb2)
 have HC : Hd (Cp wr.heap.size w2.heap.size (y1.fp)) := hc
 have HY1 : Hd (y1.ow wr.heap.size w2) := hy
 have HE1 := iH he
 clear hy hc he hb2 hHeld HB HX HO
 have HB := HBn
 have HX := HXn
 have HO := HOn
 have HZ := HZn
 clear HBn HXn HOn HZn
 go_wp2_with fail
 refine hK.out _ _ ?_ fun hHeld => ?_
 · exact ⟨HB.o, HX.o⟩
 clear hK K
 try simp only [Act.put, sA, zA, cA]
 refine rqA 7 fun K hK => ?_
 go_simp
 refine (HV.o _ hHeld.1).mono ?_
 rintro r w3 ⟨y2, rfl, hy, hc, he, hb2⟩
 have HBn := iH (bl_trans HB.o hb2)
 have HXn := iH (HX.o.below hb2)
 have HOn := iH (HO.o.below hb2)
 have HZn := iH (bl_trans HZ.o hb2)
 have HCn : Hd (Cp wr.heap.size w3.heap.size (y1.fp ++ y2.fp)) := HC.o.app hc HZ.o.size hb2.size
 have HY1n := iH (HY1.o.upper (uB hb2))
 have HY2 : Hd (y2.own wr.heap.size w3) := hy.base HZ.o.size
 have HE2 := iH he
 clear hy hc he hb2 hHeld HB HX HO HZ HC HY1
 have HB := HBn
 have HX := HXn
 have HO := HOn
 have HZ := HZn
 have HC := HCn
 have HY1 := HY1n
 clear HBn HXn HOn HZn HCn HY1n
 go_wp2_with fail
 refine hK.out _ _ ?_ fun hHeld => ?_
 · exact ⟨HB.o, HX.o⟩
 clear hK K
 try simp only [Act.put, sA, zA, cA]
 refine rqA 10 fun K hK => ?_
 go_simp
 refine (HTS.o _ hHeld.1).mono ?_
 rintro r w4 ⟨y3, rfl, hy, hc, he, hb2⟩
 have HBn := iH (bl_trans HB.o hb2)
 have HXn := iH (HX.o.below hb2)
 have HOn := iH (HO.o.below hb2)
 have HZn := iH (bl_trans HZ.o hb2)
 have HCn : Hd (Cp wr.heap.size w4.heap.size (y1.fp ++ y2.fp ++ tfp y3.a y3.l)) := HC.o.app hc HZ.o.size hb2.size
 have HY1n := iH (HY1.o.upper (uB hb2))
 have HY2n := iH (HY2.o.upper (uB hb2))
 have HY3 : Hd (y3.own wr.heap.size w4) := hy.base HZ.o.size
 have HE3 := iH he
 clear hy hc he hb2 hHeld HB HX HO HZ HC HY1 HY2
 have HB := HBn
 have HX := HXn
 have HO := HOn
 have HZ := HZn
 have HC := HCn
 have HY1 := HY1n
 have HY2 := HY2n
 clear HBn HXn HOn HZn HCn HY1n HY2n
 go_wp2_with fail
 refine hK.out _ _ ?_ fun hHeld => ?_
 · exact ⟨HB.o, HX.o⟩
 clear hK K
 try simp only [Act.put, sA, zA, cA]
 refine tqB 12 47 (v := .agg (gA d.k (.slice none 0 0) y1.d y2 (.slice y3.a y3.l.length y3.c) (.slice a' d.n c'))) ?_
 have st : w4.there (w.heap.size + 1) 0 13 := HO.o.there 0 13 (by simp)
 have on : ((gA d.k (.slice none 0 0) y1.d y2 (.slice y3.a y3.l.length y3.c) (.slice a' d.n c')) : Array Value).all (·.oneCell') = true := all_oneCell_toArray (cs := (gL d.k (.slice none 0 0) y1.d y2 (.slice y3.a y3.l.length y3.c) (.slice a' d.n c'))) (by simp [Value.oneCell'])
 have hrd : (w4.setCells (w.heap.size + 1) 0 (gL d.k (.slice none 0 0) y1.d y2 (.slice y3.a y3.l.length y3.c) (.slice a' d.n c'))).rangeAt (w.heap.size + 1) 0 (gL d.k (.slice none 0 0) y1.d y2 (.slice y3.a y3.l.length y3.c) (.slice a' d.n c')) := World.rangeAt_setCells_same _ _ _ _ st
 have hbf := iH (below_sets (w0 := w) (w.heap.size + 1) (by omega) (gL d.k (.slice none 0 0) y1.d y2 (.slice y3.a y3.l.length y3.c) (.slice a' d.n c')) 0 w4 HB.o)
 have hxf := iH (HX.o.upper (but_sets (w.heap.size + 1) (gL d.k (.slice none 0 0) y1.d y2 (.slice y3.a y3.l.length y3.c) (.slice a' d.n c')) 0 w4) (by omega))
 have hsf : Hd ((w4.setCells (w.heap.size + 1) 0 (gL d.k (.slice none 0 0) y1.d y2 (.slice y3.a y3.l.length y3.c) (.slice a' d.n c'))).heap.size = w4.heap.size) := (but_sets (w.heap.size + 1) (gL d.k (.slice none 0 0) y1.d y2 (.slice y3.a y3.l.length y3.c) (.slice a' d.n c')) 0 w4).size
 have huf : Hd (Upper (w.heap.size + 1 + 1) w4 (w4.setCells (w.heap.size + 1) 0 (gL d.k (.slice none 0 0) y1.d y2 (.slice y3.a y3.l.length y3.c) (.slice a' d.n c')))) := upper_sets (w.heap.size + 1) (gL d.k (.slice none 0 0) y1.d y2 (.slice y3.a y3.l.length y3.c) (.slice a' d.n c')) 0 w4
 refine rqA 13 fun K hK => ?_
 refine step_storeV 52 (w.heap.size + 1) 0 (gA d.k (.slice none 0 0) y1.d y2 (.slice y3.a y3.l.length y3.c) (.slice a' d.n c')) st on ?_
 refine hK.out _ _ ?_ fun hHeld => ?_
 · exact ⟨hbf.o, hxf.o⟩
 clear hK K st on hHeld
 try simp only [Act.put]
 generalize w4.setCells (w.heap.size + 1) 0 (gL d.k (.slice none 0 0) y1.d y2 (.slice y3.a y3.l.length y3.c) (.slice a' d.n c')) = W5 at *
 refine wpAnyH_done (by kernel_rfl) ?_ _
 go_wp2
 try simp only [Exit.inBlock, Exit.then]
 refine bodyPost_ret (v := .agg (gA d.k (.slice none 0 0) y1.d y2 (.slice y3.a y3.l.length y3.c) (.slice a' d.n c'))) ?hr rfl ?hp
 case hr => exact results_cell rfl rfl (run_loadVar_mid (P := Tryz.prog) _ (w.heap.size + 1) 0 52 (gL d.k (.slice none 0 0) y1.d y2 (.slice y3.a y3.l.length y3.c) (.slice a' d.n c')) _ hrd Tryz.underlying52 rfl (by kernel_rfl))
 have hle : w.heap.size ≤ wr.heap.size := by have := HG.o; have := HWR.o; omega
 have HU : Upper wr.heap.size _ W5 := huf.o.mono (by have := HG.o; have := HWR.o; omega)
 have HU1 : Upper W1.heap.size _ W5 := huf.o.mono (by have := HG.o; omega)
 have HY1f := (HY1.o.upper HU).base hle
 have HY2f := (HY2.o.upper HU).base hle
 have HY3f := (HY3.o.upper HU).base hle
 have hl3 : y3.l.length ≤ 1048576 := by have h := congrArg List.length HE3.o; simp at h; have := HTN.o; omega
 have hw1 : w.heap.size ≤ W1.heap.size := by have := HG.o; omega
 have hK5 := ((HKR.o.upper (uB HZ.o)).upper HU1).base hw1
 have hZ5 := ((HZR.o.upper (uB HZ.o)).upper HU1).base hw1
 have hO5 := fun i hi => (((HKO.o i hi).upper (uB HZ.o)).upper HU1).base hw1
 have hC5 := ((HCR.o.app HC.o HWR.o HZ.o.size).mono hw1 (Nat.le_of_eq hsf.o.symm))
 refine ⟨AT.mk ⟨d.k, none, 0, 0, AN0.pat, y1, y2, y3.a, y3.c, y3.l, a', c', d.n⟩ k', rfl, ⟨⟨.inl rfl, fun i hi => absurd hi nN, nZ, HY1f.l, HY2f.1, HY3f.row, hl3, HNN.o, hK5, fun i hi => (hO5 i hi).l⟩, ⟨.inl rfl, fun i hi => absurd hi nN, HY1f.z, HY2f.2, ⟨HY3f.z, HY3f.t⟩, hZ5, fun i hi => (hO5 i hi).z⟩⟩, ?_, ⟨rfl, HE1.o, HE2.o.symm, HE3.o, .inl ⟨HK0.o, fun h => absurd h HK8.o, fun _ => rfl, rfl, HKM.o⟩⟩, hbf.o⟩
 refine ⟨?_, ?_⟩
 · show (([] ++ [] ++ y1.fp ++ y2.fp ++ tfp y3.a y3.l) ++ (rfp a' d.n ++ catB (fun i => (k' i).fp) d.n)).Nodup
   exact (List.perm_append_comm.nodup_iff).1 hC5.nd
 intro b hb
 exact hC5.i b (List.mem_append.2 (List.mem_append.1 hb).symm)
end Go.Proofs.YtoloadogihbdeaaGreat
