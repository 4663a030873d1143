import Derived.Test.YthljoojcpbignaaGreatDoorMk26
import Derived.Test.YthljoojcpbignaaGreatDoorMk01
namespace Go.Proofs.YthljoojcpbignaaGreatDoor
/- UtN1 -/
open Go.RowKit Go.Deep
set_option maxHeartbeats 40000000
set_option maxRecDepth 100000
theorem sayExpr_1 (d : EN) (kid : Nat → ET) (hkv : d.k = 1) (lim deep : Int) (v : Value) (B : Nat) (bs : List Int) (w0 w : World) (hl : (ET.mk d kid).lies 0 w0) (hok : eOk lim (.mk d kid) deep) (HO : Own8 w B v bs.length bs) (hw : Bl w0 w) (_hwB : w0.heap.size ≤ B) (hB : B ≤ w.heap.size) (hn : bs.length + 80 * esz (.mk d kid) ≤ 900000)
   (_IH : ∀ i, i < d.n → SayE 98 w0 B (kid i)) :
   Calls Tryz.prog 98 #[v, .agg d.ar] w (SayK B v (bs ++ eTx (.mk d kid)) w) := by
 try unfold EN.ar
 obtain ⟨hv, ht, hf, hn2, hR, hk⟩ := hl
 obtain ⟨hdp, ⟨hko, hvo, _, hto, _, hop, _⟩, hkid⟩ := hok
 unfold kOk at hko
 rw [hkv] at hko
 obtain ⟨W, hW⟩ : ∃ W, W = w.alloc (.cells (d.ca 1) 100) := ⟨_, rfl⟩
 have hbW : Bl w W := by rw [hW]; exact bl_a _
 have HWE := hid hW
 have HNV := hid HO.off1
 have HBW := hid hbW
 have HS : Hid (SB w0 w W B v v bs (cellsE d 1) W) := ⟨HO.below hbW, Kp.of_below (Below.refl _ _), (show Box _ _ _ by rw [hW]; exact Box.new w (d.ca 1) 100 _), hw.trans (hbW.mono hw.size), Nat.le_trans hB hbW.size, HO.off1⟩
 have htk := hto hkv
 have HLN : Hid (bs.length + 80 ≤ 900000) := (show _ ≤ _ by have h : esz (.mk d kid) = 1 + sumN d.n _ := rfl; omega)
 have HT : Hid (bs ++ d.t.t.show d.t.b ++ [32] = bs ++ eTx (.mk d kid)) := (show _ = _ by rw [eTx_mk, hkv]; simp [tTx])
 have HSL : Hid (1 ≤ (d.t.t.show d.t.b).length ∧ (d.t.t.show d.t.b).length ≤ 64) := Tm.show_len htk
 have SH := hidU (l1show_any d.t.t.k d.t.t.n d.t.t.s d.t.t.a d.t.t.len d.t.t.cap d.t.b W (ht.1.below HS.out.bl) htk)
 rw [hkv]
 clear HO hw hB hbW hR hv ht hf hk hko hvo hto hop hdp hkid hkv hn2 htk
 go_in
 go_upto_region 1 with fail
 rw [← hW]
 clear hW
 have x0 := HS.out.bx.2 0 _ rfl
 have x3 := HS.out.bx.2 3 _ rfl
 have x4 := HS.out.bx.2 4 _ rfl
 have x5 := HS.out.bx.2 5 _ rfl
 have x6 := HS.out.bx.2 6 _ rfl
 go_wp2_with fail
 refine SH.out.mono ?_
 rintro e w1 ⟨g1, c1, rfl, hR1, hb1⟩
 have HS1 := hid (HS.out.below hb1)
 have HOw := hidU HS1.out.own
 have HN1 := hidU (show ∀ j u, ((Tm.show d.t.t d.t.b).map (Value.int .u8))[j]? = some u → w1.cell? ((⟨g1, 0, none⟩ : Addr).add j) = some u from hR1.news)
 have hBw := HS1.out.lo
 have HKW := hid (Kp.pre HBW.out HS1.out.kp)
 obtain ⟨n, hnn⟩ : ∃ n, n = bs.length := ⟨_, rfl⟩
 have hn9 : n + 80 ≤ 900000 := by have h := HLN.out; omega
 obtain ⟨L, hL⟩ : ∃ L, L = Tm.show d.t.t d.t.b := ⟨_, rfl⟩
 have e9 : showL d.t.t.k d.t.t.n d.t.t.s d.t.b = L := hL.symm
 rw [e9]
 rw [← hL] at HN1 HSL HT
 obtain ⟨q, hq⟩ : ∃ q, q = L.length := ⟨_, rfl⟩
 have hq1 : 0 < q := by have h := HSL.out.1; omega
 have hq2 : q ≤ 64 := by have h := HSL.out.2; omega
 have HQ := hid hq.symm
 have HNN := hid hnn
 rw [← hnn] at HOw
 rw [← hq]
 clear hR1 hb1 hq hnn SH HS HS1 x0 x3 x4 x5 x6 hL e9
 go_wp2_with (first
     | (refine app8k rfl (.tmp 16) (.tmp 19) rfl B v n bs rfl HOw ⟨g1, 0, none⟩ q c1 L rfl HQ.out HN1 hq1 (n + q) rfl (bs ++ L) rfl (by omega) hBw ?_; intro g4 c4 w4 HR4 HK4; have HO4 := hidU (HR4.out.below (bl_a (.cells #[.int .u8 32] 5))); have HN4 := hidU (one_news w4 32); have hB4 : B ≤ (w4.alloc (.cells #[.int .u8 32] 5)).heap.size := Nat.le_trans hBw (Nat.le_trans HK4.out.size (by simp)); clear HN1 HOw hBw)
     | (refine app8k rfl (.tmp 20) (.tmp 21) rfl B (.slice (some ⟨g4, 0, none⟩) (n + q) c4) (n + q) (bs ++ L) rfl HO4 ⟨w4.heap.size, 0, none⟩ 1 1 [32] rfl rfl HN4 (by omega) (n + q + 1) rfl (bs ++ L ++ [32]) rfl (by omega) hB4 ?_; intro g5 c5 w5 HR5 HK5; clear HO4 HN4 hB4))
 go_ret
 refine ⟨_, rfl, HR5.out.to HT.out ?_, HKW.out.trans (HK4.out.trans (Kp.pre (bl_a _) HK5.out))⟩
 have h := HR5.out.len
 rw [← HT.out]
 exact h.symm
/- UtN2 -/
theorem sayExpr_2 (d : EN) (kid : Nat → ET) (hkv : d.k = 2) (lim deep : Int) (v : Value) (B : Nat) (bs : List Int) (w0 w : World) (hl : (ET.mk d kid).lies 0 w0) (hok : eOk lim (.mk d kid) deep) (HO : Own8 w B v bs.length bs) (hw : Bl w0 w) (hwB : w0.heap.size ≤ B) (hB : B ≤ w.heap.size) (hn : bs.length + 80 * esz (.mk d kid) ≤ 900000)
   (IH : ∀ i, i < d.n → SayE 98 w0 B (kid i)) :
   Calls Tryz.prog 98 #[v, .agg d.ar] w (SayK B v (bs ++ eTx (.mk d kid)) w) := by
 try unfold EN.ar
 obtain ⟨hv, ht, hf, hn2, hR, hk⟩ := hl
 obtain ⟨hdp, ⟨hko, hvo, _, hto, _, hop, _⟩, hkid⟩ := hok
 unfold kOk at hko
 rw [hkv] at hko
 obtain ⟨W, hW⟩ : ∃ W, W = w.alloc (.cells (d.ca 2) 100) := ⟨_, rfl⟩
 have hbW : Bl w W := by rw [hW]; exact bl_a _
 have HWE := hid hW
 have HNV := hid HO.off1
 have HBW := hid hbW
 have HS : Hid (SB w0 w W B v v bs (cellsE d 2) W) := ⟨HO.below hbW, Kp.of_below (Below.refl _ _), (show Box _ _ _ by rw [hW]; exact Box.new w (d.ca 2) 100 _), hw.trans (hbW.mono hw.size), Nat.le_trans hB hbW.size, HO.off1⟩
 have HN := hid (show d.n = 2 by omega)
 obtain ⟨b, off, eK, _, hbk, hck⟩ := hR.resolve_left (by have h := HN.out; omega)
 have HEK := hid eK
 have HCK := hid hck
 have HKD := hid IH
 have HKL := hid (fun i (hi : i < d.n) => eTx_len (hkid i hi))
 clear eK hck
 have HLN : Hid (bs.length + 80 * (1 + (esz (kid 0) + esz (kid 1))) ≤ 900000) := (show _ ≤ _ by have h : esz (.mk d kid) = 1 + sumN d.n _ := rfl; rw [HN.out] at h; have h2 : sumN 2 (fun i => esz (kid i)) = esz (kid 0) + esz (kid 1) := (by simp [sumN]); omega)
 have HT : Hid (bs ++ [40, 32] ++ eTx (kid 0) ++ [opB d.op, 32] ++ eTx (kid 1) ++ [41, 32] = bs ++ eTx (.mk d kid)) := (show _ = _ by rw [eTx_mk, hkv]; simp)
 have hb0 : 0 < d.n := by have h := HN.out; omega
 have hb1 : 1 < d.n := by have h := HN.out; omega
 have hb1z : (1 : Int) < (d.n : Int) := by have h := HN.out; omega
 have HOP := hid hop
 have HF : Hid (∀ w', (Bl w0 w' ∧ Box w' w.heap.size (cellsE d 2)) → w'.cell? ⟨w.heap.size, 7, none⟩ = some (.slice (some ⟨b, off, none⟩) d.n d.kc) ∧ w'.cell? ⟨w.heap.size, 1, none⟩ = some (.int .i64 d.op) ∧ True) := fun w' hw' => ⟨(by have h := hw'.2.2 7 _ rfl; rw [HEK.out] at h; exact h), hw'.2.2 1 _ rfl, trivial⟩
 have HRG0 : Hid (∀ w', (Bl w0 w' ∧ Box w' w.heap.size (cellsE d 2)) → w'.rangeAt b off (kid 0).d.cl) := fun w' hw' c u hu => (hw'.1.cell (p := ⟨b, off + c, none⟩) hbk).trans (by have h := HCK.out 0 (by have h := HN.out; omega) c u hu; simpa using h)
 rw [hkv]
 clear HO hw hB hbW hR hv ht hf hk hko hvo hto hop hdp hkid hkv hn2 IH
 go_in
 go_upto_region 1 with fail
 rw [← hW]
 clear hW
 have x0 := HS.out.bx.2 0 _ rfl
 have HS0 := hid (HS.out.below bdr)
 go_wp2_with fail
 refine wp_region_held_drew (S := fun w' => Bl w0 w' ∧ Box w' w.heap.size (cellsE d 2)) (by kernel_rfl) ?_ (fun hHeld => ?_)
 · exact ⟨Below.drew HS.out.bl, HS.out.bx.below bdr⟩
 refine tkB 0 25 ?_
 refine tkB 2 27 ?_
 refine tkA 3 28 (v := ?v3) ?y3 ?_
 case y3 => (intro w' hSw; obtain ⟨q1, q2, q3⟩ := HF.out w' hSw; go_simp; (try with_reducible rfl))
 refine tkB 4 29 ?_
 refine takeq (i := 5) 30 (v := .agg (kid 0).d.ar) rfl rfl (by kernel_rfl) (by kernel_rfl) (by kernel_rfl) (fun _ _ _ h => h) (yieldsIf_load_mid (by rfl) 100 _ rfl b off rfl (kid 0).d.cl _ HRG0.out Tryz.underlying100 rfl (by kernel_rfl)) hHeld ?_
 refine tkB 7 32 ?_
 refine tkA 8 33 (v := ?v6) ?y6 ?_
 case y6 => (intro w' hSw; obtain ⟨q1, q2, q3⟩ := HF.out w' hSw; go_simp; (try with_reducible rfl))
 try simp only [Act.put, sA, zA, cA]
 refine rdA 1 fun K hK => ?_
 go_simp
 refine (l4wordK v B (bs) ⟨#[40]⟩ _ HS0.out.own HS0.out.lo (by decide) (by have h := HLN.out; (try simp only [lA, lC, lN]); rw [show (ByteArray.mk #[40]).size = 1 from rfl]; omega)).mono ?_
 rintro e z1 ⟨v1, rfl, hO1, hK1⟩
 have HS1 : Hid (SB w0 w W B v v1 (bs ++ [40, 32]) (cellsE d 2) z1) := HS0.out.step HWE.out HNV.out hwB hO1 hK1
 clear hO1 hK1
 go_wp2_with fail
 refine hK.out _ _ ?_ (fun hHeld => ?_)
 · exact ⟨HS1.out.bl, HS1.out.bx⟩
 clear hK K
 try simp only [Act.put, sA, zA, cA]
 refine rdA 6 fun K hK => ?_
 go_simp
 refine ((HKD.out 0 (by have h := HN.out; omega)) v1 (bs ++ [40, 32]) _ HS1.out.own HS1.out.bl HS1.out.lo (by have h := HLN.out; have h0 := HKL.out 0 (by have h := HN.out; omega); have h1 := HKL.out 1 (by have h := HN.out; omega); simp only [lA, lC, lN]; omega)).mono ?_
 rintro e z2 ⟨v2, rfl, hO2, hK2⟩
 have HS2 := hid (HS1.out.step HWE.out HNV.out hwB hO2 hK2)
 clear hO2 hK2
 go_wp2_with fail
 refine hK.out _ _ ?_ (fun hHeld => ?_)
 · exact ⟨HS2.out.bl, HS2.out.bx⟩
 clear hK K
 try simp only [Act.put, sA, zA, cA]
 refine rdA 9 fun K hK => ?_
 go_simp
 refine (l4op_any d.op _ HOP.out.1 HOP.out.2).mono ?_
 rintro e zo ⟨st, rfl, hst, hsz, hbo⟩
 have HS2o := hid (HS2.out.below hbo)
 have HST : Hid (numsOf st ++ [32] = [opB d.op, 32] ∧ st.size = 1) := ⟨by rw [hst]; rfl, hsz⟩
 clear hst hsz hbo HS2
 go_wp2_with fail
 refine hK.out _ _ ?_ (fun hHeld => ?_)
 · exact ⟨HS2o.out.bl, HS2o.out.bx⟩
 clear hK K
 try simp only [Act.put, sA, zA, cA]
 have HS2 := HS2o
 clear HS2o
 refine rdA 10 fun K hK => ?_
 go_simp
 refine (l4wordK v2 B _ st _ HS2.out.own HS2.out.lo (by rw [HST.out.2]; decide) (by have h := HLN.out; have h0 := HKL.out 0 (by have h := HN.out; omega); rw [HST.out.2]; simp only [lA, lC, lN]; omega)).mono ?_
 rintro e z3 ⟨v3, rfl, hO3, hK3⟩
 have HS3 := hid (HS2.out.step HWE.out HNV.out hwB hO3 hK3)
 clear hO3 hK3
 go_wp2_with fail
 refine hK.out _ _ ?_ (fun hHeld => ?_)
 · exact ⟨HS3.out.bl, HS3.out.bx⟩
 clear hK K
 refine tkB 11 0 ?_
 refine wpAnyH_done (by kernel_rfl) ?_ _
 clear hHeld HF HS0 HS1 HS2 HS
 rw [HST.out.1] at HS3
 have x7 := HS3.out.bx.2 7 _ rfl
 rw [HEK.out] at x7
 have hcx : z3.rangeAt b (off + 8) (kid 1).d.cl := fun c u hu => (HS3.out.bl.cell (p := ⟨b, off + 8 + c, none⟩) hbk).trans (by have h := HCK.out 1 (by have h := HN.out; omega) c u hu; simpa using h)
 go_wp2_with (with_reducible refine wpq_at ?_; refine wpList_load_mid rfl 100 _ rfl b (off + 8) rfl (kid 1).d.cl _ hcx Tryz.underlying100 rfl (by kernel_rfl) ?_; try simp only [Act.put, sA, zA, cA])
 refine ((HKD.out 1 (by have h := HN.out; omega)) v3 _ _ HS3.out.own HS3.out.bl HS3.out.lo (by have h := HLN.out; have h0 := HKL.out 0 (by have h := HN.out; omega); have h1 := HKL.out 1 (by have h := HN.out; omega); simp only [lA, lC, lN]; omega)).mono ?_
 rintro e z4 ⟨v4, rfl, hO4, hK4⟩
 have HS4 := hid (HS3.out.step HWE.out HNV.out hwB hO4 hK4)
 clear hO4 hK4
 clear hcx x7 HS3
 go_wp2_with fail
 refine (l4wordK v4 B _ ⟨#[41]⟩ _ HS4.out.own HS4.out.lo (by decide) (by have h := HLN.out; have h0 := HKL.out 0 (by have h := HN.out; omega); have h1 := HKL.out 1 (by have h := HN.out; omega); (try simp only [lA, lC, lN]); rw [show (ByteArray.mk #[41]).size = 1 from rfl]; omega)).mono ?_
 rintro e z5 ⟨v5, rfl, hO5, hK5⟩
 have HS5 : Hid (SB w0 w W B v v5 (bs ++ [40, 32] ++ eTx (kid 0) ++ [opB d.op, 32] ++ eTx (kid 1) ++ [41, 32]) (cellsE d 2) z5) := HS4.out.step HWE.out HNV.out hwB hO5 hK5
 clear hO5 hK5
 clear HS4
 go_wp2_with fail
 go_ret
 exact ⟨_, rfl, HT.out ▸ HS5.out.own, Kp.pre HBW.out HS5.out.kp⟩
/- UtN3 -/
theorem sayExpr_3 (d : EN) (kid : Nat → ET) (hkv : d.k = 3) (lim deep : Int) (v : Value) (B : Nat) (bs : List Int) (w0 w : World) (hl : (ET.mk d kid).lies 0 w0) (hok : eOk lim (.mk d kid) deep) (HO : Own8 w B v bs.length bs) (hw : Bl w0 w) (hwB : w0.heap.size ≤ B) (hB : B ≤ w.heap.size) (hn : bs.length + 80 * esz (.mk d kid) ≤ 900000)
   (IH : ∀ i, i < d.n → SayE 98 w0 B (kid i)) :
   Calls Tryz.prog 98 #[v, .agg d.ar] w (SayK B v (bs ++ eTx (.mk d kid)) w) := by
 try unfold EN.ar
 obtain ⟨hv, ht, hf, hn2, hR, hk⟩ := hl
 obtain ⟨hdp, ⟨hko, hvo, _, hto, _, hop, _⟩, hkid⟩ := hok
 unfold kOk at hko
 rw [hkv] at hko
 obtain ⟨W, hW⟩ : ∃ W, W = w.alloc (.cells (d.ca 3) 100) := ⟨_, rfl⟩
 have hbW : Bl w W := by rw [hW]; exact bl_a _
 have HWE := hid hW
 have HNV := hid HO.off1
 have HBW := hid hbW
 have HS : Hid (SB w0 w W B v v bs (cellsE d 3) W) := ⟨HO.below hbW, Kp.of_below (Below.refl _ _), (show Box _ _ _ by rw [hW]; exact Box.new w (d.ca 3) 100 _), hw.trans (hbW.mono hw.size), Nat.le_trans hB hbW.size, HO.off1⟩
 have HN := hid (show d.n = 1 by omega)
 obtain ⟨b, off, eK, _, hbk, hck⟩ := hR.resolve_left (by have h := HN.out; omega)
 have HEK := hid eK
 have HCK := hid hck
 have HKD := hid IH
 have HKL := hid (fun i (hi : i < d.n) => eTx_len (hkid i hi))
 clear eK hck
 have HLN : Hid (bs.length + 80 * (1 + esz (kid 0)) ≤ 900000) := (show _ ≤ _ by have h : esz (.mk d kid) = 1 + sumN d.n _ := rfl; rw [HN.out] at h; have h2 : sumN 1 (fun i => esz (kid i)) = esz (kid 0) := (by simp [sumN]); omega)
 have HT : Hid (bs ++ [78, 79, 84, 32] ++ eTx (kid 0) = bs ++ eTx (.mk d kid)) := (show _ = _ by rw [eTx_mk, hkv]; simp)
 have hb0 : 0 < d.n := by have h := HN.out; omega
 have HF : Hid (∀ w', (Bl w0 w' ∧ Box w' w.heap.size (cellsE d 3)) → w'.cell? ⟨w.heap.size, 7, none⟩ = some (.slice (some ⟨b, off, none⟩) d.n d.kc) ∧ w'.cell? ⟨w.heap.size, 1, none⟩ = some (.int .i64 d.op) ∧ True) := fun w' hw' => ⟨(by have h := hw'.2.2 7 _ rfl; rw [HEK.out] at h; exact h), hw'.2.2 1 _ rfl, trivial⟩
 have HRG0 : Hid (∀ w', (Bl w0 w' ∧ Box w' w.heap.size (cellsE d 3)) → w'.rangeAt b off (kid 0).d.cl) := fun w' hw' c u hu => (hw'.1.cell (p := ⟨b, off + c, none⟩) hbk).trans (by have h := HCK.out 0 (by have h := HN.out; omega) c u hu; simpa using h)
 rw [hkv]
 clear HO hw hB hbW hR hv ht hf hk hko hvo hto hop hdp hkid hkv hn2 IH
 go_in
 go_upto_region 1 with fail
 rw [← hW]
 clear hW
 have x0 := HS.out.bx.2 0 _ rfl
 have HS0 := hid (HS.out.below bdr)
 go_wp2_with fail
 refine wp_region_held_drew (S := fun w' => Bl w0 w' ∧ Box w' w.heap.size (cellsE d 3)) (by kernel_rfl) ?_ (fun hHeld => ?_)
 · exact ⟨Below.drew HS.out.bl, HS.out.bx.below bdr⟩
 refine tkB 0 45 ?_
 refine tkB 2 47 ?_
 refine tkA 3 48 (v := ?v10) ?y10 ?_
 case y10 => (intro w' hSw; obtain ⟨q1, q2, q3⟩ := HF.out w' hSw; go_simp; (try with_reducible rfl))
 refine tkB 4 49 ?_
 refine takeq (i := 5) 50 (v := .agg (kid 0).d.ar) rfl rfl (by kernel_rfl) (by kernel_rfl) (by kernel_rfl) (fun _ _ _ h => h) (yieldsIf_load_mid (by rfl) 100 _ rfl b off rfl (kid 0).d.cl _ HRG0.out Tryz.underlying100 rfl (by kernel_rfl)) hHeld ?_
 try simp only [Act.put, sA, zA, cA]
 refine rdA 1 fun K hK => ?_
 go_simp
 refine (l4wordK v B (bs) _ _ HS0.out.own HS0.out.lo (by decide) (by have h := HLN.out; (try simp only [lA, lC, lN]); rw [show (ByteArray.mk #[78, 79, 84]).size = 3 from rfl]; omega)).mono ?_
 rintro e z1 ⟨v1, rfl, hO1, hK1⟩
 have HS1 : Hid (SB w0 w W B v v1 (bs ++ [78, 79, 84, 32]) (cellsE d 3) z1) := HS0.out.step HWE.out HNV.out hwB hO1 hK1
 clear hO1 hK1
 go_wp2_with fail
 refine hK.out _ _ ?_ (fun hHeld => ?_)
 · exact ⟨HS1.out.bl, HS1.out.bx⟩
 clear hK K
 try simp only [Act.put, sA, zA, cA]
 refine rdA 6 fun K hK => ?_
 go_simp
 refine ((HKD.out 0 (by have h := HN.out; omega)) v1 _ _ HS1.out.own HS1.out.bl HS1.out.lo (by have h := HLN.out; have h0 := HKL.out 0 (by have h := HN.out; omega); simp only [lA, lC, lN]; omega)).mono ?_
 rintro e z2 ⟨v2, rfl, hO2, hK2⟩
 have HS2 := hid (HS1.out.step HWE.out HNV.out hwB hO2 hK2)
 clear hO2 hK2
 go_wp2_with fail
 refine hK.out _ _ ?_ (fun hHeld => ?_)
 · exact ⟨HS2.out.bl, HS2.out.bx⟩
 clear hK K
 refine tkB 7 4 ?_
 refine wpAnyH_done (by kernel_rfl) ?_ _
 clear hHeld HF HS0 HS1 HS
 go_wp2_with fail
 go_ret
 exact ⟨_, rfl, HT.out ▸ HS2.out.own, Kp.pre HBW.out HS2.out.kp⟩
/- UtN4 -/
theorem sayExpr_4 (d : EN) (kid : Nat → ET) (hkv : d.k = 4) (lim deep : Int) (v : Value) (B : Nat) (bs : List Int) (w0 w : World) (hl : (ET.mk d kid).lies 0 w0) (hok : eOk lim (.mk d kid) deep) (HO : Own8 w B v bs.length bs) (hw : Bl w0 w) (hwB : w0.heap.size ≤ B) (hB : B ≤ w.heap.size) (hn : bs.length + 80 * esz (.mk d kid) ≤ 900000)
   (_IH : ∀ i, i < d.n → SayE 98 w0 B (kid i)) :
   Calls Tryz.prog 98 #[v, .agg d.ar] w (SayK B v (bs ++ eTx (.mk d kid)) w) := by
 try unfold EN.ar
 obtain ⟨hv, ht, hf, hn2, hR, hk⟩ := hl
 obtain ⟨hdp, ⟨hko, hvo, _, hto, _, hop, _⟩, hkid⟩ := hok
 unfold kOk at hko
 rw [hkv] at hko
 obtain ⟨W, hW⟩ : ∃ W, W = w.alloc (.cells (d.ca 4) 100) := ⟨_, rfl⟩
 have hbW : Bl w W := by rw [hW]; exact bl_a _
 have HWE := hid hW
 have HNV := hid HO.off1
 have HBW := hid hbW
 have HS : Hid (SB w0 w W B v v bs (cellsE d 4) W) := ⟨HO.below hbW, Kp.of_below (Below.refl _ _), (show Box _ _ _ by rw [hW]; exact Box.new w (d.ca 4) 100 _), hw.trans (hbW.mono hw.size), Nat.le_trans hB hbW.size, HO.off1⟩
 have hnm := hvo (.inr hkv)
 have HVX : Hid (BsF 0 w0 d.v ∧ d.v.b ≠ [] ∧ d.v.len ≤ 12) := ⟨hv, name_pos hnm, (by have h := (name_len hnm).2; have h2 := hv.1.1; omega)⟩
 have HLN : Hid (bs.length + 80 ≤ 900000) := (show _ ≤ _ by have h : esz (.mk d kid) = 1 + sumN d.n _ := rfl; omega)
 have HT : Hid (bs ++ [66, 79, 85, 78, 68, 32] ++ 63 :: (d.v.b ++ [32]) = bs ++ eTx (.mk d kid)) := (show _ = _ by rw [eTx_mk, hkv]; simp [vTx])
 have HF : Hid (∀ w', (Bl w0 w' ∧ Box w' w.heap.size (cellsE d 4)) → w'.cell? ⟨w.heap.size, 2, none⟩ = some (.slice d.v.a d.v.len d.v.cap) ∧ True ∧ True) := fun w' hw' => ⟨hw'.2.2 2 _ rfl, trivial, trivial⟩
 rw [hkv]
 clear HO hw hB hbW hR hv ht hf hk hko hvo hto hop hdp hkid hkv hn2 hnm
 go_in
 go_upto_region 1 with fail
 rw [← hW]
 clear hW
 have x0 := HS.out.bx.2 0 _ rfl
 have HS0 := hid (HS.out.below bdr)
 go_wp2_with fail
 refine wp_region_held_drew (S := fun w' => Bl w0 w' ∧ Box w' w.heap.size (cellsE d 4)) (by kernel_rfl) ?_ (fun hHeld => ?_)
 · exact ⟨Below.drew HS.out.bl, HS.out.bx.below bdr⟩
 refine tkB 0 54 ?_
 refine tkB 2 56 ?_
 refine tkA 3 57 (v := ?v15) ?y15 ?_
 case y15 => (intro w' hSw; obtain ⟨q1, q2, q3⟩ := HF.out w' hSw; go_simp; (try with_reducible rfl))
 try simp only [Act.put, sA, zA, cA]
 refine rdA 1 fun K hK => ?_
 go_simp
 refine (l4wordK v B (bs) _ _ HS0.out.own HS0.out.lo (by decide) (by have h := HLN.out; (try simp only [lA, lC, lN]); rw [show (ByteArray.mk #[66, 79, 85, 78, 68]).size = 5 from rfl]; omega)).mono ?_
 rintro e z1 ⟨v1, rfl, hO1, hK1⟩
 have HS1 : Hid (SB w0 w W B v v1 (bs ++ [66, 79, 85, 78, 68, 32]) (cellsE d 4) z1) := HS0.out.step HWE.out HNV.out hwB hO1 hK1
 clear hO1 hK1
 go_wp2_with fail
 refine hK.out _ _ ?_ (fun hHeld => ?_)
 · exact ⟨HS1.out.bl, HS1.out.bx⟩
 clear hK K
 try simp only [Act.put, sA, zA, cA]
 refine rdA 4 fun K hK => ?_
 go_simp
 refine (l4sayVarK v1 B _ d.v w0 _ HS1.out.own HVX.out.1 HS1.out.bl hwB HS1.out.lo HVX.out.2.1 (by have h := HLN.out; have h2 := HVX.out.2.2; simp only [lA, lC, lN]; omega)).mono ?_
 rintro e z2 ⟨v2, rfl, hO2, hK2⟩
 have HS2 := hid (HS1.out.step HWE.out HNV.out hwB hO2 hK2)
 clear hO2 hK2
 go_wp2_with fail
 refine hK.out _ _ ?_ (fun hHeld => ?_)
 · exact ⟨HS2.out.bl, HS2.out.bx⟩
 clear hK K
 refine tkB 5 4 ?_
 refine wpAnyH_done (by kernel_rfl) ?_ _
 clear hHeld HF HS0 HS1 HS
 go_wp2_with fail
 go_ret
 exact ⟨_, rfl, HT.out ▸ HS2.out.own, Kp.pre HBW.out HS2.out.kp⟩
/- UtN5 -/
theorem sayExpr_5 (d : EN) (kid : Nat → ET) (hkv : d.k = 5) (lim deep : Int) (v : Value) (B : Nat) (bs : List Int) (w0 w : World) (hl : (ET.mk d kid).lies 0 w0) (hok : eOk lim (.mk d kid) deep) (HO : Own8 w B v bs.length bs) (hw : Bl w0 w) (hwB : w0.heap.size ≤ B) (hB : B ≤ w.heap.size) (hn : bs.length + 80 * esz (.mk d kid) ≤ 900000)
   (IH : ∀ i, i < d.n → SayE 98 w0 B (kid i)) :
   Calls Tryz.prog 98 #[v, .agg d.ar] w (SayK B v (bs ++ eTx (.mk d kid)) w) := by
 try unfold EN.ar
 obtain ⟨hv, ht, hf, hn2, hR, hk⟩ := hl
 obtain ⟨hdp, ⟨hko, hvo, _, hto, _, hop, _⟩, hkid⟩ := hok
 unfold kOk at hko
 rw [hkv] at hko
 obtain ⟨W, hW⟩ : ∃ W, W = w.alloc (.cells (d.ca 5) 100) := ⟨_, rfl⟩
 have hbW : Bl w W := by rw [hW]; exact bl_a _
 have HWE := hid hW
 have HNV := hid HO.off1
 have HBW := hid hbW
 have HS : Hid (SB w0 w W B v v bs (cellsE d 5) W) := ⟨HO.below hbW, Kp.of_below (Below.refl _ _), (show Box _ _ _ by rw [hW]; exact Box.new w (d.ca 5) 100 _), hw.trans (hbW.mono hw.size), Nat.le_trans hB hbW.size, HO.off1⟩
 have HN := hid (show d.n = 3 by omega)
 obtain ⟨b, off, eK, _, hbk, hck⟩ := hR.resolve_left (by have h := HN.out; omega)
 have HEK := hid eK
 have HCK := hid hck
 have HKD := hid IH
 have HKL := hid (fun i (hi : i < d.n) => eTx_len (hkid i hi))
 clear eK hck
 have HLN : Hid (bs.length + 80 * (1 + (esz (kid 0) + esz (kid 1) + esz (kid 2))) ≤ 900000) := (show _ ≤ _ by have h : esz (.mk d kid) = 1 + sumN d.n _ := rfl; rw [HN.out] at h; have h2 : sumN 3 (fun i => esz (kid i)) = esz (kid 0) + esz (kid 1) + esz (kid 2) := (by simp [sumN]); omega)
 have HT : Hid (bs ++ [73, 70, 32] ++ eTx (kid 0) ++ eTx (kid 1) ++ eTx (kid 2) = bs ++ eTx (.mk d kid)) := (show _ = _ by rw [eTx_mk, hkv]; simp)
 have hb0 : 0 < d.n := by have h := HN.out; omega
 have hb1 : 1 < d.n := by have h := HN.out; omega
 have hb1z : (1 : Int) < (d.n : Int) := by have h := HN.out; omega
 have hb2 : 2 < d.n := by have h := HN.out; omega
 have hb2z : (2 : Int) < (d.n : Int) := by have h := HN.out; omega
 have HF : Hid (∀ w', (Bl w0 w' ∧ Box w' w.heap.size (cellsE d 5)) → w'.cell? ⟨w.heap.size, 7, none⟩ = some (.slice (some ⟨b, off, none⟩) d.n d.kc) ∧ w'.cell? ⟨w.heap.size, 1, none⟩ = some (.int .i64 d.op) ∧ True) := fun w' hw' => ⟨(by have h := hw'.2.2 7 _ rfl; rw [HEK.out] at h; exact h), hw'.2.2 1 _ rfl, trivial⟩
 have HRG0 : Hid (∀ w', (Bl w0 w' ∧ Box w' w.heap.size (cellsE d 5)) → w'.rangeAt b off (kid 0).d.cl) := fun w' hw' c u hu => (hw'.1.cell (p := ⟨b, off + c, none⟩) hbk).trans (by have h := HCK.out 0 (by have h := HN.out; omega) c u hu; simpa using h)
 have HRG1 : Hid (∀ w', (Bl w0 w' ∧ Box w' w.heap.size (cellsE d 5)) → w'.rangeAt b (off + 8) (kid 1).d.cl) := fun w' hw' c u hu => (hw'.1.cell (p := ⟨b, (off + 8) + c, none⟩) hbk).trans (by have h := HCK.out 1 (by have h := HN.out; omega) c u hu; simpa using h)
 have HRG2 : Hid (∀ w', (Bl w0 w' ∧ Box w' w.heap.size (cellsE d 5)) → w'.rangeAt b (off + 16) (kid 2).d.cl) := fun w' hw' c u hu => (hw'.1.cell (p := ⟨b, (off + 16) + c, none⟩) hbk).trans (by have h := HCK.out 2 (by have h := HN.out; omega) c u hu; simpa using h)
 rw [hkv]
 clear HO hw hB hbW hR hv ht hf hk hko hvo hto hop hdp hkid hkv hn2 IH
 go_in
 go_upto_region 1 with fail
 rw [← hW]
 clear hW
 have x0 := HS.out.bx.2 0 _ rfl
 have HS0 := hid (HS.out.below bdr)
 go_wp2_with fail
 refine wp_region_held_drew (S := fun w' => Bl w0 w' ∧ Box w' w.heap.size (cellsE d 5)) (by kernel_rfl) ?_ (fun hHeld => ?_)
 · exact ⟨Below.drew HS.out.bl, HS.out.bx.below bdr⟩
 refine tkB 0 61 ?_
 refine tkB 2 63 ?_
 refine tkA 3 64 (v := ?v19) ?y19 ?_
 case y19 => (intro w' hSw; obtain ⟨q1, q2, q3⟩ := HF.out w' hSw; go_simp; (try with_reducible rfl))
 refine tkB 4 65 ?_
 refine takeq (i := 5) 66 (v := .agg (kid 0).d.ar) rfl rfl (by kernel_rfl) (by kernel_rfl) (by kernel_rfl) (fun _ _ _ h => h) (yieldsIf_load_mid (by rfl) 100 _ rfl b off rfl (kid 0).d.cl _ HRG0.out Tryz.underlying100 rfl (by kernel_rfl)) hHeld ?_
 refine tkB 7 68 ?_
 refine tkA 8 69 (v := ?v22) ?y22 ?_
 case y22 => (intro w' hSw; obtain ⟨q1, q2, q3⟩ := HF.out w' hSw; go_simp; (try with_reducible rfl))
 refine tkB 9 70 ?_
 refine takeq (i := 10) 71 (v := .agg (kid 1).d.ar) rfl rfl (by kernel_rfl) (by kernel_rfl) (by kernel_rfl) (fun _ _ _ h => h) (yieldsIf_load_mid (by rfl) 100 _ rfl b (off + 8) rfl (kid 1).d.cl _ HRG1.out Tryz.underlying100 rfl (by kernel_rfl)) hHeld ?_
 refine tkB 12 73 ?_
 refine tkA 13 74 (v := ?v25) ?y25 ?_
 case y25 => (intro w' hSw; obtain ⟨q1, q2, q3⟩ := HF.out w' hSw; go_simp; (try with_reducible rfl))
 refine tkB 14 75 ?_
 refine takeq (i := 15) 76 (v := .agg (kid 2).d.ar) rfl rfl (by kernel_rfl) (by kernel_rfl) (by kernel_rfl) (fun _ _ _ h => h) (yieldsIf_load_mid (by rfl) 100 _ rfl b (off + 16) rfl (kid 2).d.cl _ HRG2.out Tryz.underlying100 rfl (by kernel_rfl)) hHeld ?_
 try simp only [Act.put, sA, zA, cA]
 refine rdA 1 fun K hK => ?_
 go_simp
 refine (l4wordK v B (bs) ⟨#[73, 70]⟩ _ HS0.out.own HS0.out.lo (by decide) (by have h := HLN.out; (try simp only [lA, lC, lN]); rw [show (ByteArray.mk #[73, 70]).size = 2 from rfl]; omega)).mono ?_
 rintro e z1 ⟨v1, rfl, hO1, hK1⟩
 have HS1 : Hid (SB w0 w W B v v1 (bs ++ [73, 70, 32]) (cellsE d 5) z1) := HS0.out.step HWE.out HNV.out hwB hO1 hK1
 clear hO1 hK1
 go_wp2_with fail
 refine hK.out _ _ ?_ (fun hHeld => ?_)
 · exact ⟨HS1.out.bl, HS1.out.bx⟩
 clear hK K
 try simp only [Act.put, sA, zA, cA]
 refine rdA 6 fun K hK => ?_
 go_simp
 refine ((HKD.out 0 (by have h := HN.out; omega)) v1 _ _ HS1.out.own HS1.out.bl HS1.out.lo (by have h := HLN.out; have h0 := HKL.out 0 (by have h := HN.out; omega); have h1 := HKL.out 1 (by have h := HN.out; omega); have h2 := HKL.out 2 (by have h := HN.out; omega); simp only [lA, lC, lN]; omega)).mono ?_
 rintro e z2 ⟨v2, rfl, hO2, hK2⟩
 have HS2 := hid (HS1.out.step HWE.out HNV.out hwB hO2 hK2)
 clear hO2 hK2
 go_wp2_with fail
 refine hK.out _ _ ?_ (fun hHeld => ?_)
 · exact ⟨HS2.out.bl, HS2.out.bx⟩
 clear hK K
 try simp only [Act.put, sA, zA, cA]
 refine rdA 11 fun K hK => ?_
 go_simp
 refine ((HKD.out 1 (by have h := HN.out; omega)) v2 _ _ HS2.out.own HS2.out.bl HS2.out.lo (by have h := HLN.out; have h0 := HKL.out 0 (by have h := HN.out; omega); have h1 := HKL.out 1 (by have h := HN.out; omega); have h2 := HKL.out 2 (by have h := HN.out; omega); simp only [lA, lC, lN]; omega)).mono ?_
 rintro e z3 ⟨v3, rfl, hO3, hK3⟩
 have HS3 := hid (HS2.out.step HWE.out HNV.out hwB hO3 hK3)
 clear hO3 hK3
 go_wp2_with fail
 refine hK.out _ _ ?_ (fun hHeld => ?_)
 · exact ⟨HS3.out.bl, HS3.out.bx⟩
 clear hK K
 try simp only [Act.put, sA, zA, cA]
 refine rdA 16 fun K hK => ?_
 go_simp
 refine ((HKD.out 2 (by have h := HN.out; omega)) v3 _ _ HS3.out.own HS3.out.bl HS3.out.lo (by have h := HLN.out; have h0 := HKL.out 0 (by have h := HN.out; omega); have h1 := HKL.out 1 (by have h := HN.out; omega); have h2 := HKL.out 2 (by have h := HN.out; omega); simp only [lA, lC, lN]; omega)).mono ?_
 rintro e z4 ⟨v4, rfl, hO4, hK4⟩
 have HS4 := hid (HS3.out.step HWE.out HNV.out hwB hO4 hK4)
 clear hO4 hK4
 go_wp2_with fail
 refine hK.out _ _ ?_ (fun hHeld => ?_)
 · exact ⟨HS4.out.bl, HS4.out.bx⟩
 clear hK K
 refine tkB 17 4 ?_
 refine wpAnyH_done (by kernel_rfl) ?_ _
 clear hHeld HF HS0 HS1 HS2 HS3 HS
 go_wp2_with fail
 go_ret
 exact ⟨_, rfl, HT.out ▸ HS4.out.own, Kp.pre HBW.out HS4.out.kp⟩
/- UtN6 -/
theorem sayExpr_6 (d : EN) (kid : Nat → ET) (hkv : d.k = 6) (lim deep : Int) (v : Value) (B : Nat) (bs : List Int) (w0 w : World) (hl : (ET.mk d kid).lies 0 w0) (hok : eOk lim (.mk d kid) deep) (HO : Own8 w B v bs.length bs) (hw : Bl w0 w) (hwB : w0.heap.size ≤ B) (hB : B ≤ w.heap.size) (hn : bs.length + 80 * esz (.mk d kid) ≤ 900000)
   (IH : ∀ i, i < d.n → SayE 98 w0 B (kid i)) :
   Calls Tryz.prog 98 #[v, .agg d.ar] w (SayK B v (bs ++ eTx (.mk d kid)) w) := by
 try unfold EN.ar
 obtain ⟨hv, ht, hf, hn2, hR, hk⟩ := hl
 obtain ⟨hdp, ⟨hko, hvo, _, hto, _, hop, _⟩, hkid⟩ := hok
 unfold kOk at hko
 rw [hkv] at hko
 obtain ⟨W, hW⟩ : ∃ W, W = w.alloc (.cells (d.ca 6) 100) := ⟨_, rfl⟩
 have hbW : Bl w W := by rw [hW]; exact bl_a _
 have HWE := hid hW
 have HNV := hid HO.off1
 have HBW := hid hbW
 have HS : Hid (SB w0 w W B v v bs (cellsE d 6) W) := ⟨HO.below hbW, Kp.of_below (Below.refl _ _), (show Box _ _ _ by rw [hW]; exact Box.new w (d.ca 6) 100 _), hw.trans (hbW.mono hw.size), Nat.le_trans hB hbW.size, HO.off1⟩
 have HN : Hid (1 ≤ d.n ∧ d.n ≤ 4) := (show _ ∧ _ by omega)
 obtain ⟨b, off, eK, _, hbk, hck⟩ := hR.resolve_left (by have h := HN.out; omega)
 have HEK := hid eK
 have HCK := hid hck
 have HKD := hid IH
 have HKL : Hid (∀ k, k ≤ d.n → (catN k (fun i => eTx (kid i))).length ≤ 80 * sumN k (fun i => esz (kid i))) := fun k hk2 => catN_len (fun i hi => eTx_len (hkid i (by omega)))
 have HLN : Hid (bs.length + 80 * (1 + sumN d.n (fun i => esz (kid i))) ≤ 900000) := (show _ ≤ _ by have h : esz (.mk d kid) = 1 + sumN d.n _ := rfl; omega)
 have HSM : Hid (∀ k, k < d.n → sumN k (fun i => esz (kid i)) + esz (kid k) ≤ sumN d.n (fun i => esz (kid i))) := fun k hk2 => sumN_mono (f := fun i => esz (kid i)) (show k + 1 ≤ d.n by omega)
 have HT : Hid (bs ++ [67, 79, 65, 76, 32] ++ [123, 32] ++ catN d.n (fun i => eTx (kid i)) ++ [125, 32] = bs ++ eTx (.mk d kid)) := (show _ = _ by rw [eTx_mk, hkv]; simp)
 clear eK hck
 rw [hkv]
 clear HO hw hB hbW hR hv ht hf hk hko hvo hto hop hdp hkid hkv hn2 IH
 go_in
 go_upto_region 1 with fail
 rw [← hW]
 clear hW
 have x0 := HS.out.bx.2 0 _ rfl
 have HS0 := HS
 go_wp2_with fail
 refine (l4wordK v B (bs) _ _ HS0.out.own HS0.out.lo (by decide) (by have h := HLN.out; (try simp only [lA, lC, lN]); rw [show (ByteArray.mk #[67, 79, 65, 76]).size = 4 from rfl]; omega)).mono ?_
 rintro e z1 ⟨v1, rfl, hO1, hK1⟩
 have HS1 : Hid (SB w0 w W B v v1 (bs ++ [67, 79, 65, 76, 32]) (cellsE d 6) z1) := HS0.out.step HWE.out HNV.out hwB hO1 hK1
 clear hO1 hK1
 go_wp2_with fail
 refine (l4wordK v1 B _ ⟨#[123]⟩ _ HS1.out.own HS1.out.lo (by decide) (by have h := HLN.out; (try simp only [lA, lC, lN]); rw [show (ByteArray.mk #[123]).size = 1 from rfl]; omega)).mono ?_
 rintro e z2 ⟨v2, rfl, hO2, hK2⟩
 have HS2 : Hid (SB w0 w W B v v2 (bs ++ [67, 79, 65, 76, 32] ++ [123, 32]) (cellsE d 6) z2) := HS1.out.step HWE.out HNV.out hwB hO2 hK2
 clear hO2 hK2
 clear HS HS0 HS1 x0
 have HE : Hid (bs ++ [67, 79, 65, 76, 32] ++ [123, 32] = bs ++ [67, 79, 65, 76, 32] ++ [123, 32] ++ catN 0 (fun i => eTx (kid i))) := (show _ = _ by simp [catN])
 go_wp2_with fail
 go_loopw [0, 5] (fun lv i wr => ∃ (k : Nat) (v' : Value), k ≤ d.n ∧ v' = lv ∧ i = .int .i64 k ∧ Hid (SB w0 w W B v v' (bs ++ [67, 79, 65, 76, 32] ++ [123, 32] ++ catN k (fun i => eTx (kid i))) (cellsE d 6) wr)) (fun _ i _ => d.n - (intOf i).toNat)
 case atStart => exact ⟨0, v2, Nat.zero_le _, rfl, rfl, HE.out ▸ HS2⟩
 clear HS2 HE
 obtain ⟨k, v', hk, rfl, rfl, HSr⟩ := hrel
 have x7 := HSr.out.bx.2 7 _ rfl
 rw [HEK.out] at x7
 have hn4 := HN.out.2
 by_cases hlk : k < d.n
 · have hlkz : (k : Int) < (d.n : Int) := by omega
   have hcx : wr.rangeAt b (off + k * 8) (kid k).d.cl := fun c u hu => (HSr.out.bl.cell (p := ⟨b, off + k * 8 + c, none⟩) hbk).trans (HCK.out k hlk c u hu)
   have Z := HKD.out k hlk v' (bs ++ [67, 79, 65, 76, 32] ++ [123, 32] ++ catN k (fun i => eTx (kid i))) wr HSr.out.own HSr.out.bl HSr.out.lo (by have h := HLN.out; have h1 := HKL.out k (by omega); have h2 := HSM.out k hlk; simp only [lA, lC, lN]; omega)
   go_wp2_with (with_reducible refine wpq_at ?_; refine wpList_load_mid rfl 100 _ rfl b (off + k * 8) rfl (kid k).d.cl _ hcx Tryz.underlying100 rfl (by kernel_rfl) ?_; try simp only [Act.put, sA, zA, cA])
   refine Z.mono ?_
   rintro e z3 ⟨v3, rfl, hO3, hK3⟩
   have HS3 := hid (HSr.out.step HWE.out HNV.out hwB hO3 hK3)
   have HS4 : Hid (SB w0 w W B v v3 (bs ++ [67, 79, 65, 76, 32] ++ [123, 32] ++ catN (k + 1) (fun i => eTx (kid i))) (cellsE d 6) z3) := (show SB _ _ _ _ _ _ _ _ _ by have h := HS3.out; rw [List.append_assoc] at h; exact h)
   clear Z hcx hO3 hK3 HS3 HSr x7
   go_wp2_with fail
   go_roundw
   case rel => exact ⟨k + 1, v3, by omega, rfl, by go_num, HS4⟩
   case measure => simp [intOf]; omega
 obtain rfl : k = d.n := by omega
 have hlkz : ¬ (d.n : Int) < (d.n : Int) := by omega
 have HS0 := HSr
 go_wp2_with fail
 refine (l4wordK v' B _ ⟨#[125]⟩ _ HS0.out.own HS0.out.lo (by decide) (by have h := HLN.out; have h1 := HKL.out d.n (Nat.le_refl _); (try simp only [lA, lC, lN]); rw [show (ByteArray.mk #[125]).size = 1 from rfl]; omega)).mono ?_
 rintro e z5 ⟨v5, rfl, hO5, hK5⟩
 have HS5 : Hid (SB w0 w W B v v5 (bs ++ [67, 79, 65, 76, 32] ++ [123, 32] ++ catN d.n (fun i => eTx (kid i)) ++ [125, 32]) (cellsE d 6) z5) := HSr.out.step HWE.out HNV.out hwB hO5 hK5
 clear hO5 hK5
 clear HSr HS0 x7
 go_wp2_with fail
 go_ret
 exact ⟨_, rfl, HT.out ▸ HS5.out.own, Kp.pre HBW.out HS5.out.kp⟩
end Go.Proofs.YthljoojcpbignaaGreatDoor
