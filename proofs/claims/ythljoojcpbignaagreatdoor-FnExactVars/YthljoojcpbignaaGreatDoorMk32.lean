import Derived.Test.YthljoojcpbignaaGreatDoorMk31
namespace Go.Proofs.YthljoojcpbignaaGreatDoor
open Go.RowKit Go.Deep
set_option maxHeartbeats 40000000
set_option maxRecDepth 100000
theorem sayExpr_4 (d : EN) (kid : Nat → ET) (hkv : d.k = 4) (lim deep : Int) (v : Value) (B : Nat) (bs : List Int) (w0 w : World) (hl : (ET.mk d kid).lies 0 w0) (hok : eOk lim (.mk d kid) deep) (HO : Own8 w B v bs.length bs) (hw : Bl w0 w) (hwB : w0.heap.size ≤ B) (hB : B ≤ w.heap.size) (hn : bs.length + 80 * esz (.mk d kid) ≤ 900000)
 (_IH : ∀ i, i < d.n → SayE 98 w0 B (kid i)) :
 Calls Tryz.prog 98 #[v, .agg d.ar] w (SayK B v (bs ++ eTx (.mk d kid)) w) := by
 try unfold EN.ar
 obtain ⟨hv, ht, hf, hn2, hR, hk⟩ := hl
 obtain ⟨hdp, ⟨hko, hvo, _, hto, _, hop, _⟩, hkid⟩ := hok
 unfold kOk at hko
 rw [hkv] at hko
 obtain ⟨W, hW⟩ : ∃ W, W = w.alloc (.cells (d.ca 4) 100) := ⟨_, rfl⟩
 have hbW : Bl w W := by rw [hW]; exact bl_a _
 have HWE := iH hW
 have HNV := iH HO.off1
 have HBW := iH hbW
 have HS : Hd (SB w0 w W B v v bs (cellsE d 4) W) := ⟨HO.below hbW, Kp.of_below brf, (show Box _ _ _ by rw [hW]; exact Box.new w (d.ca 4) 100 _), hw.trans (hbW.mono hw.size), Nat.le_trans hB hbW.size, HO.off1⟩
 have hnm := hvo (.inr hkv)
 have HVX : Hd (BsF 0 w0 d.v ∧ d.v.b ≠ [] ∧ d.v.len ≤ 12) := ⟨hv, name_pos hnm, (by have h := (name_len hnm).2; have h2 := hv.1.1; omega)⟩
 have HLN : Hd (bs.length + 80 ≤ 900000) := (show _ ≤ _ by have h : esz (.mk d kid) = 1 + sumN d.n _ := rfl; omega)
 have HT : Hd (bs ++ [66, 79, 85, 78, 68, 32] ++ 63 :: (d.v.b ++ [32]) = bs ++ eTx (.mk d kid)) := (show _ = _ by rw [eTx_mk, hkv]; simp [vTx])
 have HF : Hd (∀ w', (Bl w0 w' ∧ Box w' w.heap.size (cellsE d 4)) → w'.cell? ⟨w.heap.size, 2, none⟩ = some (.slice d.v.a d.v.len d.v.cap) ∧ True ∧ True) := fun w' hw' => ⟨hw'.2.2 2 _ rfl, trivial, trivial⟩
 rw [hkv]
 clear HO hw hB hbW hR hv ht hf hk hko hvo hto hop hdp hkid hkv hn2 hnm
 go_in
 go_upto_region 1 with fail
 rw [← hW]
 clear hW
 have x0 := HS.o.bx.2 0 _ rfl
 have HS0 := iH (HS.o.below bdr)
 go_wp2_with fail
 refine whd (fun w' => Bl w0 w' ∧ Box w' w.heap.size (cellsE d 4)) ?_ fun hHeld => ?_
 · exact ⟨Below.drew HS.o.bl, HS.o.bx.below bdr⟩
 refine tkB 0 54 ?_
 refine tkB 2 56 ?_
 refine tkA 3 57 (v := ?v15) ?y15 ?_
 case y15 => (intro w' hSw; obtain ⟨q1, q2, q3⟩ := HF.o w' hSw; go_simp; (try with_reducible rfl))
 try simp only [Act.put, sA, zA, cA]
 refine rdA 1 fun K hK => ?_
 go_simp
 refine (l4wordK v B (bs) _ _ HS0.o.own HS0.o.lo (by decide) (by have h := HLN.o; (try simp only [lA, lC, lN]); rw [show (ByteArray.mk #[66, 79, 85, 78, 68]).size = 5 from rfl]; omega)).mono ?_
 rintro e z1 ⟨v1, rfl, hO1, hK1⟩
 have HS1 : Hd (SB w0 w W B v v1 (bs ++ [66, 79, 85, 78, 68, 32]) (cellsE d 4) z1) := HS0.o.step HWE.o HNV.o hwB hO1 hK1
 clear hO1 hK1
 go_wp2_with fail
 refine hK.out _ _ ?_ fun hHeld => ?_
 · exact ⟨HS1.o.bl, HS1.o.bx⟩
 clear hK K
 try simp only [Act.put, sA, zA, cA]
 refine rdA 4 fun K hK => ?_
 go_simp
 refine (l4sayVarK v1 B _ d.v w0 _ HS1.o.own HVX.o.1 HS1.o.bl hwB HS1.o.lo HVX.o.2.1 (by have h := HLN.o; have h2 := HVX.o.2.2; simp only [lA, lC, lN]; omega)).mono ?_
 rintro e z2 ⟨v2, rfl, hO2, hK2⟩
 have HS2 := iH (HS1.o.step HWE.o HNV.o hwB hO2 hK2)
 clear hO2 hK2
 go_wp2_with fail
 refine hK.out _ _ ?_ fun hHeld => ?_
 · exact ⟨HS2.o.bl, HS2.o.bx⟩
 clear hK K
 refine tkB 5 4 ?_
 refine wpAnyH_done (by kernel_rfl) ?_ _
 clear hHeld HF HS0 HS1 HS
 go_wp2
 go_ret
 exact ⟨_, rfl, HT.o ▸ HS2.o.own, Kp.pre HBW.o HS2.o.kp⟩
theorem sayExpr_5 (d : EN) (kid : Nat → ET) (hkv : d.k = 5) (lim deep : Int) (v : Value) (B : Nat) (bs : List Int) (w0 w : World) (hl : (ET.mk d kid).lies 0 w0) (hok : eOk lim (.mk d kid) deep) (HO : Own8 w B v bs.length bs) (hw : Bl w0 w) (hwB : w0.heap.size ≤ B) (hB : B ≤ w.heap.size) (hn : bs.length + 80 * esz (.mk d kid) ≤ 900000)
 (IH : ∀ i, i < d.n → SayE 98 w0 B (kid i)) :
 Calls Tryz.prog 98 #[v, .agg d.ar] w (SayK B v (bs ++ eTx (.mk d kid)) w) := by
 try unfold EN.ar
 obtain ⟨hv, ht, hf, hn2, hR, hk⟩ := hl
 obtain ⟨hdp, ⟨hko, hvo, _, hto, _, hop, _⟩, hkid⟩ := hok
 unfold kOk at hko
 rw [hkv] at hko
 obtain ⟨W, hW⟩ : ∃ W, W = w.alloc (.cells (d.ca 5) 100) := ⟨_, rfl⟩
 have hbW : Bl w W := by rw [hW]; exact bl_a _
 have HWE := iH hW
 have HNV := iH HO.off1
 have HBW := iH hbW
 have HS : Hd (SB w0 w W B v v bs (cellsE d 5) W) := ⟨HO.below hbW, Kp.of_below brf, (show Box _ _ _ by rw [hW]; exact Box.new w (d.ca 5) 100 _), hw.trans (hbW.mono hw.size), Nat.le_trans hB hbW.size, HO.off1⟩
 have HN := iH (show d.n = 3 by omega)
 obtain ⟨b, off, eK, _, hbk, hck⟩ := hR.resolve_left (by have h := HN.o; omega)
 have HEK := iH eK
 have HCK := iH hck
 have HKD := iH IH
 have HKL := iH (fun i (hi : i < d.n) => eTx_len (hkid i hi))
 clear eK hck
 have HLN : Hd (bs.length + 80 * (1 + (esz (kid 0) + esz (kid 1) + esz (kid 2))) ≤ 900000) := (show _ ≤ _ by have h : esz (.mk d kid) = 1 + sumN d.n _ := rfl; rw [HN.o] at h; have h2 : sumN 3 (fun i => esz (kid i)) = esz (kid 0) + esz (kid 1) + esz (kid 2) := (by simp [sumN]); omega)
 have HT : Hd (bs ++ [73, 70, 32] ++ eTx (kid 0) ++ eTx (kid 1) ++ eTx (kid 2) = bs ++ eTx (.mk d kid)) := (show _ = _ by rw [eTx_mk, hkv]; simp)
 have hb0 : 0 < d.n := by have h := HN.o; omega
 have hb1 : 1 < d.n := by have h := HN.o; omega
 have hb1z : (1 : Int) < (d.n : Int) := by have h := HN.o; omega
 have hb2 : 2 < d.n := by have h := HN.o; omega
 have hb2z : (2 : Int) < (d.n : Int) := by have h := HN.o; omega
 have HF : Hd (∀ w', (Bl w0 w' ∧ Box w' w.heap.size (cellsE d 5)) → w'.cell? ⟨w.heap.size, 7, none⟩ = some (.slice (some ⟨b, off, none⟩) d.n d.kc) ∧ w'.cell? ⟨w.heap.size, 1, none⟩ = some (.int .i64 d.op) ∧ True) := fun w' hw' => ⟨(by have h := hw'.2.2 7 _ rfl; rw [HEK.o] at h; exact h), hw'.2.2 1 _ rfl, trivial⟩
 have HRG0 : Hd (∀ w', (Bl w0 w' ∧ Box w' w.heap.size (cellsE d 5)) → w'.rangeAt b off (kid 0).d.cl) := fun w' hw' c u hu => (hw'.1.cell (p := ⟨b, off + c, none⟩) hbk).trans (by have h := HCK.o 0 (by have h := HN.o; omega) c u hu; simpa using h)
 have HRG1 : Hd (∀ w', (Bl w0 w' ∧ Box w' w.heap.size (cellsE d 5)) → w'.rangeAt b (off + 8) (kid 1).d.cl) := fun w' hw' c u hu => (hw'.1.cell (p := ⟨b, (off + 8) + c, none⟩) hbk).trans (by have h := HCK.o 1 (by have h := HN.o; omega) c u hu; simpa using h)
 have HRG2 : Hd (∀ w', (Bl w0 w' ∧ Box w' w.heap.size (cellsE d 5)) → w'.rangeAt b (off + 16) (kid 2).d.cl) := fun w' hw' c u hu => (hw'.1.cell (p := ⟨b, (off + 16) + c, none⟩) hbk).trans (by have h := HCK.o 2 (by have h := HN.o; omega) c u hu; simpa using h)
 rw [hkv]
 clear HO hw hB hbW hR hv ht hf hk hko hvo hto hop hdp hkid hkv hn2 IH
 go_in
 go_upto_region 1 with fail
 rw [← hW]
 clear hW
 have x0 := HS.o.bx.2 0 _ rfl
 have HS0 := iH (HS.o.below bdr)
 go_wp2_with fail
 refine whd (fun w' => Bl w0 w' ∧ Box w' w.heap.size (cellsE d 5)) ?_ fun hHeld => ?_
 · exact ⟨Below.drew HS.o.bl, HS.o.bx.below bdr⟩
 refine tkB 0 61 ?_
 refine tkB 2 63 ?_
 refine tkA 3 64 (v := ?v19) ?y19 ?_
 case y19 => (intro w' hSw; obtain ⟨q1, q2, q3⟩ := HF.o w' hSw; go_simp; (try with_reducible rfl))
 refine tkB 4 65 ?_
 refine takeq (i := 5) 66 (v := .agg (kid 0).d.ar) rfl rfl (by kernel_rfl) (by kernel_rfl) (by kernel_rfl) (fun _ _ _ h => h) (yieldsIf_load_mid (by rfl) 100 _ rfl b off rfl (kid 0).d.cl _ HRG0.o Tryz.underlying100 rfl (by kernel_rfl)) hHeld ?_
 refine tkB 7 68 ?_
 refine tkA 8 69 (v := ?v22) ?y22 ?_
 case y22 => (intro w' hSw; obtain ⟨q1, q2, q3⟩ := HF.o w' hSw; go_simp; (try with_reducible rfl))
 refine tkB 9 70 ?_
 refine takeq (i := 10) 71 (v := .agg (kid 1).d.ar) rfl rfl (by kernel_rfl) (by kernel_rfl) (by kernel_rfl) (fun _ _ _ h => h) (yieldsIf_load_mid (by rfl) 100 _ rfl b (off + 8) rfl (kid 1).d.cl _ HRG1.o Tryz.underlying100 rfl (by kernel_rfl)) hHeld ?_
 refine tkB 12 73 ?_
 refine tkA 13 74 (v := ?v25) ?y25 ?_
 case y25 => (intro w' hSw; obtain ⟨q1, q2, q3⟩ := HF.o w' hSw; go_simp; (try with_reducible rfl))
 refine tkB 14 75 ?_
 refine takeq (i := 15) 76 (v := .agg (kid 2).d.ar) rfl rfl (by kernel_rfl) (by kernel_rfl) (by kernel_rfl) (fun _ _ _ h => h) (yieldsIf_load_mid (by rfl) 100 _ rfl b (off + 16) rfl (kid 2).d.cl _ HRG2.o Tryz.underlying100 rfl (by kernel_rfl)) hHeld ?_
 try simp only [Act.put, sA, zA, cA]
 refine rdA 1 fun K hK => ?_
 go_simp
 refine (l4wordK v B (bs) ⟨#[73, 70]⟩ _ HS0.o.own HS0.o.lo (by decide) (by have h := HLN.o; (try simp only [lA, lC, lN]); rw [show (ByteArray.mk #[73, 70]).size = 2 from rfl]; omega)).mono ?_
 rintro e z1 ⟨v1, rfl, hO1, hK1⟩
 have HS1 : Hd (SB w0 w W B v v1 (bs ++ [73, 70, 32]) (cellsE d 5) z1) := HS0.o.step HWE.o HNV.o hwB hO1 hK1
 clear hO1 hK1
 go_wp2_with fail
 refine hK.out _ _ ?_ fun hHeld => ?_
 · exact ⟨HS1.o.bl, HS1.o.bx⟩
 clear hK K
 try simp only [Act.put, sA, zA, cA]
 refine rdA 6 fun K hK => ?_
 go_simp
 refine ((HKD.o 0 (by have h := HN.o; omega)) v1 _ _ HS1.o.own HS1.o.bl HS1.o.lo (by have h := HLN.o; have h0 := HKL.o 0 (by have h := HN.o; omega); have h1 := HKL.o 1 (by have h := HN.o; omega); have h2 := HKL.o 2 (by have h := HN.o; omega); simp only [lA, lC, lN]; omega)).mono ?_
 rintro e z2 ⟨v2, rfl, hO2, hK2⟩
 have HS2 := iH (HS1.o.step HWE.o HNV.o hwB hO2 hK2)
 clear hO2 hK2
 go_wp2_with fail
 refine hK.out _ _ ?_ fun hHeld => ?_
 · exact ⟨HS2.o.bl, HS2.o.bx⟩
 clear hK K
 try simp only [Act.put, sA, zA, cA]
 refine rdA 11 fun K hK => ?_
 go_simp
 refine ((HKD.o 1 (by have h := HN.o; omega)) v2 _ _ HS2.o.own HS2.o.bl HS2.o.lo (by have h := HLN.o; have h0 := HKL.o 0 (by have h := HN.o; omega); have h1 := HKL.o 1 (by have h := HN.o; omega); have h2 := HKL.o 2 (by have h := HN.o; omega); simp only [lA, lC, lN]; omega)).mono ?_
 rintro e z3 ⟨v3, rfl, hO3, hK3⟩
 have HS3 := iH (HS2.o.step HWE.o HNV.o hwB hO3 hK3)
 clear hO3 hK3
 go_wp2_with fail
 refine hK.out _ _ ?_ fun hHeld => ?_
 · exact ⟨HS3.o.bl, HS3.o.bx⟩
 clear hK K
 try simp only [Act.put, sA, zA, cA]
 refine rdA 16 fun K hK => ?_
 go_simp
 refine ((HKD.o 2 (by have h := HN.o; omega)) v3 _ _ HS3.o.own HS3.o.bl HS3.o.lo (by have h := HLN.o; have h0 := HKL.o 0 (by have h := HN.o; omega); have h1 := HKL.o 1 (by have h := HN.o; omega); have h2 := HKL.o 2 (by have h := HN.o; omega); simp only [lA, lC, lN]; omega)).mono ?_
 rintro e z4 ⟨v4, rfl, hO4, hK4⟩
 have HS4 := iH (HS3.o.step HWE.o HNV.o hwB hO4 hK4)
 clear hO4 hK4
 go_wp2_with fail
 refine hK.out _ _ ?_ fun hHeld => ?_
 · exact ⟨HS4.o.bl, HS4.o.bx⟩
 clear hK K
 refine tkB 17 4 ?_
 refine wpAnyH_done (by kernel_rfl) ?_ _
 clear hHeld HF HS0 HS1 HS2 HS3 HS
 go_wp2
 go_ret
 exact ⟨_, rfl, HT.o ▸ HS4.o.own, Kp.pre HBW.o HS4.o.kp⟩
theorem sayExpr_6 (d : EN) (kid : Nat → ET) (hkv : d.k = 6) (lim deep : Int) (v : Value) (B : Nat) (bs : List Int) (w0 w : World) (hl : (ET.mk d kid).lies 0 w0) (hok : eOk lim (.mk d kid) deep) (HO : Own8 w B v bs.length bs) (hw : Bl w0 w) (hwB : w0.heap.size ≤ B) (hB : B ≤ w.heap.size) (hn : bs.length + 80 * esz (.mk d kid) ≤ 900000)
 (IH : ∀ i, i < d.n → SayE 98 w0 B (kid i)) :
 Calls Tryz.prog 98 #[v, .agg d.ar] w (SayK B v (bs ++ eTx (.mk d kid)) w) := by
 try unfold EN.ar
 obtain ⟨hv, ht, hf, hn2, hR, hk⟩ := hl
 obtain ⟨hdp, ⟨hko, hvo, _, hto, _, hop, _⟩, hkid⟩ := hok
 unfold kOk at hko
 rw [hkv] at hko
 obtain ⟨W, hW⟩ : ∃ W, W = w.alloc (.cells (d.ca 6) 100) := ⟨_, rfl⟩
 have hbW : Bl w W := by rw [hW]; exact bl_a _
 have HWE := iH hW
 have HNV := iH HO.off1
 have HBW := iH hbW
 have HS : Hd (SB w0 w W B v v bs (cellsE d 6) W) := ⟨HO.below hbW, Kp.of_below brf, (show Box _ _ _ by rw [hW]; exact Box.new w (d.ca 6) 100 _), hw.trans (hbW.mono hw.size), Nat.le_trans hB hbW.size, HO.off1⟩
 have HN : Hd (1 ≤ d.n ∧ d.n ≤ 4) := (show _ ∧ _ by omega)
 obtain ⟨b, off, eK, _, hbk, hck⟩ := hR.resolve_left (by have h := HN.o; omega)
 have HEK := iH eK
 have HCK := iH hck
 have HKD := iH IH
 have HKL : Hd (∀ k, k ≤ d.n → (catN k (fun i => eTx (kid i))).length ≤ 80 * sumN k (fun i => esz (kid i))) := fun k hk2 => catN_len (fun i hi => eTx_len (hkid i (by omega)))
 have HLN : Hd (bs.length + 80 * (1 + sumN d.n (fun i => esz (kid i))) ≤ 900000) := (show _ ≤ _ by have h : esz (.mk d kid) = 1 + sumN d.n _ := rfl; omega)
 have HSM : Hd (∀ k, k < d.n → sumN k (fun i => esz (kid i)) + esz (kid k) ≤ sumN d.n (fun i => esz (kid i))) := fun k hk2 => sumN_mono (f := fun i => esz (kid i)) (show k + 1 ≤ d.n by omega)
 have HT : Hd (bs ++ [67, 79, 65, 76, 32] ++ [123, 32] ++ catN d.n (fun i => eTx (kid i)) ++ [125, 32] = bs ++ eTx (.mk d kid)) := (show _ = _ by rw [eTx_mk, hkv]; simp)
 clear eK hck
 rw [hkv]
 clear HO hw hB hbW hR hv ht hf hk hko hvo hto hop hdp hkid hkv hn2 IH
 go_in
 go_upto_region 1 with fail
 rw [← hW]
 clear hW
 have x0 := HS.o.bx.2 0 _ rfl
 have HS0 := HS
 go_wp2_with fail
 refine (l4wordK v B (bs) _ _ HS0.o.own HS0.o.lo (by decide) (by have h := HLN.o; (try simp only [lA, lC, lN]); rw [show (ByteArray.mk #[67, 79, 65, 76]).size = 4 from rfl]; omega)).mono ?_
 rintro e z1 ⟨v1, rfl, hO1, hK1⟩
 have HS1 : Hd (SB w0 w W B v v1 (bs ++ [67, 79, 65, 76, 32]) (cellsE d 6) z1) := HS0.o.step HWE.o HNV.o hwB hO1 hK1
 clear hO1 hK1
 go_wp2_with fail
 refine (l4wordK v1 B _ ⟨#[123]⟩ _ HS1.o.own HS1.o.lo (by decide) (by have h := HLN.o; (try simp only [lA, lC, lN]); rw [show (ByteArray.mk #[123]).size = 1 from rfl]; omega)).mono ?_
 rintro e z2 ⟨v2, rfl, hO2, hK2⟩
 have HS2 : Hd (SB w0 w W B v v2 (bs ++ [67, 79, 65, 76, 32] ++ [123, 32]) (cellsE d 6) z2) := HS1.o.step HWE.o HNV.o hwB hO2 hK2
 clear hO2 hK2
 clear HS HS0 HS1 x0
 have HE : Hd (bs ++ [67, 79, 65, 76, 32] ++ [123, 32] = bs ++ [67, 79, 65, 76, 32] ++ [123, 32] ++ catN 0 (fun i => eTx (kid i))) := (show _ = _ by simp [catN])
 go_wp2_with fail
 go_loopw [0, 5] (fun lv i wr => ∃ (k : Nat) (v' : Value), k ≤ d.n ∧ v' = lv ∧ i = .int .i64 k ∧ Hd (SB w0 w W B v v' (bs ++ [67, 79, 65, 76, 32] ++ [123, 32] ++ catN k (fun i => eTx (kid i))) (cellsE d 6) wr)) (fun _ i _ => d.n - (intOf i).toNat)
 case atStart => exact ⟨0, v2, nZ, rfl, rfl, HE.o ▸ HS2⟩
 clear HS2 HE
 obtain ⟨k, v', hk, rfl, rfl, HSr⟩ := hrel
 have x7 := HSr.o.bx.2 7 _ rfl
 rw [HEK.o] at x7
 have hn4 := HN.o.2
 by_cases hlk : k < d.n
 · have hlkz : (k : Int) < (d.n : Int) := by omega
   have hcx : wr.rangeAt b (off + k * 8) (kid k).d.cl := fun c u hu => (HSr.o.bl.cell (p := ⟨b, off + k * 8 + c, none⟩) hbk).trans (HCK.o k hlk c u hu)
   have Z := HKD.o k hlk v' (bs ++ [67, 79, 65, 76, 32] ++ [123, 32] ++ catN k (fun i => eTx (kid i))) wr HSr.o.own HSr.o.bl HSr.o.lo (by have h := HLN.o; have h1 := HKL.o k (by omega); have h2 := HSM.o k hlk; simp only [lA, lC, lN]; omega)
   go_wp2_with (with_reducible refine wpq_at ?_; refine wpList_load_mid rfl 100 _ rfl b (off + k * 8) rfl (kid k).d.cl _ hcx Tryz.underlying100 rfl (by kernel_rfl) ?_; try simp only [Act.put, sA, zA, cA])
   refine Z.mono ?_
   rintro e z3 ⟨v3, rfl, hO3, hK3⟩
   have HS3 := iH (HSr.o.step HWE.o HNV.o hwB hO3 hK3)
   have HS4 : Hd (SB w0 w W B v v3 (bs ++ [67, 79, 65, 76, 32] ++ [123, 32] ++ catN (k + 1) (fun i => eTx (kid i))) (cellsE d 6) z3) := (show SB _ _ _ _ _ _ _ _ _ by have h := HS3.o; rw [List.append_assoc] at h; exact h)
   clear Z hcx hO3 hK3 HS3 HSr x7
   go_wp2
   go_roundw
   case rel => exact ⟨k + 1, v3, by omega, rfl, by go_num, HS4⟩
   case measure => simp [intOf]; omega
 obtain rfl : k = d.n := by omega
 have hlkz : ¬ (d.n : Int) < (d.n : Int) := by omega
 have HS0 := HSr
 go_wp2_with fail
 refine (l4wordK v' B _ ⟨#[125]⟩ _ HS0.o.own HS0.o.lo (by decide) (by have h := HLN.o; have h1 := HKL.o d.n nR; (try simp only [lA, lC, lN]); rw [show (ByteArray.mk #[125]).size = 1 from rfl]; omega)).mono ?_
 rintro e z5 ⟨v5, rfl, hO5, hK5⟩
 have HS5 : Hd (SB w0 w W B v v5 (bs ++ [67, 79, 65, 76, 32] ++ [123, 32] ++ catN d.n (fun i => eTx (kid i)) ++ [125, 32]) (cellsE d 6) z5) := HSr.o.step HWE.o HNV.o hwB hO5 hK5
 clear hO5 hK5
 clear HSr HS0 x7
 go_wp2
 go_ret
 exact ⟨_, rfl, HT.o ▸ HS5.o.own, Kp.pre HBW.o HS5.o.kp⟩
theorem sayExpr_7 (d : EN) (kid : Nat → ET) (hkv : d.k = 7) (lim deep : Int) (v : Value) (B : Nat) (bs : List Int) (w0 w : World) (hl : (ET.mk d kid).lies 0 w0) (hok : eOk lim (.mk d kid) deep) (HO : Own8 w B v bs.length bs) (hw : Bl w0 w) (hwB : w0.heap.size ≤ B) (hB : B ≤ w.heap.size) (hn : bs.length + 80 * esz (.mk d kid) ≤ 900000)
 (IH : ∀ i, i < d.n → SayE 98 w0 B (kid i)) :
 Calls Tryz.prog 98 #[v, .agg d.ar] w (SayK B v (bs ++ eTx (.mk d kid)) w) := by
 try unfold EN.ar
 obtain ⟨hv, ht, hf, hn2, hR, hk⟩ := hl
 obtain ⟨hdp, ⟨hko, hvo, _, hto, _, hop, _⟩, hkid⟩ := hok
 unfold kOk at hko
 rw [hkv] at hko
 obtain ⟨W, hW⟩ : ∃ W, W = w.alloc (.cells (d.ca 7) 100) := ⟨_, rfl⟩
 have hbW : Bl w W := by rw [hW]; exact bl_a _
 have HWE := iH hW
 have HNV := iH HO.off1
 have HBW := iH hbW
 have HS : Hd (SB w0 w W B v v bs (cellsE d 7) W) := ⟨HO.below hbW, Kp.of_below brf, (show Box _ _ _ by rw [hW]; exact Box.new w (d.ca 7) 100 _), hw.trans (hbW.mono hw.size), Nat.le_trans hB hbW.size, HO.off1⟩
 have HN := iH (show d.n = 1 by omega)
 obtain ⟨b, off, eK, _, hbk, hck⟩ := hR.resolve_left (by have h := HN.o; omega)
 have HEK := iH eK
 have HCK := iH hck
 have HKD := iH IH
 have HKL := iH (fun i (hi : i < d.n) => eTx_len (hkid i hi))
 clear eK hck
 have HLN : Hd (bs.length + 80 * (1 + esz (kid 0)) ≤ 900000) := (show _ ≤ _ by have h : esz (.mk d kid) = 1 + sumN d.n _ := rfl; rw [HN.o] at h; have h2 : sumN 1 (fun i => esz (kid i)) = esz (kid 0) := (by simp [sumN]); omega)
 have HT : Hd (bs ++ [76, 69, 78, 32] ++ eTx (kid 0) = bs ++ eTx (.mk d kid)) := (show _ = _ by rw [eTx_mk, hkv]; simp)
 have hb0 : 0 < d.n := by have h := HN.o; omega
 have HF : Hd (∀ w', (Bl w0 w' ∧ Box w' w.heap.size (cellsE d 7)) → w'.cell? ⟨w.heap.size, 7, none⟩ = some (.slice (some ⟨b, off, none⟩) d.n d.kc) ∧ w'.cell? ⟨w.heap.size, 1, none⟩ = some (.int .i64 d.op) ∧ True) := fun w' hw' => ⟨(by have h := hw'.2.2 7 _ rfl; rw [HEK.o] at h; exact h), hw'.2.2 1 _ rfl, trivial⟩
 have HRG0 : Hd (∀ w', (Bl w0 w' ∧ Box w' w.heap.size (cellsE d 7)) → w'.rangeAt b off (kid 0).d.cl) := fun w' hw' c u hu => (hw'.1.cell (p := ⟨b, off + c, none⟩) hbk).trans (by have h := HCK.o 0 (by have h := HN.o; omega) c u hu; simpa using h)
 rw [hkv]
 clear HO hw hB hbW hR hv ht hf hk hko hvo hto hop hdp hkid hkv hn2 IH
 go_in
 go_upto_region 1 with fail
 rw [← hW]
 clear hW
 have x0 := HS.o.bx.2 0 _ rfl
 have HS0 := iH (HS.o.below bdr)
 go_wp2_with fail
 refine whd (fun w' => Bl w0 w' ∧ Box w' w.heap.size (cellsE d 7)) ?_ fun hHeld => ?_
 · exact ⟨Below.drew HS.o.bl, HS.o.bx.below bdr⟩
 refine tkB 0 80 ?_
 refine tkB 2 82 ?_
 refine tkA 3 83 (v := ?v30) ?y30 ?_
 case y30 => (intro w' hSw; obtain ⟨q1, q2, q3⟩ := HF.o w' hSw; go_simp; (try with_reducible rfl))
 refine tkB 4 84 ?_
 refine takeq (i := 5) 85 (v := .agg (kid 0).d.ar) rfl rfl (by kernel_rfl) (by kernel_rfl) (by kernel_rfl) (fun _ _ _ h => h) (yieldsIf_load_mid (by rfl) 100 _ rfl b off rfl (kid 0).d.cl _ HRG0.o Tryz.underlying100 rfl (by kernel_rfl)) hHeld ?_
 try simp only [Act.put, sA, zA, cA]
 refine rdA 1 fun K hK => ?_
 go_simp
 refine (l4wordK v B (bs) _ _ HS0.o.own HS0.o.lo (by decide) (by have h := HLN.o; (try simp only [lA, lC, lN]); rw [show (ByteArray.mk #[76, 69, 78]).size = 3 from rfl]; omega)).mono ?_
 rintro e z1 ⟨v1, rfl, hO1, hK1⟩
 have HS1 : Hd (SB w0 w W B v v1 (bs ++ [76, 69, 78, 32]) (cellsE d 7) z1) := HS0.o.step HWE.o HNV.o hwB hO1 hK1
 clear hO1 hK1
 go_wp2_with fail
 refine hK.out _ _ ?_ fun hHeld => ?_
 · exact ⟨HS1.o.bl, HS1.o.bx⟩
 clear hK K
 try simp only [Act.put, sA, zA, cA]
 refine rdA 6 fun K hK => ?_
 go_simp
 refine ((HKD.o 0 (by have h := HN.o; omega)) v1 _ _ HS1.o.own HS1.o.bl HS1.o.lo (by have h := HLN.o; have h0 := HKL.o 0 (by have h := HN.o; omega); simp only [lA, lC, lN]; omega)).mono ?_
 rintro e z2 ⟨v2, rfl, hO2, hK2⟩
 have HS2 := iH (HS1.o.step HWE.o HNV.o hwB hO2 hK2)
 clear hO2 hK2
 go_wp2_with fail
 refine hK.out _ _ ?_ fun hHeld => ?_
 · exact ⟨HS2.o.bl, HS2.o.bx⟩
 clear hK K
 refine tkB 7 4 ?_
 refine wpAnyH_done (by kernel_rfl) ?_ _
 clear hHeld HF HS0 HS1 HS
 go_wp2
 go_ret
 exact ⟨_, rfl, HT.o ▸ HS2.o.own, Kp.pre HBW.o HS2.o.kp⟩
theorem l4sayExprK {lim : Int} (e : ET) : ∀ (deep : Int) (B : Nat) (w0 : World), e.lies 0 w0 → eOk lim e deep → w0.heap.size ≤ B → SayE 98 w0 B e := by
 induction e with
 | nil => exact fun _ _ _ h => False.elim h
 | mk d kid ih =>
  intro deep B w0 hl hok hwB v bs w HO hw hB hn
  have IH := fun i (hi : i < d.n) => ih i (deep + 1) B w0 (hl.2.2.2.2.2 i hi) (hok.2.2 i hi) hwB
  have hk := hok.2.1.1
  unfold kOk at hk
  rcases (by omega : d.k = 0 ∨ d.k = 1 ∨ d.k = 2 ∨ d.k = 3 ∨ d.k = 4 ∨ d.k = 5 ∨ d.k = 6 ∨ d.k = 7) with h | h | h | h | h | h | h | h
  · exact sayExpr_0 d kid h lim deep v B bs w0 w hl hok HO hw hwB hB hn IH
  · exact sayExpr_1 d kid h lim deep v B bs w0 w hl hok HO hw hwB hB hn IH
  · exact sayExpr_2 d kid h lim deep v B bs w0 w hl hok HO hw hwB hB hn IH
  · exact sayExpr_3 d kid h lim deep v B bs w0 w hl hok HO hw hwB hB hn IH
  · exact sayExpr_4 d kid h lim deep v B bs w0 w hl hok HO hw hwB hB hn IH
  · exact sayExpr_5 d kid h lim deep v B bs w0 w hl hok HO hw hwB hB hn IH
  · exact sayExpr_6 d kid h lim deep v B bs w0 w hl hok HO hw hwB hB hn IH
  exact sayExpr_7 d kid h lim deep v B bs w0 w hl hok HO hw hwB hB hn IH
def uTx : UT → List Int
 | .nil => []
 | .mk d ka kb => if d.k = 0 then itTx d.p.s ++ (itTx d.p.p ++ (itTx d.p.o ++ [46, 32])) else if d.k = 1 then [79, 80, 84, 73, 79, 78, 65, 76, 32] ++ ([123, 32] ++ (catN d.an (fun i => uTx (ka i)) ++ [125, 32]))
  else if d.k = 2 then [85, 78, 73, 79, 78, 32] ++ (([123, 32] ++ (catN d.an (fun i => uTx (ka i)) ++ [125, 32])) ++ ([123, 32] ++ (catN d.bn (fun i => uTx (kb i)) ++ [125, 32])))
  else if d.k = 3 then [77, 73, 78, 85, 83, 32] ++ ([123, 32] ++ (catN d.an (fun i => uTx (ka i)) ++ [125, 32])) else if d.k = 4 then [70, 73, 76, 84, 69, 82, 32] ++ eTx d.e else if d.k = 5 then [66, 73, 78, 68, 32] ++ (eTx d.e ++ vTx d.v.b)
  else [86, 65, 76, 85, 69, 83, 32] ++ (vTx d.v.b ++ ([123, 32] ++ (catN d.tb.length (fun i => tTx (tbG d.tb i)) ++ [125, 32])))
def gTx (n : Nat) (f : Nat → UT) : List Int := [123, 32] ++ (catN n (fun i => uTx (f i)) ++ [125, 32])
theorem uTx_at {e : UT} (h : e ≠ .nil) : uTx e = if e.d.k = 0 then itTx e.d.p.s ++ (itTx e.d.p.p ++ (itTx e.d.p.o ++ [46, 32])) else if e.d.k = 1 then [79, 80, 84, 73, 79, 78, 65, 76, 32] ++ gTx e.d.an e.ka
 else if e.d.k = 2 then [85, 78, 73, 79, 78, 32] ++ (gTx e.d.an e.ka ++ gTx e.d.bn e.kb) else if e.d.k = 3 then [77, 73, 78, 85, 83, 32] ++ gTx e.d.an e.ka else if e.d.k = 4 then [70, 73, 76, 84, 69, 82, 32] ++ eTx e.d.e else if e.d.k = 5 then [66, 73, 78, 68, 32] ++ (eTx e.d.e ++ vTx e.d.v.b)
 else [86, 65, 76, 85, 69, 83, 32] ++ (vTx e.d.v.b ++ ([123, 32] ++ (catN e.d.tb.length (fun i => tTx (tbG e.d.tb i)) ++ [125, 32]))) := by
 cases e with
 | nil => exact absurd rfl h
 | mk d ka kb => rfl
theorem uOk_at {e : UT} {deep : Int} (h : uOk e deep) : e ≠ .nil ∧ deep ≤ 10 ∧ NodeU e.d ∧ (hasX e.d.k → eOk 10 e.d.e (deep + 1)) ∧ (∀ i, i < e.d.an → uOk (e.ka i) (deep + 1)) ∧ ∀ i, i < e.d.bn → uOk (e.kb i) (deep + 1) := by
 cases e with
 | nil => exact False.elim h
 | mk d ka kb => exact ⟨fun h => UT.noConfusion h, h⟩
theorem usz_at {e : UT} (h : e ≠ .nil) : usz e = ownU e.d + (sumN e.d.an (fun i => usz (e.ka i)) + sumN e.d.bn (fun i => usz (e.kb i))) := by
 cases e with
 | nil => exact absurd rfl h
 | mk d ka kb => rfl
theorem itTx_len {x : IB} {m : Int} (h : itOk x m) : (itTx x).length ≤ 65 := by
 unfold itTx
 rcases h with ⟨h1, h2, _⟩ | ⟨h1, h2, _⟩
 · rw [if_neg h1]
   have := vTx_len h2
   omega
 rw [if_pos h1]
 exact tTx_len h2
theorem tbsTx_len {l : List TB} (h : ∀ x ∈ l, x.td.ok = true) (k : Nat) (hk : k ≤ l.length) : (catN k (fun i => tTx (tbG l i))).length ≤ 65 * k := by
 induction k with
 | zero => exact nZ
 | succ k ih =>
  have h1 := ih (by omega)
  have h2 := tbG_at (l := l) (i := k) (by omega)
  have h3 : (tTx (tbG l k)).length ≤ 65 := by rw [h2.1]; exact tTx_len (h _ h2.2)
  show (catN k (fun i => tTx (tbG l i)) ++ tTx (tbG l k)).length ≤ 65 * (k + 1)
  rw [List.length_append]
  omega
theorem uTx_len {e : UT} : ∀ {deep : Int}, uOk e deep → (uTx e).length ≤ 700 * usz e := by
 induction e with
 | nil => exact fun h => False.elim h
 | mk d ka kb ia ib =>
  intro deep h
  obtain ⟨_, hN, hX, hA, hB⟩ := h
  have ha := catN_len (n := d.an) (f := fun i => uTx (ka i)) (c := fun i => usz (ka i)) (m := 700) (fun i hi => ia i (hA i hi))
  have hb := catN_len (n := d.bn) (f := fun i => uTx (kb i)) (c := fun i => usz (kb i)) (m := 700) (fun i hi => ib i (hB i hi))
  have hs : usz (.mk d ka kb) = ownU d + (sumN d.an (fun i => usz (ka i)) + sumN d.bn (fun i => usz (kb i))) := rfl
  unfold ownU at hs
  have hk := hN.k0
  have hk6 := hN.k6
  rw [uTx_at (by intro h; cases h), hs]
  show (if d.k = 0 then itTx d.p.s ++ (itTx d.p.p ++ (itTx d.p.o ++ [46, 32])) else if d.k = 1 then [79, 80, 84, 73, 79, 78, 65, 76, 32] ++ gTx d.an ka
  else if d.k = 2 then [85, 78, 73, 79, 78, 32] ++ (gTx d.an ka ++ gTx d.bn kb) else if d.k = 3 then [77, 73, 78, 85, 83, 32] ++ gTx d.an ka else if d.k = 4 then [70, 73, 76, 84, 69, 82, 32] ++ eTx d.e else if d.k = 5 then [66, 73, 78, 68, 32] ++ (eTx d.e ++ vTx d.v.b)
  else [86, 65, 76, 85, 69, 83, 32] ++ (vTx d.v.b ++ ([123, 32] ++ (catN d.tb.length (fun i => tTx (tbG d.tb i)) ++ [125, 32])))).length ≤ _
  unfold gTx
  rcases (by omega : d.k = 0 ∨ d.k = 1 ∨ d.k = 2 ∨ d.k = 3 ∨ d.k = 4 ∨ d.k = 5 ∨ d.k = 6) with h | h | h | h | h | h | h
  · have hp := hN.p1 h
    have h1 := itTx_len hp.1
    have h2 := itTx_len hp.2.1
    have h3 := itTx_len hp.2.2
    simp only [h]; simp; omega
  · simp only [h]; simp; omega
  · simp only [h]; simp; omega
  · simp only [h]; simp; omega
  · have h1 := eTx_len (hX (.inl h))
    simp only [h]; simp; omega
  · have h1 := eTx_len (hX (.inr h))
    have h2 := vTx_len (hN.v1 (.inl h))
    simp only [h]; simp; omega
  have h1 := tbsTx_len hN.tm d.tb.length nR
  have h2 := vTx_len (hN.v1 (.inr h))
  have h3 := hN.tn
  simp only [h]; simp; omega
theorem Kp.ne2 {v v' : Value} {W wr : World} {b : Nat} (h : Kp v W v' wr) (hW : b < W.heap.size) (hv : v.ownBlock ≠ some b) : v'.ownBlock ≠ some b := fun e => by
 rcases h.blk b e with h1 | h1
 · exact hv h1
 omega
theorem SB.step2 {w0 w W : World} {B : Nat} {v0 v v' : Value} {bs bs' : List Int} {cs : List Value} {W' W'' : World} (h : SB w0 w W B v0 v bs cs W') (hW : w.heap.size < W.heap.size) (hv0 : v0.ownBlock ≠ some w.heap.size) (hwB : w0.heap.size ≤ B) (hO : Own8 W'' B v' bs'.length bs') (hK : Kp v W' v' W'') : SB w0 w W B v0 v' bs' cs W'' :=
 ⟨hO, h.kp.trans hK, hK.box h.bx h.ne, h.bl.trans ((hK.low (fun g hg => (h.own.2 g hg).1) h.lo).mono hwB), Nat.le_trans h.lo hK.size, (h.kp.trans hK).ne2 hW hv0⟩
def SayG (fn : Nat) (w0 : World) (B : Nat) (a : Option Addr) (cap n : Nat) (f : Nat → UT) : Prop := ∀ (v : Value) (bs : List Int) (W : World), Own8 W B v bs.length bs → Bl w0 W → B ≤ W.heap.size → bs.length + 700 * sumN n (fun i => usz (f i)) + 4 ≤ 900000 → Calls Tryz.prog fn #[v, .slice a n cap] W (SayK B v (bs ++ gTx n f) W)
theorem UT.lies.terms {B : Nat} {w : World} {e : UT} (h : e.lies B w) : TRowF B w e.d.ta e.d.tb := by
 cases e with
 | nil => exact False.elim h
 | mk d ka kb => exact h.2.2.2.1
end Go.Proofs.YthljoojcpbignaaGreatDoor
