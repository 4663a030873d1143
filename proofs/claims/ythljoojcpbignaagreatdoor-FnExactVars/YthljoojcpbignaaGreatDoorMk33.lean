import Derived.Test.YthljoojcpbignaaGreatDoorMk32
namespace Go.Proofs.YthljoojcpbignaaGreatDoor
open Go.RowKit Go.Deep
set_option maxHeartbeats 40000000
set_option maxRecDepth 100000
theorem store_stop {ops : Array Oper} {rest : List Oper} {o : Oper} {a : Act} {Q : Exit → Act → World → Prop} {w : World} (ty : TypeId) (s x : Operand)
 (_ho : o.op = .store ty s x) (h : Hd (wpList Tryz.prog ops Q (o :: rest) a w)) : wpList Tryz.prog ops Q (o :: rest) a w := h
theorem sayGroup_core (a : Option Addr) (cap n : Nat) (kid : Nat → UT) (deep : Int) (B : Nat) (w0 : World) (hn : n ≤ 1048576) (hR : KRow 0 w0 28 a n (fun i => (kid i).d.cells)) (hk : ∀ i, i < n → (kid i).lies 0 w0) (hok : ∀ i, i < n → uOk (kid i) deep) (hwB : w0.heap.size ≤ B)
 (IH : ∀ i, i < n → SayG 66 w0 B (kid i).d.aa (kid i).d.ac (kid i).d.an (kid i).ka ∧ SayG 66 w0 B (kid i).d.ba (kid i).d.bc (kid i).d.bn (kid i).kb)
 (v : Value) (bs : List Int) (w : World) (hV : ∀ g, v.ownBlock = some g → B ≤ g) (hwd : Calls Tryz.prog 67 #[v, .string ⟨#[123]⟩] w (SayK B v (bs ++ [123, 32]) w)) (hw : Bl w0 w) (hB : B ≤ w.heap.size) (hm : bs.length + 700 * sumN n (fun i => usz (kid i)) + 4 ≤ 900000) :
 Calls Tryz.prog 66 #[v, .slice a n cap] w (SayK B v (bs ++ gTx n kid) w) := by
 have HS0 : Hd (∀ v1 z1, Own8 z1 B v1 (bs ++ [123, 32]).length (bs ++ [123, 32]) → Kp v w v1 z1 → SayS w0 w B v v1 (bs ++ [123, 32]) z1) := fun v1 z1 hO hK => ⟨hO, hK, hw.trans ((hK.low hV hB).mono hwB), Nat.le_trans hB hK.size⟩
 have HMX := iH hm
 have HWD := iH hwd
 have HCL : Hd (∀ k, k ≤ n → (catN k (fun i => uTx (kid i))).length ≤ 700 * sumN k (fun i => usz (kid i))) := fun k hk2 => catN_len (fun i hi => uTx_len (hok i (by omega)))
 have HSM : Hd (∀ k, k < n → sumN k (fun i => usz (kid i)) + usz (kid k) ≤ sumN n (fun i => usz (kid i))) := fun k hk2 => sumN_mono (f := fun i => usz (kid i)) (show k + 1 ≤ n by omega)
 have HI := iH IH
 have HOK := iH hok
 have HEL := iH (fun i (hi : i < n) => (hk i hi).parts)
 have HTR := iH (fun i (hi : i < n) => (hk i hi).terms)
 have HE : Hd (bs ++ [123, 32] = bs ++ [123, 32] ++ catN 0 (fun i => uTx (kid i))) := (show _ = _ by simp [catN])
 have hfin : ∀ (v' : Value) (W : World), Hd (SayS w0 w B v v' (bs ++ [123, 32] ++ catN n (fun i => uTx (kid i))) W) → Hd (Calls Tryz.prog 67 #[v', .string ⟨#[125]⟩] W (SayK B v' (bs ++ gTx n kid) W)) := fun v' W h => (by
  have h1 := l4wordK v' B (bs ++ [123, 32] ++ catN n (fun i => uTx (kid i))) ⟨#[125]⟩ W h.o.own h.o.lo (by decide) (by have h2 := HCL.o n nR; have h3 := HMX.o; simp only [lA, lC, lN]; rw [show (ByteArray.mk #[125]).size = 1 from rfl]; omega)
  have e : bs ++ [123, 32] ++ catN n (fun i => uTx (kid i)) ++ (numsOf ⟨#[125]⟩ ++ [32]) = bs ++ gTx n kid := by
   show bs ++ [123, 32] ++ catN n (fun i => uTx (kid i)) ++ [125, 32] = _
   unfold gTx
   simp
  rw [e] at h1
  exact h1)
 have HFIN := hidU hfin
 clear hV hwd hw hB hm IH hok hfin
 go_in
 go_wp2_with fail
 refine HWD.o.mono ?_
 rintro e z1 ⟨v1, rfl, hO1, hK1⟩
 have HS1 := iH (HS0.o v1 z1 hO1 hK1)
 clear hO1 hK1 HS0 HWD
 go_wp2_with fail
 go_loopw [0, 5] (fun lv i wr => ∃ (k : Nat) (v' : Value), k ≤ n ∧ v' = lv ∧ i = .int .i64 k ∧ Hd (SayS w0 w B v v' (bs ++ [123, 32] ++ catN k (fun i => uTx (kid i))) wr)) (fun _ i _ => n - (intOf i).toNat)
 case atStart => exact ⟨0, v1, nZ, rfl, rfl, HE.o ▸ HS1⟩
 clear HS1 HE
 obtain ⟨k, v', hk2, rfl, rfl, HSr⟩ := hrel
 by_cases hlk : k < n
 · obtain ⟨b, off, rfl, _, hlt, hck⟩ := hR.resolve_left (by omega)
   have HC := iH hck
   clear hR hck hk
   have hlkz : (k : Int) < (n : Int) := by omega
   have hcx : wr.rangeAt b (off + k * 28) (kid k).d.cl := fun c u hu => (HSr.o.bl.cell (p := ⟨b, off + k * 28 + c, none⟩) hlt).trans (HC.o k hlk c u hu)
   have hth := (OB.new wr zUa 103).there 0 28 (by simp)
   have one1 := all_oneCell_toArray (cs := (kid k).d.cl) (by simp [Value.oneCell'])
   have HBX : Hd (Box ((wr.alloc (.cells zUa 103)).setCells wr.heap.size 0 (kid k).d.cl) wr.heap.size (kid k).d.cells) := ⟨(show wr.heap.size < _ from Nat.lt_of_lt_of_le (by simp) (upper_sets wr.heap.size (kid k).d.cl 0 (wr.alloc (.cells zUa 103))).size), fun c u hu => (by have h := World.rangeAt_setCells_same (wr.alloc (.cells zUa 103)) wr.heap.size 0 (kid k).d.cl hth c u hu; rwa [Nat.zero_add] at h)⟩
   have HBW : Hd (Bl wr ((wr.alloc (.cells zUa 103)).setCells wr.heap.size 0 (kid k).d.cl)) := below_sets wr.heap.size nR _ _ _ (bl_a _)
   have HKr := iH HSr.o.kp
   have HNV := iH HSr.o.own.off1
   have HL0 : Hd ((bs ++ [123, 32] ++ catN k (fun i => uTx (kid i))).length ≤ bs.length + 2 + 700 * sumN k (fun i => usz (kid i))) := (show _ ≤ _ by have h1 := HCL.o k (by omega); simp only [lA, lC, lN]; omega)
   have HLN : Hd (bs.length + 700 * (sumN k (fun i => usz (kid i)) + usz (kid k)) + 4 ≤ 900000) := (show _ ≤ _ by have h1 := HSM.o k hlk; have h2 := HMX.o; omega)
   have HIK := hidU (HI.o k hlk)
   have HOKk := hidU (uOk_at (HOK.o k hlk))
   go_wp2_with (first | (with_reducible refine wpq_at ?_; refine wpList_load_mid rfl 103 _ rfl b (off + k * 28) rfl (kid k).d.cl _ hcx Tryz.underlying103 rfl (by kernel_rfl) ?_; try simp only [Act.put, sA, zA, cA]) | (with_reducible refine wpq_at ?_; refine store_stop 103 (.tmp 6) (.tmp 19) rfl ?_))
   change wpList _ _ _ _ _ _
   refine wpList_store_mid rfl 103 _ _ rfl wr.heap.size 0 (kid k).d.ar rfl rfl hth (by kernel_rfl) one1 ?_
   try simp only [Act.put]
   generalize ((wr.alloc (.cells zUa 103)).setCells wr.heap.size 0 (kid k).d.cl) = WB at *
   generalize Value.agg (kid k).d.ar = vg
   clear hcx hth one1
   have HS : Hd (SB w0 wr WB B v' v' (bs ++ [123, 32] ++ catN k (fun i => uTx (kid i))) (kid k).d.cells WB) := ⟨HSr.o.own.below HBW.o, Kp.of_below brf, HBX.o, HSr.o.bl.trans (HBW.o.mono HSr.o.bl.size), Nat.le_trans HSr.o.lo HBW.o.size, HNV.o⟩
   have HWS := iH HBX.o.1
   have x0 := HBX.o.2 0 _ rfl
   clear HSr HBX
   rcases (show (kid k).d.k = 0 ∨ (kid k).d.k = 1 ∨ (kid k).d.k = 2 ∨ (kid k).d.k = 3 ∨ (kid k).d.k = 4 ∨ (kid k).d.k = 5 ∨ (kid k).d.k = 6 by have h1 := HOKk.o.2.2.1.k0; have h2 := HOKk.o.2.2.1.k6; omega) with hkk | hkk | hkk | hkk | hkk | hkk | hkk
   · have HUT : Hd (uTx (kid k) = itTx (kid k).d.p.s ++ (itTx (kid k).d.p.p ++ (itTx (kid k).d.p.o ++ [46, 32]))) := (show _ = _ by rw [uTx_at HOKk.o.1, hkk]; rfl)
     have HKK := iH hkk
     have HSZ : Hd (usz (kid k) = 1 + (sumN (kid k).d.an (fun i => usz ((kid k).ka i)) + sumN (kid k).d.bn (fun i => usz ((kid k).kb i)))) := (show _ = _ by rw [usz_at HOKk.o.1]; unfold ownU; rw [hkk]; simp)
     have HPO := iH (HOKk.o.2.2.1.p1 hkk)
     have HPL := iH ((HEL.o k hlk).1)
     have HIL := hidU (And.intro (itTx_len HPO.o.1) (And.intro (itTx_len HPO.o.2.1) (itTx_len HPO.o.2.2)))
     rw [hkk] at x0
     clear hkk
     have HRG1 : Hd (∀ w', (Bl w0 w' ∧ Box w' wr.heap.size (kid k).d.cells) → w'.rangeAt wr.heap.size 1 (kid k).d.p.s.cl) := fun w' hw' => hw'.2.range 1 _ rfl
     have HRG6 : Hd (∀ w', (Bl w0 w' ∧ Box w' wr.heap.size (kid k).d.cells) → w'.rangeAt wr.heap.size 6 (kid k).d.p.p.cl) := fun w' hw' => hw'.2.range 6 _ rfl
     have HRG11 : Hd (∀ w', (Bl w0 w' ∧ Box w' wr.heap.size (kid k).d.cells) → w'.rangeAt wr.heap.size 11 (kid k).d.p.o.cl) := fun w' hw' => hw'.2.range 11 _ rfl
     have HS0 := iH (HS.o.below bdr)
     go_wp2_with fail
     refine whd (fun w' => Bl w0 w' ∧ Box w' wr.heap.size (kid k).d.cells) ?_ fun hHeld => ?_
     · exact ⟨Below.drew HS.o.bl, HS.o.bx.below bdr⟩
     refine tkB 0 49 ?_
     refine tkB 1 50 ?_
     refine tkB 2 51 ?_
     refine takeq (i := 3) 52 (v := .agg (kid k).d.p.s.ar) rfl rfl (by kernel_rfl) (by kernel_rfl) (by kernel_rfl) (fun _ _ _ h => h) (yieldsIf_load_mid (by rfl) 95 _ rfl wr.heap.size 1 rfl (kid k).d.p.s.cl _ HRG1.o Tryz.underlying95 rfl (by kernel_rfl)) hHeld ?_
     refine tkB 5 54 ?_
     refine tkB 6 55 ?_
     refine takeq (i := 7) 56 (v := .agg (kid k).d.p.p.ar) rfl rfl (by kernel_rfl) (by kernel_rfl) (by kernel_rfl) (fun _ _ _ h => h) (yieldsIf_load_mid (by rfl) 95 _ rfl wr.heap.size 6 rfl (kid k).d.p.p.cl _ HRG6.o Tryz.underlying95 rfl (by kernel_rfl)) hHeld ?_
     refine tkB 9 58 ?_
     refine tkB 10 59 ?_
     refine takeq (i := 11) 60 (v := .agg (kid k).d.p.o.ar) rfl rfl (by kernel_rfl) (by kernel_rfl) (by kernel_rfl) (fun _ _ _ h => h) (yieldsIf_load_mid (by rfl) 95 _ rfl wr.heap.size 11 rfl (kid k).d.p.o.cl _ HRG11.o Tryz.underlying95 rfl (by kernel_rfl)) hHeld ?_
     try simp only [Act.put, sA, zA, cA]
     refine rdA 4 fun K hK => ?_
     go_simp
     refine (l4sayItemK v' B (bs ++ [123, 32] ++ catN k (fun i => uTx (kid i))) (kid k).d.p.s 1 w0 _ HS0.o.own HPL.o.1 HPO.o.1 HS0.o.bl hwB HS0.o.lo (by have h := HLN.o; have hL := HL0.o; have h1 := HIL.o; have h9 := HSZ.o; simp only [lA, lC, lN] at hL ⊢; omega)).mono ?_
     rintro e z1 ⟨v1, rfl, hO1, hK1⟩
     have HS1 := iH (HS0.o.step2 HWS.o HNV.o hwB hO1 hK1)
     clear hO1 hK1
     go_wp2_with fail
     refine hK.out _ _ ?_ fun hHeld => ?_
     · exact ⟨HS1.o.bl, HS1.o.bx⟩
     clear hK K
     try simp only [Act.put, sA, zA, cA]
     refine rdA 8 fun K hK => ?_
     go_simp
     refine (l4sayItemK v1 B (bs ++ [123, 32] ++ catN k (fun i => uTx (kid i)) ++ itTx (kid k).d.p.s) (kid k).d.p.p 0 w0 _ HS1.o.own HPL.o.2.1 HPO.o.2.1 HS1.o.bl hwB HS1.o.lo (by have h := HLN.o; have hL := HL0.o; have h1 := HIL.o; have h9 := HSZ.o; simp only [lA, lC, lN] at hL ⊢; omega)).mono ?_
     rintro e z2 ⟨v2, rfl, hO2, hK2⟩
     have HS2 := iH (HS1.o.step2 HWS.o HNV.o hwB hO2 hK2)
     clear hO2 hK2
     go_wp2_with fail
     refine hK.out _ _ ?_ fun hHeld => ?_
     · exact ⟨HS2.o.bl, HS2.o.bx⟩
     clear hK K
     try simp only [Act.put, sA, zA, cA]
     refine rdA 12 fun K hK => ?_
     go_simp
     refine (l4sayItemK v2 B (bs ++ [123, 32] ++ catN k (fun i => uTx (kid i)) ++ itTx (kid k).d.p.s ++ itTx (kid k).d.p.p) (kid k).d.p.o 3 w0 _ HS2.o.own HPL.o.2.2 HPO.o.2.2 HS2.o.bl hwB HS2.o.lo (by have h := HLN.o; have hL := HL0.o; have h1 := HIL.o; have h9 := HSZ.o; simp only [lA, lC, lN] at hL ⊢; omega)).mono ?_
     rintro e z3 ⟨v3, rfl, hO3, hK3⟩
     have HS3 := iH (HS2.o.step2 HWS.o HNV.o hwB hO3 hK3)
     clear hO3 hK3
     go_wp2_with fail
     refine hK.out _ _ ?_ fun hHeld => ?_
     · exact ⟨HS3.o.bl, HS3.o.bx⟩
     clear hK K
     try simp only [Act.put, sA, zA, cA]
     refine rdA 13 fun K hK => ?_
     go_simp
     refine (l4wordK v3 B (bs ++ [123, 32] ++ catN k (fun i => uTx (kid i)) ++ itTx (kid k).d.p.s ++ itTx (kid k).d.p.p ++ itTx (kid k).d.p.o) ⟨#[46]⟩ _ HS3.o.own HS3.o.lo (by decide) (by have h := HLN.o; have hL := HL0.o; have h1 := HIL.o; have h9 := HSZ.o; (try simp only [lA, lC, lN] at hL ⊢); rw [show (ByteArray.mk #[46]).size = 1 from rfl]; omega)).mono ?_
     rintro e z4 ⟨v4, rfl, hO4, hK4⟩
     have HS4 : Hd (SB w0 wr WB B v' v4 (bs ++ [123, 32] ++ catN k (fun i => uTx (kid i)) ++ itTx (kid k).d.p.s ++ itTx (kid k).d.p.p ++ itTx (kid k).d.p.o ++ [46, 32]) (kid k).d.cells z4) := HS3.o.step2 HWS.o HNV.o hwB hO4 hK4
     clear hO4 hK4
     go_wp2_with fail
     refine hK.out _ _ ?_ fun hHeld => ?_
     · exact ⟨HS4.o.bl, HS4.o.bx⟩
     clear hK K
     refine tkB 14 0 ?_
     refine wpAnyH_done (by kernel_rfl) ?_ _
     have HN9 : Hd (SayS w0 w B v v4 (bs ++ [123, 32] ++ catN (k + 1) (fun i => uTx (kid i))) z4) := (show SayS _ _ _ _ _ _ _ by
      have hT : bs ++ [123, 32] ++ catN k (fun i => uTx (kid i)) ++ itTx (kid k).d.p.s ++ itTx (kid k).d.p.p ++ itTx (kid k).d.p.o ++ [46, 32] = bs ++ [123, 32] ++ catN (k + 1) (fun i => uTx (kid i)) := by
       show _ = bs ++ [123, 32] ++ (catN k (fun i => uTx (kid i)) ++ uTx (kid k))
       rw [HUT.o]
       simp
      have h := HS4.o
      rw [hT] at h
      exact ⟨h.own, HKr.o.trans (Kp.pre HBW.o h.kp), h.bl, h.lo⟩)
     clear hHeld HS0 HS1 HS2 HS3 HS4 HS HRG1 HRG6 HRG11 HPO HPL HIL
     go_wp2
     go_roundw
     case rel => exact ⟨k + 1, v4, by omega, rfl, by go_num, HN9⟩
     case measure => simp [intOf]; omega
   · have HUT : Hd (uTx (kid k) = [79, 80, 84, 73, 79, 78, 65, 76, 32] ++ gTx (kid k).d.an (kid k).ka) := (show _ = _ by rw [uTx_at HOKk.o.1, hkk]; rfl)
     have HKK := iH hkk
     have HSZ : Hd (usz (kid k) = 1 + (sumN (kid k).d.an (fun i => usz ((kid k).ka i)) + sumN (kid k).d.bn (fun i => usz ((kid k).kb i)))) := (show _ = _ by rw [usz_at HOKk.o.1]; unfold ownU; rw [hkk]; simp)
     rw [hkk] at x0
     clear hkk
     have HF : Hd (∀ w', (Bl w0 w' ∧ Box w' wr.heap.size (kid k).d.cells) → w'.cell? ⟨wr.heap.size, 24, none⟩ = some (.slice (kid k).d.v.a (kid k).d.v.len (kid k).d.v.cap) ∧ w'.cell? ⟨wr.heap.size, 26, none⟩ = some (.slice (kid k).d.aa (kid k).d.an (kid k).d.ac) ∧ w'.cell? ⟨wr.heap.size, 27, none⟩ = some (.slice (kid k).d.ba (kid k).d.bn (kid k).d.bc)) := fun w' hw' => ⟨hw'.2.2 24 _ rfl, hw'.2.2 26 _ rfl, hw'.2.2 27 _ rfl⟩
     have HS0 := iH (HS.o.below bdr)
     go_wp2_with fail
     refine whd (fun w' => Bl w0 w' ∧ Box w' wr.heap.size (kid k).d.cells) ?_ fun hHeld => ?_
     · exact ⟨Below.drew HS.o.bl, HS.o.bx.below bdr⟩
     refine tkB 0 65 ?_
     refine tkB 2 67 ?_
     refine tkA 3 68 (v := ?v11) ?y11 ?_
     case y11 => (intro w' hSw; obtain ⟨q1, q2, q3⟩ := HF.o w' hSw; go_simp; (try with_reducible rfl))
     try simp only [Act.put, sA, zA, cA]
     refine rdA 1 fun K hK => ?_
     go_simp
     refine (l4wordK v' B (bs ++ [123, 32] ++ catN k (fun i => uTx (kid i))) ⟨#[79, 80, 84, 73, 79, 78, 65, 76]⟩ _ HS0.o.own HS0.o.lo (by decide) (by have h := HLN.o; have hL := HL0.o; have h1 := HSZ.o; (try simp only [lA, lC, lN] at hL ⊢); rw [show (ByteArray.mk #[79, 80, 84, 73, 79, 78, 65, 76]).size = 8 from rfl]; omega)).mono ?_
     rintro e z1 ⟨v1, rfl, hO1, hK1⟩
     have HS1 : Hd (SB w0 wr WB B v' v1 (bs ++ [123, 32] ++ catN k (fun i => uTx (kid i)) ++ [79, 80, 84, 73, 79, 78, 65, 76, 32]) (kid k).d.cells z1) := HS0.o.step2 HWS.o HNV.o hwB hO1 hK1
     clear hO1 hK1
     go_wp2_with fail
     refine hK.out _ _ ?_ fun hHeld => ?_
     · exact ⟨HS1.o.bl, HS1.o.bx⟩
     clear hK K
     try simp only [Act.put, sA, zA, cA]
     refine rdA 4 fun K hK => ?_
     go_simp
     refine ((HIK.o).1 v1 (bs ++ [123, 32] ++ catN k (fun i => uTx (kid i)) ++ [79, 80, 84, 73, 79, 78, 65, 76, 32]) _ HS1.o.own HS1.o.bl HS1.o.lo (by have h := HLN.o; have hL := HL0.o; have h1 := HSZ.o; simp only [lA, lC, lN] at hL ⊢; omega)).mono ?_
     rintro e z2 ⟨v2, rfl, hO2, hK2⟩
     have HS2 := iH (HS1.o.step2 HWS.o HNV.o hwB hO2 hK2)
     clear hO2 hK2
     go_wp2_with fail
     refine hK.out _ _ ?_ fun hHeld => ?_
     · exact ⟨HS2.o.bl, HS2.o.bx⟩
     clear hK K
     refine tkB 5 0 ?_
     refine wpAnyH_done (by kernel_rfl) ?_ _
     have HN9 : Hd (SayS w0 w B v v2 (bs ++ [123, 32] ++ catN (k + 1) (fun i => uTx (kid i))) z2) := (show SayS _ _ _ _ _ _ _ by
      have hT : bs ++ [123, 32] ++ catN k (fun i => uTx (kid i)) ++ [79, 80, 84, 73, 79, 78, 65, 76, 32] ++ gTx (kid k).d.an (kid k).ka = bs ++ [123, 32] ++ catN (k + 1) (fun i => uTx (kid i)) := by
       show _ = bs ++ [123, 32] ++ (catN k (fun i => uTx (kid i)) ++ uTx (kid k))
       rw [HUT.o]
       simp [gTx]
      have h := HS2.o
      rw [hT] at h
      exact ⟨h.own, HKr.o.trans (Kp.pre HBW.o h.kp), h.bl, h.lo⟩)
     clear hHeld HS0 HS1 HS2 HS HF
     go_wp2
     go_roundw
     case rel => exact ⟨k + 1, v2, by omega, rfl, by go_num, HN9⟩
     case measure => simp [intOf]; omega
   · have HUT : Hd (uTx (kid k) = [85, 78, 73, 79, 78, 32] ++ (gTx (kid k).d.an (kid k).ka ++ gTx (kid k).d.bn (kid k).kb)) := (show _ = _ by rw [uTx_at HOKk.o.1, hkk]; rfl)
     have HKK := iH hkk
     have HSZ : Hd (usz (kid k) = 1 + (sumN (kid k).d.an (fun i => usz ((kid k).ka i)) + sumN (kid k).d.bn (fun i => usz ((kid k).kb i)))) := (show _ = _ by rw [usz_at HOKk.o.1]; unfold ownU; rw [hkk]; simp)
     have HGL : Hd ((gTx (kid k).d.an (kid k).ka).length ≤ 700 * sumN (kid k).d.an (fun i => usz ((kid k).ka i)) + 4) := (show _ ≤ _ by have h1 := catN_len (n := (kid k).d.an) (f := fun i => uTx ((kid k).ka i)) (c := fun i => usz ((kid k).ka i)) (m := 700) (fun i hi => uTx_len (HOKk.o.2.2.2.2.1 i hi)); unfold gTx; simp only [lA, lC, lN]; omega)
     rw [hkk] at x0
     clear hkk
     have HF : Hd (∀ w', (Bl w0 w' ∧ Box w' wr.heap.size (kid k).d.cells) → w'.cell? ⟨wr.heap.size, 24, none⟩ = some (.slice (kid k).d.v.a (kid k).d.v.len (kid k).d.v.cap) ∧ w'.cell? ⟨wr.heap.size, 26, none⟩ = some (.slice (kid k).d.aa (kid k).d.an (kid k).d.ac) ∧ w'.cell? ⟨wr.heap.size, 27, none⟩ = some (.slice (kid k).d.ba (kid k).d.bn (kid k).d.bc)) := fun w' hw' => ⟨hw'.2.2 24 _ rfl, hw'.2.2 26 _ rfl, hw'.2.2 27 _ rfl⟩
     have HS0 := iH (HS.o.below bdr)
     go_wp2_with fail
     refine whd (fun w' => Bl w0 w' ∧ Box w' wr.heap.size (kid k).d.cells) ?_ fun hHeld => ?_
     · exact ⟨Below.drew HS.o.bl, HS.o.bx.below bdr⟩
     refine tkB 0 72 ?_
     refine tkB 2 74 ?_
     refine tkA 3 75 (v := ?v15) ?y15 ?_
     case y15 => (intro w' hSw; obtain ⟨q1, q2, q3⟩ := HF.o w' hSw; go_simp; (try with_reducible rfl))
     refine tkB 5 77 ?_
     refine tkA 6 78 (v := ?v17) ?y17 ?_
     case y17 => (intro w' hSw; obtain ⟨q1, q2, q3⟩ := HF.o w' hSw; go_simp; (try with_reducible rfl))
     try simp only [Act.put, sA, zA, cA]
     refine rdA 1 fun K hK => ?_
     go_simp
     refine (l4wordK v' B (bs ++ [123, 32] ++ catN k (fun i => uTx (kid i))) ⟨#[85, 78, 73, 79, 78]⟩ _ HS0.o.own HS0.o.lo (by decide) (by have h := HLN.o; have hL := HL0.o; have h1 := HSZ.o; (try simp only [lA, lC, lN] at hL ⊢); rw [show (ByteArray.mk #[85, 78, 73, 79, 78]).size = 5 from rfl]; omega)).mono ?_
     rintro e z1 ⟨v1, rfl, hO1, hK1⟩
     have HS1 : Hd (SB w0 wr WB B v' v1 (bs ++ [123, 32] ++ catN k (fun i => uTx (kid i)) ++ [85, 78, 73, 79, 78, 32]) (kid k).d.cells z1) := HS0.o.step2 HWS.o HNV.o hwB hO1 hK1
     clear hO1 hK1
     go_wp2_with fail
     refine hK.out _ _ ?_ fun hHeld => ?_
     · exact ⟨HS1.o.bl, HS1.o.bx⟩
     clear hK K
     try simp only [Act.put, sA, zA, cA]
     refine rdA 4 fun K hK => ?_
     go_simp
     refine ((HIK.o).1 v1 (bs ++ [123, 32] ++ catN k (fun i => uTx (kid i)) ++ [85, 78, 73, 79, 78, 32]) _ HS1.o.own HS1.o.bl HS1.o.lo (by have h := HLN.o; have hL := HL0.o; have h1 := HSZ.o; have h2 := HGL.o; simp only [lA, lC, lN] at hL ⊢; omega)).mono ?_
     rintro e z2 ⟨v2, rfl, hO2, hK2⟩
     have HS2 := iH (HS1.o.step2 HWS.o HNV.o hwB hO2 hK2)
     clear hO2 hK2
     go_wp2_with fail
     refine hK.out _ _ ?_ fun hHeld => ?_
     · exact ⟨HS2.o.bl, HS2.o.bx⟩
     clear hK K
     try simp only [Act.put, sA, zA, cA]
     refine rdA 7 fun K hK => ?_
     go_simp
     refine ((HIK.o).2 v2 (bs ++ [123, 32] ++ catN k (fun i => uTx (kid i)) ++ [85, 78, 73, 79, 78, 32] ++ gTx (kid k).d.an (kid k).ka) _ HS2.o.own HS2.o.bl HS2.o.lo (by have h := HLN.o; have hL := HL0.o; have h1 := HSZ.o; have h2 := HGL.o; simp only [lA, lC, lN] at hL ⊢; omega)).mono ?_
     rintro e z3 ⟨v3, rfl, hO3, hK3⟩
     have HS3 := iH (HS2.o.step2 HWS.o HNV.o hwB hO3 hK3)
     clear hO3 hK3
     go_wp2_with fail
     refine hK.out _ _ ?_ fun hHeld => ?_
     · exact ⟨HS3.o.bl, HS3.o.bx⟩
     clear hK K
     refine tkB 8 0 ?_
     refine wpAnyH_done (by kernel_rfl) ?_ _
     have HN9 : Hd (SayS w0 w B v v3 (bs ++ [123, 32] ++ catN (k + 1) (fun i => uTx (kid i))) z3) := (show SayS _ _ _ _ _ _ _ by
      have hT : bs ++ [123, 32] ++ catN k (fun i => uTx (kid i)) ++ [85, 78, 73, 79, 78, 32] ++ gTx (kid k).d.an (kid k).ka ++ gTx (kid k).d.bn (kid k).kb = bs ++ [123, 32] ++ catN (k + 1) (fun i => uTx (kid i)) := by
       show _ = bs ++ [123, 32] ++ (catN k (fun i => uTx (kid i)) ++ uTx (kid k))
       rw [HUT.o]
       simp [gTx]
      have h := HS3.o
      rw [hT] at h
      exact ⟨h.own, HKr.o.trans (Kp.pre HBW.o h.kp), h.bl, h.lo⟩)
     clear hHeld HS0 HS1 HS2 HS3 HS HF HGL
     go_wp2
     go_roundw
     case rel => exact ⟨k + 1, v3, by omega, rfl, by go_num, HN9⟩
     case measure => simp [intOf]; omega
   · have HUT : Hd (uTx (kid k) = [77, 73, 78, 85, 83, 32] ++ gTx (kid k).d.an (kid k).ka) := (show _ = _ by rw [uTx_at HOKk.o.1, hkk]; rfl)
     have HKK := iH hkk
     have HSZ : Hd (usz (kid k) = 1 + (sumN (kid k).d.an (fun i => usz ((kid k).ka i)) + sumN (kid k).d.bn (fun i => usz ((kid k).kb i)))) := (show _ = _ by rw [usz_at HOKk.o.1]; unfold ownU; rw [hkk]; simp)
     rw [hkk] at x0
     clear hkk
     have HF : Hd (∀ w', (Bl w0 w' ∧ Box w' wr.heap.size (kid k).d.cells) → w'.cell? ⟨wr.heap.size, 24, none⟩ = some (.slice (kid k).d.v.a (kid k).d.v.len (kid k).d.v.cap) ∧ w'.cell? ⟨wr.heap.size, 26, none⟩ = some (.slice (kid k).d.aa (kid k).d.an (kid k).d.ac) ∧ w'.cell? ⟨wr.heap.size, 27, none⟩ = some (.slice (kid k).d.ba (kid k).d.bn (kid k).d.bc)) := fun w' hw' => ⟨hw'.2.2 24 _ rfl, hw'.2.2 26 _ rfl, hw'.2.2 27 _ rfl⟩
     have HS0 := iH (HS.o.below bdr)
     go_wp2_with fail
     refine whd (fun w' => Bl w0 w' ∧ Box w' wr.heap.size (kid k).d.cells) ?_ fun hHeld => ?_
     · exact ⟨Below.drew HS.o.bl, HS.o.bx.below bdr⟩
     refine tkB 0 82 ?_
     refine tkB 2 84 ?_
     refine tkA 3 85 (v := ?v21) ?y21 ?_
     case y21 => (intro w' hSw; obtain ⟨q1, q2, q3⟩ := HF.o w' hSw; go_simp; (try with_reducible rfl))
     try simp only [Act.put, sA, zA, cA]
     refine rdA 1 fun K hK => ?_
     go_simp
     refine (l4wordK v' B (bs ++ [123, 32] ++ catN k (fun i => uTx (kid i))) ⟨#[77, 73, 78, 85, 83]⟩ _ HS0.o.own HS0.o.lo (by decide) (by have h := HLN.o; have hL := HL0.o; have h1 := HSZ.o; (try simp only [lA, lC, lN] at hL ⊢); rw [show (ByteArray.mk #[77, 73, 78, 85, 83]).size = 5 from rfl]; omega)).mono ?_
     rintro e z1 ⟨v1, rfl, hO1, hK1⟩
     have HS1 : Hd (SB w0 wr WB B v' v1 (bs ++ [123, 32] ++ catN k (fun i => uTx (kid i)) ++ [77, 73, 78, 85, 83, 32]) (kid k).d.cells z1) := HS0.o.step2 HWS.o HNV.o hwB hO1 hK1
     clear hO1 hK1
     go_wp2_with fail
     refine hK.out _ _ ?_ fun hHeld => ?_
     · exact ⟨HS1.o.bl, HS1.o.bx⟩
     clear hK K
     try simp only [Act.put, sA, zA, cA]
     refine rdA 4 fun K hK => ?_
     go_simp
     refine ((HIK.o).1 v1 (bs ++ [123, 32] ++ catN k (fun i => uTx (kid i)) ++ [77, 73, 78, 85, 83, 32]) _ HS1.o.own HS1.o.bl HS1.o.lo (by have h := HLN.o; have hL := HL0.o; have h1 := HSZ.o; simp only [lA, lC, lN] at hL ⊢; omega)).mono ?_
     rintro e z2 ⟨v2, rfl, hO2, hK2⟩
     have HS2 := iH (HS1.o.step2 HWS.o HNV.o hwB hO2 hK2)
     clear hO2 hK2
     go_wp2_with fail
     refine hK.out _ _ ?_ fun hHeld => ?_
     · exact ⟨HS2.o.bl, HS2.o.bx⟩
     clear hK K
     refine tkB 5 0 ?_
     refine wpAnyH_done (by kernel_rfl) ?_ _
     have HN9 : Hd (SayS w0 w B v v2 (bs ++ [123, 32] ++ catN (k + 1) (fun i => uTx (kid i))) z2) := (show SayS _ _ _ _ _ _ _ by
      have hT : bs ++ [123, 32] ++ catN k (fun i => uTx (kid i)) ++ [77, 73, 78, 85, 83, 32] ++ gTx (kid k).d.an (kid k).ka = bs ++ [123, 32] ++ catN (k + 1) (fun i => uTx (kid i)) := by
       show _ = bs ++ [123, 32] ++ (catN k (fun i => uTx (kid i)) ++ uTx (kid k))
       rw [HUT.o]
       simp [gTx]
      have h := HS2.o
      rw [hT] at h
      exact ⟨h.own, HKr.o.trans (Kp.pre HBW.o h.kp), h.bl, h.lo⟩)
     clear hHeld HS0 HS1 HS2 HS HF
     go_wp2
     go_roundw
     case rel => exact ⟨k + 1, v2, by omega, rfl, by go_num, HN9⟩
     case measure => simp [intOf]; omega
   · have HUT : Hd (uTx (kid k) = [70, 73, 76, 84, 69, 82, 32] ++ eTx (kid k).d.e) := (show _ = _ by rw [uTx_at HOKk.o.1, hkk]; rfl)
     have HKK := iH hkk
     have HSZ : Hd (usz (kid k) = 1 + esz (kid k).d.e + (sumN (kid k).d.an (fun i => usz ((kid k).ka i)) + sumN (kid k).d.bn (fun i => usz ((kid k).kb i)))) := (show _ = _ by rw [usz_at HOKk.o.1]; unfold ownU; rw [hkk]; simp)
     have HEO := iH (HOKk.o.2.2.2.1 (.inl hkk))
     have HEX := iH (l4sayExprK (kid k).d.e (deep + 1) B w0 (HEL.o k hlk).2.1 HEO.o hwB)
     have HEN := hidU (eTx_len HEO.o)
     rw [hkk] at x0
     clear hkk
     have HF : Hd (∀ w', (Bl w0 w' ∧ Box w' wr.heap.size (kid k).d.cells) → w'.cell? ⟨wr.heap.size, 24, none⟩ = some (.slice (kid k).d.v.a (kid k).d.v.len (kid k).d.v.cap) ∧ w'.cell? ⟨wr.heap.size, 26, none⟩ = some (.slice (kid k).d.aa (kid k).d.an (kid k).d.ac) ∧ w'.cell? ⟨wr.heap.size, 27, none⟩ = some (.slice (kid k).d.ba (kid k).d.bn (kid k).d.bc)) := fun w' hw' => ⟨hw'.2.2 24 _ rfl, hw'.2.2 26 _ rfl, hw'.2.2 27 _ rfl⟩
     have HRG16 : Hd (∀ w', (Bl w0 w' ∧ Box w' wr.heap.size (kid k).d.cells) → w'.rangeAt wr.heap.size 16 (kid k).d.e.d.cl) := fun w' hw' => hw'.2.range 16 _ rfl
     have HS0 := iH (HS.o.below bdr)
     go_wp2_with fail
     refine whd (fun w' => Bl w0 w' ∧ Box w' wr.heap.size (kid k).d.cells) ?_ fun hHeld => ?_
     · exact ⟨Below.drew HS.o.bl, HS.o.bx.below bdr⟩
     refine tkB 0 89 ?_
     refine tkB 2 91 ?_
     refine takeq (i := 3) 92 (v := .agg (kid k).d.e.d.ar) rfl rfl (by kernel_rfl) (by kernel_rfl) (by kernel_rfl) (fun _ _ _ h => h) (yieldsIf_load_mid (by rfl) 100 _ rfl wr.heap.size 16 rfl (kid k).d.e.d.cl _ HRG16.o Tryz.underlying100 rfl (by kernel_rfl)) hHeld ?_
     try simp only [Act.put, sA, zA, cA]
     refine rdA 1 fun K hK => ?_
     go_simp
     refine (l4wordK v' B (bs ++ [123, 32] ++ catN k (fun i => uTx (kid i))) ⟨#[70, 73, 76, 84, 69, 82]⟩ _ HS0.o.own HS0.o.lo (by decide) (by have h := HLN.o; have hL := HL0.o; have h1 := HSZ.o; (try simp only [lA, lC, lN] at hL ⊢); rw [show (ByteArray.mk #[70, 73, 76, 84, 69, 82]).size = 6 from rfl]; omega)).mono ?_
     rintro e z1 ⟨v1, rfl, hO1, hK1⟩
     have HS1 : Hd (SB w0 wr WB B v' v1 (bs ++ [123, 32] ++ catN k (fun i => uTx (kid i)) ++ [70, 73, 76, 84, 69, 82, 32]) (kid k).d.cells z1) := HS0.o.step2 HWS.o HNV.o hwB hO1 hK1
     clear hO1 hK1
     go_wp2_with fail
     refine hK.out _ _ ?_ fun hHeld => ?_
     · exact ⟨HS1.o.bl, HS1.o.bx⟩
     clear hK K
     try simp only [Act.put, sA, zA, cA]
     refine rdA 4 fun K hK => ?_
     go_simp
     refine (HEX.o v1 (bs ++ [123, 32] ++ catN k (fun i => uTx (kid i)) ++ [70, 73, 76, 84, 69, 82, 32]) _ HS1.o.own HS1.o.bl HS1.o.lo (by have h := HLN.o; have hL := HL0.o; have h1 := HSZ.o; simp only [lA, lC, lN] at hL ⊢; omega)).mono ?_
     rintro e z2 ⟨v2, rfl, hO2, hK2⟩
     have HS2 := iH (HS1.o.step2 HWS.o HNV.o hwB hO2 hK2)
     clear hO2 hK2
     go_wp2_with fail
     refine hK.out _ _ ?_ fun hHeld => ?_
     · exact ⟨HS2.o.bl, HS2.o.bx⟩
     clear hK K
     refine tkB 5 0 ?_
     refine wpAnyH_done (by kernel_rfl) ?_ _
     have HN9 : Hd (SayS w0 w B v v2 (bs ++ [123, 32] ++ catN (k + 1) (fun i => uTx (kid i))) z2) := (show SayS _ _ _ _ _ _ _ by
      have hT : bs ++ [123, 32] ++ catN k (fun i => uTx (kid i)) ++ [70, 73, 76, 84, 69, 82, 32] ++ eTx (kid k).d.e = bs ++ [123, 32] ++ catN (k + 1) (fun i => uTx (kid i)) := by
       show _ = bs ++ [123, 32] ++ (catN k (fun i => uTx (kid i)) ++ uTx (kid k))
       rw [HUT.o]
       simp
      have h := HS2.o
      rw [hT] at h
      exact ⟨h.own, HKr.o.trans (Kp.pre HBW.o h.kp), h.bl, h.lo⟩)
     clear hHeld HS0 HS1 HS2 HS HF HRG16 HEO HEX HEN
     go_wp2
     go_roundw
     case rel => exact ⟨k + 1, v2, by omega, rfl, by go_num, HN9⟩
     case measure => simp [intOf]; omega
   · have HUT : Hd (uTx (kid k) = [66, 73, 78, 68, 32] ++ (eTx (kid k).d.e ++ vTx (kid k).d.v.b)) := (show _ = _ by rw [uTx_at HOKk.o.1, hkk]; rfl)
     have HKK := iH hkk
     have HSZ : Hd (usz (kid k) = 1 + esz (kid k).d.e + (sumN (kid k).d.an (fun i => usz ((kid k).ka i)) + sumN (kid k).d.bn (fun i => usz ((kid k).kb i)))) := (show _ = _ by rw [usz_at HOKk.o.1]; unfold ownU; rw [hkk]; simp)
     have HEO := iH (HOKk.o.2.2.2.1 (.inr hkk))
     have HEX := iH (l4sayExprK (kid k).d.e (deep + 1) B w0 (HEL.o k hlk).2.1 HEO.o hwB)
     have HEN := hidU (eTx_len HEO.o)
     have HNM := iH (HOKk.o.2.2.1.v1 (.inl hkk))
     have HVX : Hd (BsF 0 w0 (kid k).d.v ∧ (kid k).d.v.b ≠ [] ∧ (kid k).d.v.len ≤ 12) := ⟨(HEL.o k hlk).2.2, name_pos HNM.o, (by have h := (name_len HNM.o).2; have h2 := (HEL.o k hlk).2.2.1.1; omega)⟩
     rw [hkk] at x0
     clear hkk
     have HF : Hd (∀ w', (Bl w0 w' ∧ Box w' wr.heap.size (kid k).d.cells) → w'.cell? ⟨wr.heap.size, 24, none⟩ = some (.slice (kid k).d.v.a (kid k).d.v.len (kid k).d.v.cap) ∧ w'.cell? ⟨wr.heap.size, 26, none⟩ = some (.slice (kid k).d.aa (kid k).d.an (kid k).d.ac) ∧ w'.cell? ⟨wr.heap.size, 27, none⟩ = some (.slice (kid k).d.ba (kid k).d.bn (kid k).d.bc)) := fun w' hw' => ⟨hw'.2.2 24 _ rfl, hw'.2.2 26 _ rfl, hw'.2.2 27 _ rfl⟩
     have HRG16 : Hd (∀ w', (Bl w0 w' ∧ Box w' wr.heap.size (kid k).d.cells) → w'.rangeAt wr.heap.size 16 (kid k).d.e.d.cl) := fun w' hw' => hw'.2.range 16 _ rfl
     have HS0 := iH (HS.o.below bdr)
     go_wp2_with fail
     refine whd (fun w' => Bl w0 w' ∧ Box w' wr.heap.size (kid k).d.cells) ?_ fun hHeld => ?_
     · exact ⟨Below.drew HS.o.bl, HS.o.bx.below bdr⟩
     refine tkB 0 96 ?_
     refine tkB 2 98 ?_
     refine takeq (i := 3) 99 (v := .agg (kid k).d.e.d.ar) rfl rfl (by kernel_rfl) (by kernel_rfl) (by kernel_rfl) (fun _ _ _ h => h) (yieldsIf_load_mid (by rfl) 100 _ rfl wr.heap.size 16 rfl (kid k).d.e.d.cl _ HRG16.o Tryz.underlying100 rfl (by kernel_rfl)) hHeld ?_
     refine tkB 5 101 ?_
     refine tkA 6 102 (v := ?v29) ?y29 ?_
     case y29 => (intro w' hSw; obtain ⟨q1, q2, q3⟩ := HF.o w' hSw; go_simp; (try with_reducible rfl))
     try simp only [Act.put, sA, zA, cA]
     refine rdA 1 fun K hK => ?_
     go_simp
     refine (l4wordK v' B (bs ++ [123, 32] ++ catN k (fun i => uTx (kid i))) ⟨#[66, 73, 78, 68]⟩ _ HS0.o.own HS0.o.lo (by decide) (by have h := HLN.o; have hL := HL0.o; have h1 := HSZ.o; (try simp only [lA, lC, lN] at hL ⊢); rw [show (ByteArray.mk #[66, 73, 78, 68]).size = 4 from rfl]; omega)).mono ?_
     rintro e z1 ⟨v1, rfl, hO1, hK1⟩
     have HS1 : Hd (SB w0 wr WB B v' v1 (bs ++ [123, 32] ++ catN k (fun i => uTx (kid i)) ++ [66, 73, 78, 68, 32]) (kid k).d.cells z1) := HS0.o.step2 HWS.o HNV.o hwB hO1 hK1
     clear hO1 hK1
     go_wp2_with fail
     refine hK.out _ _ ?_ fun hHeld => ?_
     · exact ⟨HS1.o.bl, HS1.o.bx⟩
     clear hK K
     try simp only [Act.put, sA, zA, cA]
     refine rdA 4 fun K hK => ?_
     go_simp
     refine (HEX.o v1 (bs ++ [123, 32] ++ catN k (fun i => uTx (kid i)) ++ [66, 73, 78, 68, 32]) _ HS1.o.own HS1.o.bl HS1.o.lo (by have h := HLN.o; have hL := HL0.o; have h1 := HSZ.o; simp only [lA, lC, lN] at hL ⊢; omega)).mono ?_
     rintro e z2 ⟨v2, rfl, hO2, hK2⟩
     have HS2 := iH (HS1.o.step2 HWS.o HNV.o hwB hO2 hK2)
     clear hO2 hK2
     go_wp2_with fail
     refine hK.out _ _ ?_ fun hHeld => ?_
     · exact ⟨HS2.o.bl, HS2.o.bx⟩
     clear hK K
     try simp only [Act.put, sA, zA, cA]
     refine rdA 7 fun K hK => ?_
     go_simp
     refine (l4sayVarK v2 B (bs ++ [123, 32] ++ catN k (fun i => uTx (kid i)) ++ [66, 73, 78, 68, 32] ++ eTx (kid k).d.e) (kid k).d.v w0 _ HS2.o.own HVX.o.1 HS2.o.bl hwB HS2.o.lo HVX.o.2.1 (by have h := HLN.o; have hL := HL0.o; have h1 := HSZ.o; have h2 := HEN.o; have h3 := HVX.o.2.2; simp only [lA, lC, lN] at hL ⊢; omega)).mono ?_
     rintro e z3 ⟨v3, rfl, hO3, hK3⟩
     have HS3 := iH (HS2.o.step2 HWS.o HNV.o hwB hO3 hK3)
     clear hO3 hK3
     go_wp2_with fail
     refine hK.out _ _ ?_ fun hHeld => ?_
     · exact ⟨HS3.o.bl, HS3.o.bx⟩
     clear hK K
     refine tkB 8 0 ?_
     refine wpAnyH_done (by kernel_rfl) ?_ _
     have HN9 : Hd (SayS w0 w B v v3 (bs ++ [123, 32] ++ catN (k + 1) (fun i => uTx (kid i))) z3) := (show SayS _ _ _ _ _ _ _ by
      have hT : bs ++ [123, 32] ++ catN k (fun i => uTx (kid i)) ++ [66, 73, 78, 68, 32] ++ eTx (kid k).d.e ++ 63 :: ((kid k).d.v.b ++ [32]) = bs ++ [123, 32] ++ catN (k + 1) (fun i => uTx (kid i)) := by
       show _ = bs ++ [123, 32] ++ (catN k (fun i => uTx (kid i)) ++ uTx (kid k))
       rw [HUT.o]
       simp [vTx]
      have h := HS3.o
      rw [hT] at h
      exact ⟨h.own, HKr.o.trans (Kp.pre HBW.o h.kp), h.bl, h.lo⟩)
     clear hHeld HS0 HS1 HS2 HS3 HNM HVX HS HF HRG16 HEO HEX HEN
     go_wp2
     go_roundw
     case rel => exact ⟨k + 1, v3, by omega, rfl, by go_num, HN9⟩
     case measure => simp [intOf]; omega
   have HUT : Hd (uTx (kid k) = [86, 65, 76, 85, 69, 83, 32] ++ (vTx (kid k).d.v.b ++ ([123, 32] ++ (catN (kid k).d.tb.length (fun i => tTx (tbG (kid k).d.tb i)) ++ [125, 32])))) := (show _ = _ by rw [uTx_at HOKk.o.1, hkk]; rfl)
   have HKK := iH hkk
   have HSZ : Hd (usz (kid k) = 1 + (sumN (kid k).d.an (fun i => usz ((kid k).ka i)) + sumN (kid k).d.bn (fun i => usz ((kid k).kb i)))) := (show _ = _ by rw [usz_at HOKk.o.1]; unfold ownU; rw [hkk]; simp)
   have HNM := iH (HOKk.o.2.2.1.v1 (.inr hkk))
   have HVX : Hd (BsF 0 w0 (kid k).d.v ∧ (kid k).d.v.b ≠ [] ∧ (kid k).d.v.b.length ≤ 12 ∧ (kid k).d.v.len ≤ 12) := ⟨(HEL.o k hlk).2.2, name_pos HNM.o, (name_len HNM.o).2, (by have h := (name_len HNM.o).2; have h2 := (HEL.o k hlk).2.2.1.1; omega)⟩
   have HTB : Hd ((∀ x ∈ (kid k).d.tb, x.td.ok = true) ∧ (kid k).d.tb.length ≤ 8 ∧ TRowF 0 w0 (kid k).d.ta (kid k).d.tb) := ⟨HOKk.o.2.2.1.tm, HOKk.o.2.2.1.tn, HTR.o k hlk⟩
   rw [hkk] at x0
   clear hkk
   have HF : Hd (∀ w', (Bl w0 w' ∧ Box w' wr.heap.size (kid k).d.cells) → w'.cell? ⟨wr.heap.size, 24, none⟩ = some (.slice (kid k).d.v.a (kid k).d.v.len (kid k).d.v.cap) ∧ w'.cell? ⟨wr.heap.size, 26, none⟩ = some (.slice (kid k).d.aa (kid k).d.an (kid k).d.ac) ∧ w'.cell? ⟨wr.heap.size, 27, none⟩ = some (.slice (kid k).d.ba (kid k).d.bn (kid k).d.bc)) := fun w' hw' => ⟨hw'.2.2 24 _ rfl, hw'.2.2 26 _ rfl, hw'.2.2 27 _ rfl⟩
   have HS0 := iH (HS.o.below bdr)
   go_wp2_with fail
   refine whd (fun w' => Bl w0 w' ∧ Box w' wr.heap.size (kid k).d.cells) ?_ fun hHeld => ?_
   · exact ⟨Below.drew HS.o.bl, HS.o.bx.below bdr⟩
   refine tkB 0 22 ?_
   refine tkB 2 24 ?_
   refine tkA 3 25 (v := ?v33) ?y33 ?_
   case y33 => (intro w' hSw; obtain ⟨q1, q2, q3⟩ := HF.o w' hSw; go_simp; (try with_reducible rfl))
   try simp only [Act.put, sA, zA, cA]
   refine rdA 1 fun K hK => ?_
   go_simp
   refine (l4wordK v' B (bs ++ [123, 32] ++ catN k (fun i => uTx (kid i))) ⟨#[86, 65, 76, 85, 69, 83]⟩ _ HS0.o.own HS0.o.lo (by decide) (by have h := HLN.o; have hL := HL0.o; have h1 := HSZ.o; (try simp only [lA, lC, lN] at hL ⊢); rw [show (ByteArray.mk #[86, 65, 76, 85, 69, 83]).size = 6 from rfl]; omega)).mono ?_
   rintro e z1 ⟨v1, rfl, hO1, hK1⟩
   have HS1 : Hd (SB w0 wr WB B v' v1 (bs ++ [123, 32] ++ catN k (fun i => uTx (kid i)) ++ [86, 65, 76, 85, 69, 83, 32]) (kid k).d.cells z1) := HS0.o.step2 HWS.o HNV.o hwB hO1 hK1
   clear hO1 hK1
   go_wp2_with fail
   refine hK.out _ _ ?_ fun hHeld => ?_
   · exact ⟨HS1.o.bl, HS1.o.bx⟩
   clear hK K
   try simp only [Act.put, sA, zA, cA]
   refine rdA 4 fun K hK => ?_
   go_simp
   refine (l4sayVarK v1 B (bs ++ [123, 32] ++ catN k (fun i => uTx (kid i)) ++ [86, 65, 76, 85, 69, 83, 32]) (kid k).d.v w0 _ HS1.o.own HVX.o.1 HS1.o.bl hwB HS1.o.lo HVX.o.2.1 (by have h := HLN.o; have hL := HL0.o; have h1 := HSZ.o; have h3 := HVX.o.2.2; simp only [lA, lC, lN] at hL ⊢; omega)).mono ?_
   rintro e z2 ⟨v2, rfl, hO2, hK2⟩
   have HS2 := iH (HS1.o.step2 HWS.o HNV.o hwB hO2 hK2)
   clear hO2 hK2
   go_wp2_with fail
   refine hK.out _ _ ?_ fun hHeld => ?_
   · exact ⟨HS2.o.bl, HS2.o.bx⟩
   clear hK K
   try simp only [Act.put, sA, zA, cA]
   refine rdA 5 fun K hK => ?_
   go_simp
   refine (l4wordK v2 B (bs ++ [123, 32] ++ catN k (fun i => uTx (kid i)) ++ [86, 65, 76, 85, 69, 83, 32] ++ 63 :: ((kid k).d.v.b ++ [32])) ⟨#[123]⟩ _ HS2.o.own HS2.o.lo (by decide) (by have h := HLN.o; have hL := HL0.o; have h1 := HSZ.o; have h3 := HVX.o.2.2; (try simp only [lA, lC, lN] at hL ⊢); rw [show (ByteArray.mk #[123]).size = 1 from rfl]; omega)).mono ?_
   rintro e z3 ⟨v3, rfl, hO3, hK3⟩
   have HS3 : Hd (SB w0 wr WB B v' v3 (bs ++ [123, 32] ++ catN k (fun i => uTx (kid i)) ++ [86, 65, 76, 85, 69, 83, 32] ++ 63 :: ((kid k).d.v.b ++ [32]) ++ [123, 32]) (kid k).d.cells z3) := HS2.o.step2 HWS.o HNV.o hwB hO3 hK3
   clear hO3 hK3
   go_wp2_with fail
   refine hK.out _ _ ?_ fun hHeld => ?_
   · exact ⟨HS3.o.bl, HS3.o.bx⟩
   clear hK K
   refine tkB 6 0 ?_
   refine wpAnyH_done (by kernel_rfl) ?_ _
   clear hHeld HS0 HS1 HS2 HS HF
   obtain ⟨nt, hnt⟩ : ∃ nt, nt = (kid k).d.tb.length := ⟨_, rfl⟩
   have HNT := iH hnt
   have hn8 : nt ≤ 8 := by have h := HTB.o.2.1; omega
   have HE0 : Hd (bs ++ [123, 32] ++ catN k (fun i => uTx (kid i)) ++ [86, 65, 76, 85, 69, 83, 32] ++ 63 :: ((kid k).d.v.b ++ [32]) ++ [123, 32] = bs ++ [123, 32] ++ catN k (fun i => uTx (kid i)) ++ [86, 65, 76, 85, 69, 83, 32] ++ 63 :: ((kid k).d.v.b ++ [32]) ++ [123, 32] ++ catN 0 (fun i => tTx (tbG (kid k).d.tb i))) := (show _ = _ by simp [catN])
   have HTL := iH (fun j (hj : j ≤ nt) => tbsTx_len HTB.o.1 j (by rw [← hnt]; exact hj))
   clear hnt
   go_wp2_with fail
   obtain ⟨wo, rfl⟩ : ∃ wo, wo = wr := ⟨_, rfl⟩
   go_loopw [0, 7] (fun lv i wr => ∃ (j : Nat) (v5 : Value), j ≤ nt ∧ v5 = lv ∧ i = .int .i64 j ∧ Hd (SB w0 wo WB B v' v5 (bs ++ [123, 32] ++ catN k (fun i => uTx (kid i)) ++ [86, 65, 76, 85, 69, 83, 32] ++ 63 :: ((kid k).d.v.b ++ [32]) ++ [123, 32] ++ catN j (fun i => tTx (tbG (kid k).d.tb i))) (kid k).d.cells wr)) (fun _ i _ => nt - (intOf i).toNat)
   case atStart => exact ⟨0, v3, nZ, rfl, rfl, HE0.o ▸ HS3⟩
   clear HS3 HE0
   obtain ⟨j, v5, hj, rfl, rfl, HSj⟩ := hrel
   have x25 := HSj.o.bx.2 25 _ rfl
   have e25 : wr.cell? ⟨wo.heap.size, 25, none⟩ = some (.slice (kid k).d.ta nt (kid k).d.tc) := (by rw [HNT.o]; exact x25)
   clear x25
   by_cases hlj : j < nt
   · have hljz : (j : Int) < (nt : Int) := by omega
     have hjl : j < (kid k).d.tb.length := by rw [← HNT.o]; exact hlj
     obtain ⟨hx1, hx2⟩ := tbG_at hjl
     have hto := HTB.o.1 _ hx2
     have htl := (HTB.o.2.2.2.2 _ hx2)
     rw [← hx1] at hto htl
     obtain ⟨b2, off2, eT, hbt, hct⟩ := HTB.o.2.2.1.resolve_left (fun e => by rw [e] at hjl; exact absurd hjl nN)
     have hcx := TRow.at (l := (kid k).d.tb) (b := b2) (off := off2) (w := wr) (fun q u hu => (HSj.o.bl.cell (p := ⟨b2, off2 + q, none⟩) hbt).trans (hct q u hu)) j hjl
     rw [← hx1] at hcx
     obtain ⟨t0, t1, t2, t3⟩ := hcx
     rw [eT] at e25
     have HSL : Hd (1 ≤ ((tbG (kid k).d.tb j).t.show (tbG (kid k).d.tb j).b).length ∧ ((tbG (kid k).d.tb j).t.show (tbG (kid k).d.tb j).b).length ≤ 64) := Tm.show_len hto
     have SH := hidU (l1show_any (tbG (kid k).d.tb j).t.k (tbG (kid k).d.tb j).t.n (tbG (kid k).d.tb j).t.s (tbG (kid k).d.tb j).t.a (tbG (kid k).d.tb j).t.len (tbG (kid k).d.tb j).t.cap (tbG (kid k).d.tb j).b wr (htl.1.1.below HSj.o.bl) hto)
     clear hx1 hx2 hto htl hjl hct eT hbt
     go_wp2_with fail
     refine SH.o.mono ?_
     rintro e w1 ⟨g1, c1, rfl, hR1, hb1⟩
     have HS1 := iH (HSj.o.below hb1)
     have HOw := hidU HS1.o.own
     have HN1 := hidU (show ∀ q u, ((Tm.show (tbG (kid k).d.tb j).t (tbG (kid k).d.tb j).b).map (Value.int .u8))[q]? = some u → w1.cell? ((⟨g1, 0, none⟩ : Addr).add q) = some u from hR1.news)
     have hBw := HS1.o.lo
     obtain ⟨bq, hbq⟩ : ∃ bq, bq = bs ++ [123, 32] ++ catN k (fun i => uTx (kid i)) ++ [86, 65, 76, 85, 69, 83, 32] ++ 63 :: ((kid k).d.v.b ++ [32]) ++ [123, 32] ++ catN j (fun i => tTx (tbG (kid k).d.tb i)) := ⟨_, rfl⟩
     have HBQ := iH hbq
     rw [← hbq] at HOw HS1
     obtain ⟨n, hnn⟩ : ∃ n, n = bq.length := ⟨_, rfl⟩
     have hn9 : n + 80 ≤ 900000 := by have h := HLN.o; have hL := HL0.o; have h1 := HSZ.o; have h3 := HVX.o.2.2; have h4 := HTL.o j (by omega); rw [hnn, hbq]; simp only [lA, lC, lN] at hL ⊢; omega
     obtain ⟨L, hL⟩ : ∃ L, L = Tm.show (tbG (kid k).d.tb j).t (tbG (kid k).d.tb j).b := ⟨_, rfl⟩
     have HLT : Hd (L ++ [32] = tTx (tbG (kid k).d.tb j)) := (show _ = _ by rw [hL]; rfl)
     have e9 : showL (tbG (kid k).d.tb j).t.k (tbG (kid k).d.tb j).t.n (tbG (kid k).d.tb j).t.s (tbG (kid k).d.tb j).b = L := hL.symm
     rw [e9]
     rw [← hL] at HN1 HSL
     obtain ⟨q, hq⟩ : ∃ q, q = L.length := ⟨_, rfl⟩
     have hq1 : 0 < q := by have h := HSL.o.1; omega
     have hq2 : q ≤ 64 := by have h := HSL.o.2; omega
     have HQ := iH hq.symm
     have HNN := iH hnn
     rw [← hnn] at HOw
     rw [← hq]
     clear hR1 hb1 hq hnn SH HSj t0 t1 t2 t3 hL e9 hbq e25
     go_wp2_with (first | (refine app8k rfl (.tmp 35) (.tmp 41) rfl B v5 n bq rfl HOw ⟨g1, 0, none⟩ q c1 L rfl HQ.o HN1 hq1 (n + q) rfl (bq ++ L) rfl (by omega) hBw ?_; intro g4 c4 w4 HR4 HK4; have HO4 := hidU (HR4.o.below (bl_a (.cells #[.int .u8 32] 5))); have HN4 := hidU (one_news w4 32); have hB4 : B ≤ (w4.alloc (.cells #[.int .u8 32] 5)).heap.size := Nat.le_trans hBw (Nat.le_trans HK4.o.size (by simp)); clear HN1 HOw hBw) | (refine app8k rfl (.tmp 42) (.tmp 43) rfl B (.slice (some ⟨g4, 0, none⟩) (n + q) c4) (n + q) (bq ++ L) rfl HO4 ⟨w4.heap.size, 0, none⟩ 1 1 [32] rfl rfl HN4 (by omega) (n + q + 1) rfl (bq ++ L ++ [32]) rfl (by omega) hB4 ?_; intro g5 c5 w5 HR5 HK5; clear HO4 HN4 hB4))
     go_roundw
     case rel =>
      refine ⟨j + 1, _, by omega, rfl, by go_num, ?_⟩
      have hT : bq ++ L ++ [32] = bs ++ [123, 32] ++ catN k (fun i => uTx (kid i)) ++ [86, 65, 76, 85, 69, 83, 32] ++ 63 :: ((kid k).d.v.b ++ [32]) ++ [123, 32] ++ catN (j + 1) (fun i => tTx (tbG (kid k).d.tb i)) := by
       show _ = bs ++ [123, 32] ++ catN k (fun i => uTx (kid i)) ++ [86, 65, 76, 85, 69, 83, 32] ++ 63 :: ((kid k).d.v.b ++ [32]) ++ [123, 32] ++ (catN j (fun i => tTx (tbG (kid k).d.tb i)) ++ tTx (tbG (kid k).d.tb j))
       rw [← HLT.o, HBQ.o]
       simp
      have hO := HR5.o.to hT (m := (bs ++ [123, 32] ++ catN k (fun i => uTx (kid i)) ++ [86, 65, 76, 85, 69, 83, 32] ++ 63 :: ((kid k).d.v.b ++ [32]) ++ [123, 32] ++ catN (j + 1) (fun i => tTx (tbG (kid k).d.tb i))).length) (by have h := HR5.o.len; rw [← hT]; exact h.symm)
      exact HS1.o.step2 HWS.o HNV.o hwB hO (HK4.o.trans (Kp.pre (bl_a _) HK5.o))
     case measure => simp [intOf]; omega
   obtain rfl : j = nt := by omega
   have hljz : ¬ (j : Int) < (j : Int) := by omega
   have HS0 := HSj
   go_wp2_with fail
   refine (l4wordK v5 B (bs ++ [123, 32] ++ catN k (fun i => uTx (kid i)) ++ [86, 65, 76, 85, 69, 83, 32] ++ 63 :: ((kid k).d.v.b ++ [32]) ++ [123, 32] ++ catN j (fun i => tTx (tbG (kid k).d.tb i))) ⟨#[125]⟩ _ HS0.o.own HS0.o.lo (by decide) (by have h := HLN.o; have hL := HL0.o; have h1 := HSZ.o; have h3 := HVX.o.2.2; have h4 := HTL.o j (by omega); (try simp only [lA, lC, lN] at hL ⊢); rw [show (ByteArray.mk #[125]).size = 1 from rfl]; omega)).mono ?_
   rintro e z6 ⟨v6, rfl, hO6, hK6⟩
   have HS6 : Hd (SB w0 wo WB B v' v6 (bs ++ [123, 32] ++ catN k (fun i => uTx (kid i)) ++ [86, 65, 76, 85, 69, 83, 32] ++ 63 :: ((kid k).d.v.b ++ [32]) ++ [123, 32] ++ catN j (fun i => tTx (tbG (kid k).d.tb i)) ++ [125, 32]) (kid k).d.cells z6) := HSj.o.step2 HWS.o HNV.o hwB hO6 hK6
   clear hO6 hK6
   have HN9 : Hd (SayS w0 w B v v6 (bs ++ [123, 32] ++ catN (k + 1) (fun i => uTx (kid i))) z6) := (show SayS _ _ _ _ _ _ _ by
    have hT : bs ++ [123, 32] ++ catN k (fun i => uTx (kid i)) ++ [86, 65, 76, 85, 69, 83, 32] ++ 63 :: ((kid k).d.v.b ++ [32]) ++ [123, 32] ++ catN j (fun i => tTx (tbG (kid k).d.tb i)) ++ [125, 32] = bs ++ [123, 32] ++ catN (k + 1) (fun i => uTx (kid i)) := by
     show _ = bs ++ [123, 32] ++ (catN k (fun i => uTx (kid i)) ++ uTx (kid k))
     rw [HUT.o, ← HNT.o]
     simp [vTx]
    have h := HS6.o
    rw [hT] at h
    exact ⟨h.own, HKr.o.trans (Kp.pre HBW.o h.kp), h.bl, h.lo⟩)
   clear HSj HS0 HS6 HTB HVX HNM HTL
   go_wp2
   go_roundw
   case rel => exact ⟨k + 1, v6, by omega, rfl, by go_num, HN9⟩
   case measure => simp [intOf]; omega
 obtain rfl : k = n := by omega
 have hlkz : ¬ (k : Int) < (k : Int) := by omega
 have HF := HFIN.o v' wr HSr
 have HKr := iH HSr.o.kp
 clear HSr hR hk
 go_wp2_with fail
 refine HF.o.mono ?_
 rintro e z2 ⟨v2, rfl, hO2, hK2⟩
 have HR2 := iH hO2
 have HK2 := iH (HKr.o.trans hK2)
 clear hO2 hK2 HF
 go_wp2
 go_ret
 exact ⟨_, rfl, HR2.o, HK2.o⟩
theorem sayGroup_of (a : Option Addr) (cap n : Nat) (kid : Nat → UT) (deep : Int) (B : Nat) (w0 : World) (hn : n ≤ 1048576) (hR : KRow 0 w0 28 a n (fun i => (kid i).d.cells)) (hk : ∀ i, i < n → (kid i).lies 0 w0) (hok : ∀ i, i < n → uOk (kid i) deep) (hwB : w0.heap.size ≤ B)
 (IH : ∀ i, i < n → SayG 66 w0 B (kid i).d.aa (kid i).d.ac (kid i).d.an (kid i).ka ∧ SayG 66 w0 B (kid i).d.ba (kid i).d.bc (kid i).d.bn (kid i).kb) : SayG 66 w0 B a cap n kid := fun v bs w HO hw hB hm =>
 sayGroup_core a cap n kid deep B w0 hn hR hk hok hwB IH v bs w (fun g hg => (HO.2 g hg).1) (l4wordK v B bs ⟨#[123]⟩ w HO hB (by decide) (by rw [show (ByteArray.mk #[123]).size = 1 from rfl]; omega)) hw hB hm
theorem sayGroup_any (e : UT) : ∀ (deep : Int) (B : Nat) (w0 : World), e.lies 0 w0 → uOk e deep → w0.heap.size ≤ B → SayG 66 w0 B e.d.aa e.d.ac e.d.an e.ka ∧ SayG 66 w0 B e.d.ba e.d.bc e.d.bn e.kb := by
 induction e with
 | nil => exact fun _ _ _ h => False.elim h
 | mk d ka kb ia ib =>
  intro deep B w0 hl hok hwB
  obtain ⟨_, _, _, _, _, ⟨an, aR⟩, ⟨bn, bR⟩, hka, hkb⟩ := hl
  obtain ⟨_, _, _, hA, hB⟩ := hok
  exact ⟨sayGroup_of d.aa d.ac d.an ka (deep + 1) B w0 an aR hka hA hwB fun i hi => ia i (deep + 1) B w0 (hka i hi) (hA i hi) hwB, sayGroup_of d.ba d.bc d.bn kb (deep + 1) B w0 bn bR hkb hB hwB fun i hi => ib i (deep + 1) B w0 (hkb i hi) (hB i hi) hwB⟩
end Go.Proofs.YthljoojcpbignaaGreatDoor
