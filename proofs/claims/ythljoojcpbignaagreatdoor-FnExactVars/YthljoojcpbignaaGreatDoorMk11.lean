import Derived.Test.YthljoojcpbignaaGreatDoorMk10
namespace Go.Proofs.YthljoojcpbignaaGreatDoor
open Go.RowKit Go.Deep
set_option maxHeartbeats 40000000
set_option maxRecDepth 100000
def bV : UT → List (List Int) → List (List Int)
 | .nil, l => l
 | .mk d ka kb, l => if d.k = 1 ∨ d.k = 2 then foldN d.bn (fun i acc => bV (kb i) acc) (foldN d.an (fun i acc => bV (ka i) acc) (addV (ptV d.p l) d.v.b)) else addV (ptV d.p l) d.v.b
theorem bV_len (e : UT) : ∀ l, (bV e l).length ≤ l.length + uc e := by
 induction e with
 | nil => exact fun l => nR
 | mk d ka kb ia ib =>
  intro l
  have h0 := ptV_len d.p l
  have h2 := addV_len (ptV d.p l) d.v.b
  have h3 := foldN_len (f := fun i acc => bV (ka i) acc) (c := fun i => uc (ka i)) (n := d.an) (fun i l _ => ia i l) (addV (ptV d.p l) d.v.b)
  have h4 := foldN_len (f := fun i acc => bV (kb i) acc) (c := fun i => uc (kb i)) (n := d.bn) (fun i l _ => ib i l) (foldN d.an (fun i acc => bV (ka i) acc) (addV (ptV d.p l) d.v.b))
  show (if d.k = 1 ∨ d.k = 2 then foldN d.bn (fun i acc => bV (kb i) acc) (foldN d.an (fun i acc => bV (ka i) acc) (addV (ptV d.p l) d.v.b)) else addV (ptV d.p l) d.v.b).length ≤ l.length + (3 + esz d.e + 1 + (sumN d.an (fun i => uc (ka i)) + sumN d.bn (fun i => uc (kb i))))
  split <;> omega
theorem bG_len (n : Nat) (f : Nat → UT) (l : List (List Int)) : (foldN n (fun i acc => bV (f i) acc) l).length ≤ l.length + sumN n (fun i => uc (f i)) := foldN_len (f := fun i acc => bV (f i) acc) (c := fun i => uc (f i)) (fun i l _ => bV_len (f i) l) l
theorem bV_at {e : UT} (h : e ≠ .nil) {l : List (List Int)} : bV e l = if e.d.k = 1 ∨ e.d.k = 2 then foldN e.d.bn (fun i acc => bV (e.kb i) acc) (foldN e.d.an (fun i acc => bV (e.ka i) acc) (addV (ptV e.d.p l) e.d.v.b)) else addV (ptV e.d.p l) e.d.v.b := by
 cases e with
 | nil => exact absurd rfl h
 | mk d ka kb => rfl
theorem binds_of (a : Option Addr) (cap n : Nat) (kid : Nat → UT) (v : Value) (L : List SL) (B : Nat) (w0 w : World) (hn : n ≤ 1048576) (hR : KRow 0 w0 28 a n (fun i => (kid i).d.cells)) (hk : ∀ i, i < n → (kid i).lies 0 w0) (hV : VL w0 w B v L) (hw : Bl w0 w) (hm : L.length + sumN n (fun i => uc (kid i)) ≤ 1000000) (hB : B ≤ w.heap.size) (hwB : w0.heap.size ≤ B)
 (IH : ∀ i, i < n → GV 95 bV uc w0 B (kid i)) :
 Calls Tryz.prog 95 #[v, .slice a n cap] w (AddAns w0 B v (foldN n (fun i acc => bV (kid i) acc) (L.map SL.b)) w) := by
 have HS : Hd (LV w0 w B v v L w) := ⟨hV, Kp.of_below brf, hw, hB⟩
 by_cases hn0 : n = 0
 · subst hn0
   clear hR IH hn hk hV hw hm hB
   go_in
   go_wp2_with fail
   refine wp_loop_rounds 1 ?_
   rw [rounds_succ]
   go_wp2
   go_ret
   exact ⟨_, L, rfl, HS.o.vl, rfl, HS.o.kp⟩
 obtain ⟨b, off, rfl, _, hlt, hck⟩ := hR.resolve_left hn0
 have HC := iH hck
 have HI := iH IH
 have HEL := iH (fun i (hi : i < n) => (hk i hi).parts)
 have HNE := iH (fun i (hi : i < n) => (hk i hi).ne)
 have HLK : Hd (∀ k, k < n → (foldN k (fun i acc => bV (kid i) acc) (L.map SL.b)).length + uc (kid k) ≤ 1000000) := fun k hk => by
  have h1 := foldN_len (f := (fun i acc => bV (kid i) acc)) (c := fun i => uc (kid i)) (n := k) (fun i l _ => bV_len (kid i) l) (L.map SL.b)
  rw [List.length_map] at h1
  have h3 := sumN_mono (f := fun i => uc (kid i)) (show k + 1 ≤ n by omega)
  have h4 : sumN (k + 1) (fun i => uc (kid i)) = sumN k (fun i => uc (kid i)) + uc (kid k) := rfl
  omega
 clear hR hck IH hk hV hw hm hB
 go_in
 go_wp2_with fail
 go_loopw [0, 5] (fun lv i wr => ∃ (k : Nat) (v' : Value) (L' : List SL), k ≤ n ∧ v' = lv ∧ i = .int .i64 k ∧ Hd (LV w0 w B v v' L' wr) ∧ Hd (L'.map SL.b = foldN k (fun i acc => bV (kid i) acc) (L.map SL.b))) (fun _ i _ => n - (intOf i).toNat)
 case atStart => exact ⟨0, v, L, nZ, rfl, rfl, HS, (show _ = _ from rfl)⟩
 clear HS
 obtain ⟨k, v', L', hk, rfl, rfl, HSr, HRr⟩ := hrel
 by_cases hlk : k < n
 · have hlkz : (k : Int) < (n : Int) := by omega
   have HCX := iH (fun w' (h : Bl w0 w') c u (hu : ((kid k).d.cells)[c]? = some u) => (h.cell (p := ⟨b, off + k * 28 + c, none⟩) hlt).trans (HC.o k hlk c u hu))
   have HF : Hd (∀ w', Bl w0 w' → w'.cell? ⟨b, off + k * 28 + 1, none⟩ = some (.slice (kid k).d.p.s.v.a (kid k).d.p.s.v.len (kid k).d.p.s.v.cap) ∧ w'.cell? ⟨b, off + k * 28 + 6, none⟩ = some (.slice (kid k).d.p.p.v.a (kid k).d.p.p.v.len (kid k).d.p.p.v.cap) ∧ w'.cell? ⟨b, off + k * 28 + 11, none⟩ = some (.slice (kid k).d.p.o.v.a (kid k).d.p.o.v.len (kid k).d.p.o.v.cap) ∧ w'.cell? ⟨b, off + k * 28 + 24, none⟩ = some (.slice (kid k).d.v.a (kid k).d.v.len (kid k).d.v.cap) ∧ w'.cell? ⟨b, off + k * 28 + 26, none⟩ = some (.slice (kid k).d.aa (kid k).d.an (kid k).d.ac) ∧ w'.cell? ⟨b, off + k * 28 + 27, none⟩ = some (.slice (kid k).d.ba (kid k).d.bn (kid k).d.bc) ∧ w'.cell? ⟨b, off + k * 28 + 0, none⟩ = some (.int .i64 (kid k).d.k)) := fun w' h => ⟨HCX.o w' h 1 _ rfl, HCX.o w' h 6 _ rfl, HCX.o w' h 11 _ rfl, HCX.o w' h 24 _ rfl, HCX.o w' h 26 _ rfl, HCX.o w' h 27 _ rfl, HCX.o w' h 0 _ rfl⟩
   have HSU : Hd (foldN (k + 1) (fun i acc => bV (kid i) acc) (L.map SL.b) = bV (kid k) (foldN k (fun i acc => bV (kid i) acc) (L.map SL.b))) := rfl
   have HLN0 : Hd (L'.length = (foldN k (fun i acc => bV (kid i) acc) (L.map SL.b)).length) := (show _ = _ by rw [← HRr.o, List.length_map])
   have HS0 := iH (HSr.o.below bdr)
   have HIK := iH (HI.o k hlk)
   have HLK2 : Hd (∀ k, k < n → kid k ≠ .nil) := HNE
   have HUC := iH (uc_at (HNE.o k hlk))
   go_wp2_with fail
   refine whd (fun w' => Bl w0 w') ?_ fun hHeld => ?_
   · exact Below.drew HSr.o.bl
   refine tkB 0 12 ?_
   refine tkB 1 13 ?_
   refine tkB 2 14 ?_
   refine tkB 3 15 ?_
   refine tkB 4 16 ?_
   refine tkB 5 17 ?_
   refine tkB 6 18 ?_
   refine tkA 7 19 (v := ?v54) ?y54 ?_
   case y54 => (intro w' hSw; obtain ⟨q1, q2, q3, q4, q5, q6, q7⟩ := HF.o w' hSw; go_simp; (try with_reducible rfl))
   refine tkB 9 21 ?_
   refine tkB 10 22 ?_
   refine tkB 11 23 ?_
   refine tkB 12 24 ?_
   refine tkB 13 25 ?_
   refine tkB 14 26 ?_
   refine tkA 15 27 (v := ?v61) ?y61 ?_
   case y61 => (intro w' hSw; obtain ⟨q1, q2, q3, q4, q5, q6, q7⟩ := HF.o w' hSw; go_simp; (try with_reducible rfl))
   refine tkB 17 29 ?_
   refine tkB 18 30 ?_
   refine tkB 19 31 ?_
   refine tkB 20 32 ?_
   refine tkB 21 33 ?_
   refine tkB 22 34 ?_
   refine tkA 23 35 (v := ?v68) ?y68 ?_
   case y68 => (intro w' hSw; obtain ⟨q1, q2, q3, q4, q5, q6, q7⟩ := HF.o w' hSw; go_simp; (try with_reducible rfl))
   try simp only [Act.put, sA, zA, cA]
   refine rdA 8 fun K hK => ?_
   go_simp
   refine (l4add_any v' L' (kid k).d.p.s.v B w0 _ HS0.o.vl HS0.o.bl (HEL.o k hlk).1.1.1 (by have h := HLK.o k hlk; have hu := HUC.o; rw [HLN0.o]; omega) HS0.o.lo).mono ?_
   rintro e z1 ⟨v1, M1, rfl, hV1, hR1, hK1⟩
   have HS1 := iH (HS0.o.step hwB hV1 hK1)
   have HE1 : Hd (M1.map SL.b = addV (foldN k (fun i acc => bV (kid i) acc) (L.map SL.b)) (kid k).d.p.s.v.b) := (show _ = _ by rw [hR1, HRr.o] <;> rfl)
   have HLN1 : Hd (M1.length = (addV (foldN k (fun i acc => bV (kid i) acc) (L.map SL.b)) (kid k).d.p.s.v.b).length) := (show _ = _ by rw [← HE1.o, List.length_map])
   clear hV1 hR1 hK1
   go_wp2_with fail
   refine hK.out _ _ ?_ fun hHeld => ?_
   · exact HS1.o.bl
   clear hK K
   try simp only [Act.put, sA, zA, cA]
   refine rdA 16 fun K hK => ?_
   go_simp
   refine (l4add_any v1 M1 (kid k).d.p.p.v B w0 _ HS1.o.vl HS1.o.bl (HEL.o k hlk).1.2.1.1 (by have h := HLK.o k hlk; have hu := HUC.o; have h1 := addV_len (foldN k (fun i acc => bV (kid i) acc) (L.map SL.b)) (kid k).d.p.s.v.b; rw [HLN1.o]; omega) HS1.o.lo).mono ?_
   rintro e z2 ⟨v2, M2, rfl, hV2, hR2, hK2⟩
   have HS2 := iH (HS1.o.step hwB hV2 hK2)
   have HE2 : Hd (M2.map SL.b = addV (addV (foldN k (fun i acc => bV (kid i) acc) (L.map SL.b)) (kid k).d.p.s.v.b) (kid k).d.p.p.v.b) := (show _ = _ by rw [hR2, HE1.o] <;> rfl)
   have HLN2 : Hd (M2.length = (addV (addV (foldN k (fun i acc => bV (kid i) acc) (L.map SL.b)) (kid k).d.p.s.v.b) (kid k).d.p.p.v.b).length) := (show _ = _ by rw [← HE2.o, List.length_map])
   clear hV2 hR2 hK2
   go_wp2_with fail
   refine hK.out _ _ ?_ fun hHeld => ?_
   · exact HS2.o.bl
   clear hK K
   try simp only [Act.put, sA, zA, cA]
   refine rdA 24 fun K hK => ?_
   go_simp
   refine (l4add_any v2 M2 (kid k).d.p.o.v B w0 _ HS2.o.vl HS2.o.bl (HEL.o k hlk).1.2.2.1 (by have h := HLK.o k hlk; have hu := HUC.o; have h1 := addV_len (foldN k (fun i acc => bV (kid i) acc) (L.map SL.b)) (kid k).d.p.s.v.b; have h2 := addV_len (addV (foldN k (fun i acc => bV (kid i) acc) (L.map SL.b)) (kid k).d.p.s.v.b) (kid k).d.p.p.v.b; rw [HLN2.o]; omega) HS2.o.lo).mono ?_
   rintro e z3 ⟨v3, M3, rfl, hV3, hR3, hK3⟩
   have HS3 := iH (HS2.o.step hwB hV3 hK3)
   have HE3 : Hd (M3.map SL.b = addV (addV (addV (foldN k (fun i acc => bV (kid i) acc) (L.map SL.b)) (kid k).d.p.s.v.b) (kid k).d.p.p.v.b) (kid k).d.p.o.v.b) := (show _ = _ by rw [hR3, HE2.o] <;> rfl)
   have HLN3 : Hd (M3.length = (addV (addV (addV (foldN k (fun i acc => bV (kid i) acc) (L.map SL.b)) (kid k).d.p.s.v.b) (kid k).d.p.p.v.b) (kid k).d.p.o.v.b).length) := (show _ = _ by rw [← HE3.o, List.length_map])
   clear hV3 hR3 hK3
   go_wp2_with fail
   refine hK.out _ _ ?_ fun hHeld => ?_
   · exact HS3.o.bl
   clear hK K
   refine tkB 25 0 ?_
   refine wpAnyH_done (by kernel_rfl) ?_ _
   clear hHeld HS0 HS1 HS2 HE1 HE2 HLN0 HLN1 HLN2 HSr HRr
   have HE3 : Hd (M3.map SL.b = ptV (kid k).d.p (foldN k (fun i acc => bV (kid i) acc) (L.map SL.b))) := HE3
   have HLN3 : Hd (M3.length = (ptV (kid k).d.p (foldN k (fun i acc => bV (kid i) acc) (L.map SL.b))).length) := HLN3
   have HPL := iH (ptV_len (kid k).d.p (foldN k (fun i acc => bV (kid i) acc) (L.map SL.b)))
   have q4 := (HF.o _ HS3.o.bl).2.2.2.1
   go_wp2_with fail
   refine (l4add_any v3 M3 (kid k).d.v B w0 _ HS3.o.vl HS3.o.bl (HEL.o k hlk).2.2 (by have h := HLK.o k hlk; have hu := HUC.o; have h1 := HPL.o; rw [HLN3.o]; omega) HS3.o.lo).mono ?_
   rintro e z4 ⟨v4, M4, rfl, hV4, hR4, hK4⟩
   have HS4 := iH (HS3.o.step hwB hV4 hK4)
   have HE4 : Hd (M4.map SL.b = addV (ptV (kid k).d.p (foldN k (fun i acc => bV (kid i) acc) (L.map SL.b))) (kid k).d.v.b) := (show _ = _ by rw [hR4, HE3.o])
   have HL4 : Hd (M4.length ≤ (foldN k (fun i acc => bV (kid i) acc) (L.map SL.b)).length + 3 + 1) := (show _ ≤ _ by have h1 := addV_len (ptV (kid k).d.p (foldN k (fun i acc => bV (kid i) acc) (L.map SL.b))) (kid k).d.v.b; have h2 := HPL.o; have h3 : M4.length = (addV _ (kid k).d.v.b).length := (by rw [← HE4.o, List.length_map]); omega)
   clear hV4 hR4 hK4 q4 HS3 HE3 HLN3 HPL
   have q7 : z4.cell? ⟨b, off + k * 28, none⟩ = some (.int .i64 (kid k).d.k) := (HF.o _ HS4.o.bl).2.2.2.2.2.2
   by_cases hkk : (kid k).d.k = 1 ∨ (kid k).d.k = 2
   rotate_left
   · have e1 : ((kid k).d.k == 1) = false := by simp; omega
     have e2 : ((kid k).d.k == 2) = false := by simp; omega
     have HE8 : Hd (M4.map SL.b = foldN (k + 1) (fun i acc => bV (kid i) acc) (L.map SL.b)) := (show _ = _ by rw [HSU.o, bV_at (HLK2.o k hlk), if_neg hkk]; exact HE4.o)
     clear hkk
     go_wp2
     go_roundw
     case rel => exact ⟨k + 1, v4, M4, by omega, rfl, by go_num, HS4, HE8⟩
     case measure => simp [intOf]; omega
   have HKK := iH hkk
   rcases hkk with hkk | hkk
   · have e1 : ((kid k).d.k == 1) = true := by simp [hkk]
     clear hkk
     go_wp2_with fail
     have HS0 := iH (HS4.o.below bdr)
     refine whd (fun w' => Bl w0 w') ?_ fun hHeld => ?_
     · exact Below.drew HS4.o.bl
     refine tkB 0 58 ?_
     refine tkB 1 59 ?_
     refine tkB 2 60 ?_
     refine tkB 3 61 ?_
     refine tkB 4 62 ?_
     refine tkA 5 63 (v := ?v75) ?y75 ?_
     case y75 => (intro w' hSw; obtain ⟨q1, q2, q3, q4, q5, q6, q7⟩ := HF.o w' hSw; go_simp; (try with_reducible rfl))
     refine tkB 7 65 ?_
     refine tkB 8 66 ?_
     refine tkB 9 67 ?_
     refine tkB 10 68 ?_
     refine tkA 11 69 (v := ?v80) ?y80 ?_
     case y80 => (intro w' hSw; obtain ⟨q1, q2, q3, q4, q5, q6, q7⟩ := HF.o w' hSw; go_simp; (try with_reducible rfl))
     try simp only [Act.put, sA, zA, cA]
     refine rdA 6 fun K hK => ?_
     go_simp
     refine (HIK.o.1 v4 M4 _ HS0.o.vl HS0.o.bl (by have h := HLK.o k hlk; have hu := HUC.o; have h1 := HL4.o; omega) HS0.o.lo).mono ?_
     rintro e z6 ⟨v6, M6, rfl, hV6, hR6, hK6⟩
     have HS6 := iH (HS0.o.step hwB hV6 hK6)
     have HE6 : Hd (M6.map SL.b = foldN (kid k).d.an (fun i acc => bV ((kid k).ka i) acc) (addV (ptV (kid k).d.p (foldN k (fun i acc => bV (kid i) acc) (L.map SL.b))) (kid k).d.v.b)) := (show _ = _ by rw [hR6, HE4.o] <;> rfl)
     have HLN6 : Hd (M6.length = (foldN (kid k).d.an (fun i acc => bV ((kid k).ka i) acc) (addV (ptV (kid k).d.p (foldN k (fun i acc => bV (kid i) acc) (L.map SL.b))) (kid k).d.v.b)).length) := (show _ = _ by rw [← HE6.o, List.length_map])
     clear hV6 hR6 hK6
     go_wp2_with fail
     refine hK.out _ _ ?_ fun hHeld => ?_
     · exact HS6.o.bl
     clear hK K
     try simp only [Act.put, sA, zA, cA]
     have HL6 : Hd (M6.length ≤ M4.length + sumN (kid k).d.an (fun i => uc ((kid k).ka i))) := (show _ ≤ _ by have h1 := bG_len (kid k).d.an (kid k).ka (addV (ptV (kid k).d.p (foldN k (fun i acc => bV (kid i) acc) (L.map SL.b))) (kid k).d.v.b); have h3 : M4.length = (addV _ (kid k).d.v.b).length := (by rw [← HE4.o, List.length_map]); rw [HLN6.o, h3]; exact h1)
     refine rdA 12 fun K hK => ?_
     go_simp
     refine (HIK.o.2 v6 M6 _ HS6.o.vl HS6.o.bl (by have h := HLK.o k hlk; have hu := HUC.o; have h1 := HL4.o; have h2 := HL6.o; omega) HS6.o.lo).mono ?_
     rintro e z7 ⟨v7, M7, rfl, hV7, hR7, hK7⟩
     have HS7 := iH (HS6.o.step hwB hV7 hK7)
     have HE7 : Hd (M7.map SL.b = foldN (kid k).d.bn (fun i acc => bV ((kid k).kb i) acc) (foldN (kid k).d.an (fun i acc => bV ((kid k).ka i) acc) (addV (ptV (kid k).d.p (foldN k (fun i acc => bV (kid i) acc) (L.map SL.b))) (kid k).d.v.b))) := (show _ = _ by rw [hR7, HE6.o] <;> rfl)
     have HLN7 : Hd (M7.length = (foldN (kid k).d.bn (fun i acc => bV ((kid k).kb i) acc) (foldN (kid k).d.an (fun i acc => bV ((kid k).ka i) acc) (addV (ptV (kid k).d.p (foldN k (fun i acc => bV (kid i) acc) (L.map SL.b))) (kid k).d.v.b))).length) := (show _ = _ by rw [← HE7.o, List.length_map])
     clear hV7 hR7 hK7
     go_wp2_with fail
     refine hK.out _ _ ?_ fun hHeld => ?_
     · exact HS7.o.bl
     clear hK K
     refine tkB 13 0 ?_
     refine wpAnyH_done (by kernel_rfl) ?_ _
     have HE8 : Hd (M7.map SL.b = foldN (k + 1) (fun i acc => bV (kid i) acc) (L.map SL.b)) := (show _ = _ by rw [HSU.o, bV_at (HLK2.o k hlk), if_pos HKK.o]; exact HE7.o)
     clear hHeld HS0 HS4 HS6 HE4 HE6 HE7 HLN6 HLN7 HL4 HL6
     go_wp2
     go_roundw
     case rel => exact ⟨k + 1, v7, M7, by omega, rfl, by go_num, HS7, HE8⟩
     case measure => simp [intOf]; omega
   have e1 : ((kid k).d.k == 1) = false := by simp [hkk]
   have e2 : ((kid k).d.k == 2) = true := by simp [hkk]
   clear hkk
   go_wp2_with fail
   have HS0 := iH (HS4.o.below bdr)
   refine whd (fun w' => Bl w0 w') ?_ fun hHeld => ?_
   · exact Below.drew HS4.o.bl
   refine tkB 0 58 ?_
   refine tkB 1 59 ?_
   refine tkB 2 60 ?_
   refine tkB 3 61 ?_
   refine tkB 4 62 ?_
   refine tkA 5 63 (v := ?v87) ?y87 ?_
   case y87 => (intro w' hSw; obtain ⟨q1, q2, q3, q4, q5, q6, q7⟩ := HF.o w' hSw; go_simp; (try with_reducible rfl))
   refine tkB 7 65 ?_
   refine tkB 8 66 ?_
   refine tkB 9 67 ?_
   refine tkB 10 68 ?_
   refine tkA 11 69 (v := ?v92) ?y92 ?_
   case y92 => (intro w' hSw; obtain ⟨q1, q2, q3, q4, q5, q6, q7⟩ := HF.o w' hSw; go_simp; (try with_reducible rfl))
   try simp only [Act.put, sA, zA, cA]
   refine rdA 6 fun K hK => ?_
   go_simp
   refine (HIK.o.1 v4 M4 _ HS0.o.vl HS0.o.bl (by have h := HLK.o k hlk; have hu := HUC.o; have h1 := HL4.o; omega) HS0.o.lo).mono ?_
   rintro e z6 ⟨v6, M6, rfl, hV6, hR6, hK6⟩
   have HS6 := iH (HS0.o.step hwB hV6 hK6)
   have HE6 : Hd (M6.map SL.b = foldN (kid k).d.an (fun i acc => bV ((kid k).ka i) acc) (addV (ptV (kid k).d.p (foldN k (fun i acc => bV (kid i) acc) (L.map SL.b))) (kid k).d.v.b)) := (show _ = _ by rw [hR6, HE4.o] <;> rfl)
   have HLN6 : Hd (M6.length = (foldN (kid k).d.an (fun i acc => bV ((kid k).ka i) acc) (addV (ptV (kid k).d.p (foldN k (fun i acc => bV (kid i) acc) (L.map SL.b))) (kid k).d.v.b)).length) := (show _ = _ by rw [← HE6.o, List.length_map])
   clear hV6 hR6 hK6
   go_wp2_with fail
   refine hK.out _ _ ?_ fun hHeld => ?_
   · exact HS6.o.bl
   clear hK K
   try simp only [Act.put, sA, zA, cA]
   have HL6 : Hd (M6.length ≤ M4.length + sumN (kid k).d.an (fun i => uc ((kid k).ka i))) := (show _ ≤ _ by have h1 := bG_len (kid k).d.an (kid k).ka (addV (ptV (kid k).d.p (foldN k (fun i acc => bV (kid i) acc) (L.map SL.b))) (kid k).d.v.b); have h3 : M4.length = (addV _ (kid k).d.v.b).length := (by rw [← HE4.o, List.length_map]); rw [HLN6.o, h3]; exact h1)
   refine rdA 12 fun K hK => ?_
   go_simp
   refine (HIK.o.2 v6 M6 _ HS6.o.vl HS6.o.bl (by have h := HLK.o k hlk; have hu := HUC.o; have h1 := HL4.o; have h2 := HL6.o; omega) HS6.o.lo).mono ?_
   rintro e z7 ⟨v7, M7, rfl, hV7, hR7, hK7⟩
   have HS7 := iH (HS6.o.step hwB hV7 hK7)
   have HE7 : Hd (M7.map SL.b = foldN (kid k).d.bn (fun i acc => bV ((kid k).kb i) acc) (foldN (kid k).d.an (fun i acc => bV ((kid k).ka i) acc) (addV (ptV (kid k).d.p (foldN k (fun i acc => bV (kid i) acc) (L.map SL.b))) (kid k).d.v.b))) := (show _ = _ by rw [hR7, HE6.o] <;> rfl)
   have HLN7 : Hd (M7.length = (foldN (kid k).d.bn (fun i acc => bV ((kid k).kb i) acc) (foldN (kid k).d.an (fun i acc => bV ((kid k).ka i) acc) (addV (ptV (kid k).d.p (foldN k (fun i acc => bV (kid i) acc) (L.map SL.b))) (kid k).d.v.b))).length) := (show _ = _ by rw [← HE7.o, List.length_map])
   clear hV7 hR7 hK7
   go_wp2_with fail
   refine hK.out _ _ ?_ fun hHeld => ?_
   · exact HS7.o.bl
   clear hK K
   refine tkB 13 0 ?_
   refine wpAnyH_done (by kernel_rfl) ?_ _
   have HE8 : Hd (M7.map SL.b = foldN (k + 1) (fun i acc => bV (kid i) acc) (L.map SL.b)) := (show _ = _ by rw [HSU.o, bV_at (HLK2.o k hlk), if_pos HKK.o]; exact HE7.o)
   clear hHeld HS0 HS4 HS6 HE4 HE6 HE7 HLN6 HLN7 HL4 HL6
   go_wp2
   go_roundw
   case rel => exact ⟨k + 1, v7, M7, by omega, rfl, by go_num, HS7, HE8⟩
   case measure => simp [intOf]; omega
 obtain rfl : k = n := by omega
 have hlkz : ¬ (k : Int) < (k : Int) := by omega
 go_wp2
 go_ret
 exact ⟨_, L', rfl, HSr.o.vl, HRr.o, HSr.o.kp⟩
theorem binds_any (e : UT) : ∀ (w0 : World) (B : Nat), e.lies 0 w0 → w0.heap.size ≤ B → GV 95 bV uc w0 B e := by
 induction e with
 | nil => exact fun _ _ h => False.elim h
 | mk d ka kb ia ib =>
  intro w0 B hl hwB
  obtain ⟨_, _, _, _, _, ⟨an, aR⟩, ⟨bn, bR⟩, hka, hkb⟩ := hl
  exact ⟨fun v L W h1 h2 h3 h4 => binds_of d.aa d.ac d.an ka v L B w0 W an aR hka h1 h2 h3 h4 hwB fun i hi => ia i w0 B (hka i hi) hwB, fun v L W h1 h2 h3 h4 => binds_of d.ba d.bc d.bn kb v L B w0 W bn bR hkb h1 h2 h3 h4 hwB fun i hi => ib i w0 B (hkb i hi) hwB⟩
def TxW (B : Nat) (w : World) (x : SL) : Prop := x.len = 0 ∨ ∃ g, x.a = some ⟨g, 0, none⟩ ∧ B ≤ g ∧ g < w.heap.size ∧ ∀ i, i < x.len → w.frozen? ⟨g, i, none⟩ = false
theorem TxW.upper {B : Nat} {w w' : World} {x : SL} (h : TxW B w x) (hu : Upper B w w') : TxW B w' x := by
 rcases h with h | ⟨g, ha, hB, hlt, hf⟩
 · exact .inl h
 exact .inr ⟨g, ha, hB, Nat.lt_of_lt_of_le hlt hu.size, fun i hi => (World.frozen?_of_block (w := w) (a := ⟨g, i, none⟩) (hu.block g hB hlt)).trans (hf i hi)⟩
theorem TxW.base {B B' : Nat} {w : World} {x : SL} (h : TxW B w x) (hB : B' ≤ B) : TxW B' w x := by
 rcases h with h | ⟨g, ha, hb, r⟩
 · exact .inl h
 exact .inr ⟨g, ha, Nat.le_trans hB hb, r⟩
def FrW (B : Nat) (w : World) (g m : Nat) : Prop := m = 0 ∨ B ≤ g ∧ g < w.heap.size ∧ ∀ j, j < m → w.frozen? ⟨g, j, none⟩ = false
theorem FrW.upper {B : Nat} {w w' : World} {g m : Nat} (h : FrW B w g m) (hu : Upper B w w') : FrW B w' g m := by
 rcases h with h | ⟨hB, hlt, hf⟩
 · exact .inl h
 exact .inr ⟨hB, Nat.lt_of_lt_of_le hlt hu.size, fun j hj => (World.frozen?_of_block (w := w) (a := ⟨g, j, none⟩) (hu.block g hB hlt)).trans (hf j hj)⟩
theorem FrW.base {B B' : Nat} {w : World} {g m : Nat} (h : FrW B w g m) (hB : B' ≤ B) : FrW B' w g m := by
 rcases h with h | ⟨hb, r⟩
 · exact .inl h
 exact .inr ⟨Nat.le_trans hB hb, r⟩
def SL.own (B : Nat) (w : World) (x : SL) : Prop := BsF B w x ∧ TxW B w x
theorem SL.own.upper {B : Nat} {w w' : World} {x : SL} (h : x.own B w) (hu : Upper B w w') : x.own B w' := ⟨h.1.upper hu, h.2.upper hu⟩
theorem SL.own.base {B B' : Nat} {w : World} {x : SL} (h : x.own B w) (hB : B' ≤ B) : x.own B' w := ⟨h.1.base hB, h.2.base hB⟩
theorem toByteSW (x : SL) (w : World) (h : BsF 0 w x) : Calls Tryz.prog 55 #[.slice x.a x.len x.cap] w fun e w' => ∃ y : SL, e = .returned (.slice y.a y.len y.cap) ∧ y.own w.heap.size w' ∧ x.same y ∧ Bl w w' := by
 refine (toByteS_any x.a _ _ x.b w h.1).mono ?_
 rintro e w' ⟨rfl, rfl⟩
 obtain ⟨h1, h2, h3, _⟩ := h.1
 exact ⟨⟨some _, x.len, x.len, x.b⟩, rfl, ⟨⟨Bs.made w x.b _ h1 h2 h3, .inr fun p hp => by cases hp; exact nR⟩, .inr ⟨w.heap.size, rfl, nR, by simp, fun i _ => by simp [go_sem]⟩⟩, rfl, bl_a _⟩
theorem toTermW (x : TB) (w : World) (h : BsF 0 w x.sl) (hf : x.t.fits) : Calls Tryz.prog 124 #[.agg #[.int .i64 x.t.k, .slice x.t.a x.t.len x.t.cap, .int .i64 x.t.n, .int .i64 x.t.s]] w fun e w' => ∃ y : TB, e = .returned (.agg #[.int .i64 y.t.k, .slice y.t.a y.t.len y.t.cap, .int .i64 y.t.n, .int .i64 y.t.s]) ∧ BsF w.heap.size w' y.sl ∧ TxW w.heap.size w' y.sl ∧ y.t.fits ∧ x.td = y.td ∧ Bl w w' := by
 refine (toTerm_new _ _ _ _ x.t.len _ x.b w h.1).mono ?_
 rintro e w' ⟨g, rfl, hO, hg, hb⟩
 exact ⟨⟨⟨x.t.k, some _, x.t.len, x.t.len, x.t.n, x.t.s⟩, x.b⟩, rfl, ⟨hO.1, .inr fun p hp => by cases hp; exact hg⟩, .inr ⟨g, rfl, hg, hO.2.1, hO.2.2.2⟩, hf, rfl, hb⟩
theorem run_make_toByteSS_of (n : Nat) (hn : n ≤ 1048576) (w : World) :
 (Instr.makeSlice 24 (.int .i64 (n : Int)) (.int .i64 (n : Int))).run Tryz.prog w = .ok (.slice (some ⟨w.heap.size, 0, none⟩) n n) (w.alloc (.cells (madeCells #[.slice none 0 0] (n)) 42)) := by
 have hi0 : (Tryz.prog.info? 42).map (fun i => (i.zero, i.size, i.bytes)) = some (some (.slice none 0 0), 1, 24) := by kernel_rfl
 obtain ⟨i, hi, hzz⟩ := Option.map_eq_some_iff.1 hi0
 simp only [Prod.mk.injEq] at hzz
 obtain ⟨hz, hs, hb⟩ := hzz
 have hr := run_make (P := Tryz.prog) w 24 42 i _ Tryz.underlying24 hi hz .i64 .i64 n n (by omega) (Int.le_refl _) (by rw [hb]; omega) (by omega)
 simp only [Int.toNat_natCast, hs, Value.cells, Nat.mul_one] at hr
 exact hr
def CptoByteSS_of (w : World) (n : Nat) (kid : Nat → SL) (e : Ending) (w' : World) : Prop := ∃ (g : Nat) (k' : Nat → SL), e = .returned (.slice (some ⟨g, 0, none⟩) n n) ∧ KRow w.heap.size w' 1 (some ⟨g, 0, none⟩) n (fun i => (k' i).cells) ∧ FrW w.heap.size w' g (n) ∧ (∀ i, i < n → (k' i).own w.heap.size w') ∧ (∀ i, i < n → (kid i).same (k' i)) ∧ Bl w w'
theorem toByteSS_of (a : Option Addr) (cap n : Nat) (kid : Nat → SL) (w : World) (hn : n ≤ 1048576) (hR : KRow 0 w 1 a n (fun i => (kid i).cells))
 (IH : ∀ i, i < n → ∀ (W : World), Bl w W → Calls Tryz.prog 55 #[.slice (kid i).a (kid i).len (kid i).cap] W fun e w' => ∃ y : SL, e = .returned (.slice y.a y.len y.cap) ∧ y.own W.heap.size w' ∧ (kid i).same y ∧ Bl W w') :
 Calls Tryz.prog 30 #[.slice a n cap] w (CptoByteSS_of w n kid) := by
 have hmk := run_make_toByteSS_of n hn
 by_cases hn0 : n = 0
 · subst hn0
   have hmk0 : ∀ w, (Instr.makeSlice 24 (.int .i64 0) (.int .i64 0)).run Tryz.prog w = .ok (.slice (some ⟨w.heap.size, 0, none⟩) 0 0) (w.alloc (.cells (madeCells #[.slice none 0 0] 0) 42)) := fun w => by simpa using hmk w
   clear hmk hR IH hn
   go_in
   go_wp2
   refine wp_loop_rounds 1 ?_
   rw [rounds_succ]
   go_wp2
   go_ret
   exact ⟨w.heap.size, kid, rfl, .inl rfl, .inl (by simp), fun i hi => absurd hi nN, fun i hi => absurd hi nN, bl_a _⟩
 obtain ⟨b, off, rfl, _, hlt, hc⟩ := hR.resolve_left hn0
 have HC := iH (fun i (hi : i < n) c u (hu : ((kid i).cells)[c]? = some u) => (by have h := hc i hi c u hu; rwa [Nat.mul_one] at h))
 have HI := iH IH
 have HTH : Hd ((w.alloc (.cells (madeCells #[.slice none 0 0] (n)) 42)).there w.heap.size 0 (n)) := fun j hj => by
  have hs := size_madeCells #[.slice none 0 0] (n)
  have h := OB.new w (madeCells #[.slice none 0 0] (n)) 42
  have h2 := h.2 (0 + j) _ (List.getElem?_eq_getElem (by rw [Array.length_toList, hs]; omega))
  exact ⟨by rw [h2.1]; rfl, h2.2⟩
 clear hR hc IH
 go_in
 go_wp2
 go_loopw [4] (fun i wr => ∃ (k : Nat) (f : Nat → SL), k ≤ n ∧ i = .int .i64 k ∧ Hd (wr.there w.heap.size 0 (n)) ∧ Hd (∀ j, j < k → wr.rangeAt w.heap.size (j) ((f j).cells)) ∧ Hd (∀ j, j < k → (f j).own (w.heap.size + 1) wr) ∧ Hd (∀ j, j < k → (kid j).same (f j)) ∧ Hd (Bl w wr) ∧ Hd (w.heap.size < wr.heap.size))
  (fun i _ => n - (intOf i).toNat)
 case atStart => exact ⟨0, kid, nZ, rfl, HTH, fun j hj => absurd hj nN, fun j hj => absurd hj nN, fun j hj => absurd hj nN, bl_a _, (show w.heap.size < _ by simp)⟩
 obtain ⟨k, f, hk, rfl, HX, HR, HL, HS, HB, HZ⟩ := hrel
 clear hmk HTH
 by_cases hlk : k < n
 · have hlkz : (k : Int) < (n : Int) := by omega
   have hcx := fun c u (hu : ((kid k).cells)[c]? = some u) => (HB.o.cell (p := ⟨b, off + k + c, none⟩) hlt).trans (HC.o k hlk c u hu)
   have Z := HI.o k hlk
   have hc0 : wr.cell? ⟨b, off + k, none⟩ = some (.slice (kid k).a (kid k).len (kid k).cap) := by have h := hcx 0 _ rfl; simpa using h
   go_wp2_with fail
   refine (Z _ HB.o).mono ?_
   rintro e w2 ⟨y, rfl, hy, he, hb2⟩
   have hkz : k + 1 ≤ n := by omega
   have hth : w2.there w.heap.size (k) 1 := fun j hj => by
    have h := HX.o (k + j) (by omega)
    rw [Nat.zero_add] at h
    exact ⟨by rw [hb2.cell (p := ⟨w.heap.size, k + j, none⟩) HZ.o]; exact h.1, (hb2.frozen (p := ⟨w.heap.size, k + j, none⟩) HZ.o).trans h.2⟩
   have HN1 : Hd ((w2.setCells w.heap.size (k) [.slice y.a y.len y.cap]).there w.heap.size 0 (n)) := World.there_setCells (fun j hj => ⟨by rw [hb2.cell (p := ⟨w.heap.size, 0 + j, none⟩) HZ.o]; exact (HX.o j hj).1, (hb2.frozen (p := ⟨w.heap.size, 0 + j, none⟩) HZ.o).trans (HX.o j hj).2⟩) _ _ _
   have hlen : ([.slice y.a y.len y.cap] : List Value).length = 1 := rfl
   have HN2 : Hd (∀ j, j < k + 1 → (w2.setCells w.heap.size (k) [.slice y.a y.len y.cap]).rangeAt w.heap.size (j) ((if j = k then y else f j).cells)) := fun j hj => by
    by_cases e : j = k
    · subst e
      rw [if_pos rfl]
      exact World.rangeAt_setCells_same w2 _ (j) _ (by rw [hlen]; exact hth)
    rw [if_neg e]
    have hjk : j + 1 ≤ k := by omega
    refine World.rangeAt_setCells_apart (fun c u hu => (hb2.cell (p := ⟨w.heap.size, j + c, none⟩) HZ.o).trans (HR.o j (by omega) c u hu)) _ _ _ (.inr (.inl ?_))
    show j + 1 ≤ _
    exact hjk
   have hu3 : Upper (w.heap.size + 1) w2 (w2.setCells w.heap.size (k) [.slice y.a y.len y.cap]) := upper_sets _ _ _ _
   have HN3 : Hd (∀ j, j < k + 1 → (if j = k then y else f j).own (w.heap.size + 1) (w2.setCells w.heap.size (k) [.slice y.a y.len y.cap])) := fun j hj => by
    by_cases e : j = k
    · rw [if_pos e]
      exact ((hy).base HZ.o).upper hu3
    rw [if_neg e]
    exact ((HL.o j (by omega)).upper (uB hb2)).upper hu3
   have HN4 : Hd (∀ j, j < k + 1 → (kid j).same (if j = k then y else f j)) := fun j hj => by
    by_cases e : j = k
    · rw [if_pos e, e]
      exact he
    rw [if_neg e]
    exact HS.o j (by omega)
   have HN5 : Hd (Bl w (w2.setCells w.heap.size (k) [.slice y.a y.len y.cap])) := below_sets _ nR _ _ _ (bl_trans HB.o hb2)
   have HN6 := iH (Nat.lt_of_lt_of_le (Nat.lt_of_lt_of_le HZ.o hb2.size) hu3.size)
   have one1 := all_oneCell_toArray (cs := [.slice y.a y.len y.cap]) (by simp [Value.oneCell'])
   clear Z hcx hy he hb2 hu3 hlen hkz HX HR HL HS HB HZ
   obtain ⟨u0, st0⟩ := Option.isSome_iff_exists.1 (hth 0 (by omega)).1
   have st1 := (hth 0 (by omega)).2
   simp only [Nat.add_zero] at st0 st1
   go_upto_region 4 with fail
   clear hth one1
   go_wp2
   go_roundw
   case rel => exact ⟨k + 1, fun j => if j = k then y else f j, by omega, by go_num, HN1, HN2, HN3, HN4, HN5, HN6⟩
   case measure => simp [intOf]; omega
 obtain rfl : k = n := by omega
 have hlkz : ¬ (k : Int) < (k : Int) := by omega
 go_wp2
 go_ret
 exact ⟨w.heap.size, f, rfl, .inr ⟨w.heap.size, 0, rfl, nR, HZ.o, fun i hi c u hu => by rw [Nat.zero_add, Nat.mul_one]; exact HR.o i hi c u hu⟩, .inr ⟨nR, HZ.o, fun j hj => by have h := (HX.o j hj).2; rwa [Nat.zero_add] at h⟩, fun i hi => (HL.o i hi).base (Nat.le_succ _), HS.o, HB.o⟩
end Go.Proofs.YthljoojcpbignaaGreatDoor
