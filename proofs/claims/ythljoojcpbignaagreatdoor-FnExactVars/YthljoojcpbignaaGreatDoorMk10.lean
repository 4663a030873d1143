import Derived.Test.YthljoojcpbignaaGreatDoorMk09
namespace Go.Proofs.YthljoojcpbignaaGreatDoor
open Go.RowKit Go.Deep
set_option maxHeartbeats 40000000
set_option maxRecDepth 100000
theorem UN.expr_at (d : UN) (c : Nat) (h : c < 8) : d.cells[16 + c]? = (d.e.d.cl : List Value)[c]? := by
 rcases (by omega : c = 0 ∨ c = 1 ∨ c = 2 ∨ c = 3 ∨ c = 4 ∨ c = 5 ∨ c = 6 ∨ c = 7) with rfl | rfl | rfl | rfl | rfl | rfl | rfl | rfl <;> rfl
structure LV (w0 w : World) (B : Nat) (v0 v : Value) (L : List SL) (W' : World) : Prop where
 vl : VL w0 W' B v L
 kp : Kp v0 w v W'
 bl : Bl w0 W'
 lo : B ≤ W'.heap.size
theorem LV.step {w0 w : World} {B : Nat} {v0 v v' : Value} {L L' : List SL} {W' W'' : World} (h : LV w0 w B v0 v L W') (hwB : w0.heap.size ≤ B) (hV : VL w0 W'' B v' L') (hK : Kp v W' v' W'') : LV w0 w B v0 v' L' W'' :=
 ⟨hV, h.kp.trans hK, h.bl.trans ((hK.low (fun g hg => (h.vl.lo g hg).1) h.lo).mono hwB), Nat.le_trans h.lo hK.size⟩
theorem LV.below {w0 w : World} {B : Nat} {v0 v : Value} {L : List SL} {W' W'' : World} (h : LV w0 w B v0 v L W') (hb : Below W'.heap.size W' W'') : LV w0 w B v0 v L W'' :=
 ⟨h.vl.below hb, h.kp.trans (Kp.of_below hb), h.bl.trans (hb.mono h.bl.size), Nat.le_trans h.lo hb.size⟩
theorem UT.lies.parts {B : Nat} {w : World} {e : UT} (h : e.lies B w) : e.d.p.lies B w ∧ e.d.e.lies B w ∧ BsF B w e.d.v := by
 cases e with
 | nil => exact False.elim h
 | mk d ka kb => exact ⟨h.1, h.2.1, h.2.2.1⟩
def uV : UT → List (List Int) → List (List Int)
 | .nil, l => l
 | .mk d ka kb, l => foldN d.bn (fun i acc => uV (kb i) acc) (foldN d.an (fun i acc => uV (ka i) acc) (addV (eV d.e (ptV d.p l)) d.v.b))
def gV (n : Nat) (f : Nat → UT) (l : List (List Int)) : List (List Int) := foldN n (fun i acc => uV (f i) acc) l
def uc : UT → Nat
 | .nil => 0
 | .mk d ka kb => 3 + esz d.e + 1 + (sumN d.an (fun i => uc (ka i)) + sumN d.bn (fun i => uc (kb i)))
theorem uV_len (e : UT) : ∀ l, (uV e l).length ≤ l.length + uc e := by
 induction e with
 | nil => exact fun l => nR
 | mk d ka kb ia ib =>
  intro l
  have h0 := ptV_len d.p l
  have h1 := eV_len d.e (ptV d.p l)
  have h2 := addV_len (eV d.e (ptV d.p l)) d.v.b
  have h3 := foldN_len (f := fun i acc => uV (ka i) acc) (c := fun i => uc (ka i)) (n := d.an) (fun i l _ => ia i l) (addV (eV d.e (ptV d.p l)) d.v.b)
  have h4 := foldN_len (f := fun i acc => uV (kb i) acc) (c := fun i => uc (kb i)) (n := d.bn) (fun i l _ => ib i l) (foldN d.an (fun i acc => uV (ka i) acc) (addV (eV d.e (ptV d.p l)) d.v.b))
  show (foldN d.bn (fun i acc => uV (kb i) acc) (foldN d.an (fun i acc => uV (ka i) acc) (addV (eV d.e (ptV d.p l)) d.v.b))).length ≤ l.length + (3 + esz d.e + 1 + (sumN d.an (fun i => uc (ka i)) + sumN d.bn (fun i => uc (kb i))))
  omega
theorem gV_len (n : Nat) (f : Nat → UT) (l : List (List Int)) : (gV n f l).length ≤ l.length + sumN n (fun i => uc (f i)) := foldN_len (f := fun i acc => uV (f i) acc) (c := fun i => uc (f i)) (fun i l _ => uV_len (f i) l) l
theorem uV_at {e : UT} (h : e ≠ .nil) {l : List (List Int)} : uV e l = gV e.d.bn e.kb (gV e.d.an e.ka (addV (eV e.d.e (ptV e.d.p l)) e.d.v.b)) := by
 cases e with
 | nil => exact absurd rfl h
 | mk d ka kb => rfl
theorem uc_at {e : UT} (h : e ≠ .nil) : uc e = 3 + esz e.d.e + 1 + (sumN e.d.an (fun i => uc (e.ka i)) + sumN e.d.bn (fun i => uc (e.kb i))) := by
 cases e with
 | nil => exact absurd rfl h
 | mk d ka kb => rfl
theorem UT.lies.ne {B : Nat} {w : World} {e : UT} (h : e.lies B w) : e ≠ .nil := fun h0 => by subst h0; exact h
def GV (fn : Nat) (F : UT → List (List Int) → List (List Int)) (c : UT → Nat) (w0 : World) (B : Nat) (e : UT) : Prop :=
 (∀ (v : Value) (L : List SL) (W : World), VL w0 W B v L → Bl w0 W → L.length + sumN e.d.an (fun i => c (e.ka i)) ≤ 1000000 → B ≤ W.heap.size → Calls Tryz.prog fn #[v, .slice e.d.aa e.d.an e.d.ac] W (AddAns w0 B v (foldN e.d.an (fun i acc => F (e.ka i) acc) (L.map SL.b)) W)) ∧
 (∀ (v : Value) (L : List SL) (W : World), VL w0 W B v L → Bl w0 W → L.length + sumN e.d.bn (fun i => c (e.kb i)) ≤ 1000000 → B ≤ W.heap.size → Calls Tryz.prog fn #[v, .slice e.d.ba e.d.bn e.d.bc] W (AddAns w0 B v (foldN e.d.bn (fun i acc => F (e.kb i) acc) (L.map SL.b)) W))
theorem bodyVars_of (a : Option Addr) (cap n : Nat) (kid : Nat → UT) (v : Value) (L : List SL) (B : Nat) (w0 w : World) (hn : n ≤ 1048576) (hR : KRow 0 w0 28 a n (fun i => (kid i).d.cells)) (hk : ∀ i, i < n → (kid i).lies 0 w0) (hV : VL w0 w B v L) (hw : Bl w0 w) (hm : L.length + sumN n (fun i => uc (kid i)) ≤ 1000000) (hB : B ≤ w.heap.size) (hwB : w0.heap.size ≤ B)
 (IH : ∀ i, i < n → GV 27 uV uc w0 B (kid i)) :
 Calls Tryz.prog 27 #[v, .slice a n cap] w (AddAns w0 B v (foldN n (fun i acc => uV (kid i) acc) (L.map SL.b)) w) := by
 have HS : Hd (LV w0 w B v v L w) := ⟨hV, Kp.of_below brf, hw, hB⟩
 by_cases hn0 : n = 0
 · subst hn0
   clear hR IH hn hk hV hw hm hB
   go_in
   go_wp2_with fail
   refine wp_loop_rounds 1 ?_
   rw [rounds_succ]
   go_wp2
   go_ret
   exact ⟨_, L, rfl, HS.o.vl, rfl, HS.o.kp⟩
 obtain ⟨b, off, rfl, _, hlt, hck⟩ := hR.resolve_left hn0
 have HC := iH hck
 have HI := iH IH
 have HEL := iH (fun i (hi : i < n) => (hk i hi).parts)
 have HNE := iH (fun i (hi : i < n) => (hk i hi).ne)
 have HLK : Hd (∀ k, k < n → (foldN k (fun i acc => uV (kid i) acc) (L.map SL.b)).length + uc (kid k) ≤ 1000000) := fun k hk => by
  have h1 := foldN_len (f := (fun i acc => uV (kid i) acc)) (c := fun i => uc (kid i)) (n := k) (fun i l _ => uV_len (kid i) l) (L.map SL.b)
  rw [List.length_map] at h1
  have h3 := sumN_mono (f := fun i => uc (kid i)) (show k + 1 ≤ n by omega)
  have h4 : sumN (k + 1) (fun i => uc (kid i)) = sumN k (fun i => uc (kid i)) + uc (kid k) := rfl
  omega
 clear hR hck IH hk hV hw hm hB
 go_in
 go_wp2_with fail
 go_loopw [0, 5] (fun lv i wr => ∃ (k : Nat) (v' : Value) (L' : List SL), k ≤ n ∧ v' = lv ∧ i = .int .i64 k ∧ Hd (LV w0 w B v v' L' wr) ∧ Hd (L'.map SL.b = foldN k (fun i acc => uV (kid i) acc) (L.map SL.b))) (fun _ i _ => n - (intOf i).toNat)
 case atStart => exact ⟨0, v, L, nZ, rfl, rfl, HS, (show _ = _ from rfl)⟩
 clear HS
 obtain ⟨k, v', L', hk, rfl, rfl, HSr, HRr⟩ := hrel
 by_cases hlk : k < n
 · have hlkz : (k : Int) < (n : Int) := by omega
   have HCX := iH (fun w' (h : Bl w0 w') c u (hu : ((kid k).d.cells)[c]? = some u) => (h.cell (p := ⟨b, off + k * 28 + c, none⟩) hlt).trans (HC.o k hlk c u hu))
   have HF : Hd (∀ w', Bl w0 w' → w'.cell? ⟨b, off + k * 28 + 1, none⟩ = some (.slice (kid k).d.p.s.v.a (kid k).d.p.s.v.len (kid k).d.p.s.v.cap) ∧ w'.cell? ⟨b, off + k * 28 + 6, none⟩ = some (.slice (kid k).d.p.p.v.a (kid k).d.p.p.v.len (kid k).d.p.p.v.cap) ∧ w'.cell? ⟨b, off + k * 28 + 11, none⟩ = some (.slice (kid k).d.p.o.v.a (kid k).d.p.o.v.len (kid k).d.p.o.v.cap) ∧ w'.cell? ⟨b, off + k * 28 + 24, none⟩ = some (.slice (kid k).d.v.a (kid k).d.v.len (kid k).d.v.cap) ∧ w'.cell? ⟨b, off + k * 28 + 26, none⟩ = some (.slice (kid k).d.aa (kid k).d.an (kid k).d.ac) ∧ w'.cell? ⟨b, off + k * 28 + 27, none⟩ = some (.slice (kid k).d.ba (kid k).d.bn (kid k).d.bc) ∧ w'.cell? ⟨b, off + k * 28 + 0, none⟩ = some (.int .i64 (kid k).d.k)) := fun w' h => ⟨HCX.o w' h 1 _ rfl, HCX.o w' h 6 _ rfl, HCX.o w' h 11 _ rfl, HCX.o w' h 24 _ rfl, HCX.o w' h 26 _ rfl, HCX.o w' h 27 _ rfl, HCX.o w' h 0 _ rfl⟩
   have HSU : Hd (foldN (k + 1) (fun i acc => uV (kid i) acc) (L.map SL.b) = uV (kid k) (foldN k (fun i acc => uV (kid i) acc) (L.map SL.b))) := rfl
   have HLN0 : Hd (L'.length = (foldN k (fun i acc => uV (kid i) acc) (L.map SL.b)).length) := (show _ = _ by rw [← HRr.o, List.length_map])
   have HS0 := iH (HSr.o.below bdr)
   have HIK := iH (HI.o k hlk)
   have HLK2 : Hd (∀ k, k < n → kid k ≠ .nil) := HNE
   have HUC := iH (uc_at (HNE.o k hlk))
   have HLE : Hd (∀ w', Bl w0 w' → w'.rangeAt b (off + k * 28 + 16) (kid k).d.e.d.cl) := fun w' h c u hu => by have h1 := HCX.o w' h (16 + c) u (by have h2 := (List.getElem?_eq_some_iff.1 hu).1; rw [← hu]; exact UN.expr_at _ c h2); rwa [← Nat.add_assoc] at h1
   go_wp2_with fail
   refine whd (fun w' => Bl w0 w') ?_ fun hHeld => ?_
   · exact Below.drew HSr.o.bl
   refine tkB 0 12 ?_
   refine tkB 1 13 ?_
   refine tkB 2 14 ?_
   refine tkB 3 15 ?_
   refine tkB 4 16 ?_
   refine tkB 5 17 ?_
   refine tkB 6 18 ?_
   refine tkA 7 19 (v := ?v8) ?y8 ?_
   case y8 => (intro w' hSw; obtain ⟨q1, q2, q3, q4, q5, q6, q7⟩ := HF.o w' hSw; go_simp; (try with_reducible rfl))
   refine tkB 9 21 ?_
   refine tkB 10 22 ?_
   refine tkB 11 23 ?_
   refine tkB 12 24 ?_
   refine tkB 13 25 ?_
   refine tkB 14 26 ?_
   refine tkA 15 27 (v := ?v15) ?y15 ?_
   case y15 => (intro w' hSw; obtain ⟨q1, q2, q3, q4, q5, q6, q7⟩ := HF.o w' hSw; go_simp; (try with_reducible rfl))
   refine tkB 17 29 ?_
   refine tkB 18 30 ?_
   refine tkB 19 31 ?_
   refine tkB 20 32 ?_
   refine tkB 21 33 ?_
   refine tkB 22 34 ?_
   refine tkA 23 35 (v := ?v22) ?y22 ?_
   case y22 => (intro w' hSw; obtain ⟨q1, q2, q3, q4, q5, q6, q7⟩ := HF.o w' hSw; go_simp; (try with_reducible rfl))
   try simp only [Act.put, sA, zA, cA]
   refine rdA 8 fun K hK => ?_
   go_simp
   refine (l4add_any v' L' (kid k).d.p.s.v B w0 _ HS0.o.vl HS0.o.bl (HEL.o k hlk).1.1.1 (by have h := HLK.o k hlk; have hu := HUC.o; rw [HLN0.o]; omega) HS0.o.lo).mono ?_
   rintro e z1 ⟨v1, M1, rfl, hV1, hR1, hK1⟩
   have HS1 := iH (HS0.o.step hwB hV1 hK1)
   have HE1 : Hd (M1.map SL.b = addV (foldN k (fun i acc => uV (kid i) acc) (L.map SL.b)) (kid k).d.p.s.v.b) := (show _ = _ by rw [hR1, HRr.o] <;> rfl)
   have HLN1 : Hd (M1.length = (addV (foldN k (fun i acc => uV (kid i) acc) (L.map SL.b)) (kid k).d.p.s.v.b).length) := (show _ = _ by rw [← HE1.o, List.length_map])
   clear hV1 hR1 hK1
   go_wp2_with fail
   refine hK.out _ _ ?_ fun hHeld => ?_
   · exact HS1.o.bl
   clear hK K
   try simp only [Act.put, sA, zA, cA]
   refine rdA 16 fun K hK => ?_
   go_simp
   refine (l4add_any v1 M1 (kid k).d.p.p.v B w0 _ HS1.o.vl HS1.o.bl (HEL.o k hlk).1.2.1.1 (by have h := HLK.o k hlk; have hu := HUC.o; have h1 := addV_len (foldN k (fun i acc => uV (kid i) acc) (L.map SL.b)) (kid k).d.p.s.v.b; rw [HLN1.o]; omega) HS1.o.lo).mono ?_
   rintro e z2 ⟨v2, M2, rfl, hV2, hR2, hK2⟩
   have HS2 := iH (HS1.o.step hwB hV2 hK2)
   have HE2 : Hd (M2.map SL.b = addV (addV (foldN k (fun i acc => uV (kid i) acc) (L.map SL.b)) (kid k).d.p.s.v.b) (kid k).d.p.p.v.b) := (show _ = _ by rw [hR2, HE1.o] <;> rfl)
   have HLN2 : Hd (M2.length = (addV (addV (foldN k (fun i acc => uV (kid i) acc) (L.map SL.b)) (kid k).d.p.s.v.b) (kid k).d.p.p.v.b).length) := (show _ = _ by rw [← HE2.o, List.length_map])
   clear hV2 hR2 hK2
   go_wp2_with fail
   refine hK.out _ _ ?_ fun hHeld => ?_
   · exact HS2.o.bl
   clear hK K
   try simp only [Act.put, sA, zA, cA]
   refine rdA 24 fun K hK => ?_
   go_simp
   refine (l4add_any v2 M2 (kid k).d.p.o.v B w0 _ HS2.o.vl HS2.o.bl (HEL.o k hlk).1.2.2.1 (by have h := HLK.o k hlk; have hu := HUC.o; have h1 := addV_len (foldN k (fun i acc => uV (kid i) acc) (L.map SL.b)) (kid k).d.p.s.v.b; have h2 := addV_len (addV (foldN k (fun i acc => uV (kid i) acc) (L.map SL.b)) (kid k).d.p.s.v.b) (kid k).d.p.p.v.b; rw [HLN2.o]; omega) HS2.o.lo).mono ?_
   rintro e z3 ⟨v3, M3, rfl, hV3, hR3, hK3⟩
   have HS3 := iH (HS2.o.step hwB hV3 hK3)
   have HE3 : Hd (M3.map SL.b = addV (addV (addV (foldN k (fun i acc => uV (kid i) acc) (L.map SL.b)) (kid k).d.p.s.v.b) (kid k).d.p.p.v.b) (kid k).d.p.o.v.b) := (show _ = _ by rw [hR3, HE2.o] <;> rfl)
   have HLN3 : Hd (M3.length = (addV (addV (addV (foldN k (fun i acc => uV (kid i) acc) (L.map SL.b)) (kid k).d.p.s.v.b) (kid k).d.p.p.v.b) (kid k).d.p.o.v.b).length) := (show _ = _ by rw [← HE3.o, List.length_map])
   clear hV3 hR3 hK3
   go_wp2_with fail
   refine hK.out _ _ ?_ fun hHeld => ?_
   · exact HS3.o.bl
   clear hK K
   refine tkB 25 0 ?_
   refine wpAnyH_done (by kernel_rfl) ?_ _
   clear hHeld HS0 HS1 HS2 HE1 HE2 HLN0 HLN1 HLN2 HSr HRr
   have HE3 : Hd (M3.map SL.b = ptV (kid k).d.p (foldN k (fun i acc => uV (kid i) acc) (L.map SL.b))) := HE3
   have HLN3 : Hd (M3.length = (ptV (kid k).d.p (foldN k (fun i acc => uV (kid i) acc) (L.map SL.b))).length) := HLN3
   have HPL := iH (ptV_len (kid k).d.p (foldN k (fun i acc => uV (kid i) acc) (L.map SL.b)))
   have HS0 := iH (HS3.o.below bdr)
   go_wp2_with fail
   refine whd (fun w' => Bl w0 w') ?_ fun hHeld => ?_
   · exact Below.drew HS3.o.bl
   refine tkB 0 37 ?_
   refine tkB 1 38 ?_
   refine tkB 2 39 ?_
   refine tkB 3 40 ?_
   refine tkB 4 41 ?_
   refine takeq (i := 5) 42 (v := .agg (kid k).d.e.d.ar) rfl rfl (by kernel_rfl) (by kernel_rfl) (by kernel_rfl) (fun _ _ _ h => h) (yieldsIf_load_mid (by rfl) 100 _ rfl b _ rfl _ _ HLE.o Tryz.underlying100 rfl (by kernel_rfl)) hHeld ?_
   refine tkB 7 44 ?_
   refine tkB 8 45 ?_
   refine tkB 9 46 ?_
   refine tkB 10 47 ?_
   refine tkA 11 48 (v := ?v33) ?y33 ?_
   case y33 => (intro w' hSw; obtain ⟨q1, q2, q3, q4, q5, q6, q7⟩ := HF.o w' hSw; go_simp; (try with_reducible rfl))
   try simp only [Act.put, sA, zA, cA]
   refine rdA 6 fun K hK => ?_
   go_simp
   refine (l4exprVars_any (kid k).d.e v3 M3 B w0 _ (HEL.o k hlk).2.1 HS0.o.vl HS0.o.bl (by have h := HLK.o k hlk; have hu := HUC.o; have h1 := HPL.o; rw [HLN3.o]; omega) HS0.o.lo hwB).mono ?_
   rintro e z4 ⟨v4, M4, rfl, hV4, hR4, hK4⟩
   have HS4 := iH (HS0.o.step hwB hV4 hK4)
   have HE4 : Hd (M4.map SL.b = eV (kid k).d.e (ptV (kid k).d.p (foldN k (fun i acc => uV (kid i) acc) (L.map SL.b)))) := (show _ = _ by rw [hR4, HE3.o] <;> rfl)
   have HLN4 : Hd (M4.length = (eV (kid k).d.e (ptV (kid k).d.p (foldN k (fun i acc => uV (kid i) acc) (L.map SL.b)))).length) := (show _ = _ by rw [← HE4.o, List.length_map])
   clear hV4 hR4 hK4
   go_wp2_with fail
   refine hK.out _ _ ?_ fun hHeld => ?_
   · exact HS4.o.bl
   clear hK K
   try simp only [Act.put, sA, zA, cA]
   have HL4 : Hd (M4.length ≤ (foldN k (fun i acc => uV (kid i) acc) (L.map SL.b)).length + 3 + esz (kid k).d.e) := (show _ ≤ _ by have h1 := eV_len (kid k).d.e (ptV (kid k).d.p (foldN k (fun i acc => uV (kid i) acc) (L.map SL.b))); have h2 := HPL.o; rw [HLN4.o]; omega)
   refine rdA 12 fun K hK => ?_
   go_simp
   refine (l4add_any v4 M4 (kid k).d.v B w0 _ HS4.o.vl HS4.o.bl (HEL.o k hlk).2.2 (by have h := HLK.o k hlk; have hu := HUC.o; have h1 := HL4.o; omega) HS4.o.lo).mono ?_
   rintro e z5 ⟨v5, M5, rfl, hV5, hR5, hK5⟩
   have HS5 := iH (HS4.o.step hwB hV5 hK5)
   have HE5 : Hd (M5.map SL.b = addV (eV (kid k).d.e (ptV (kid k).d.p (foldN k (fun i acc => uV (kid i) acc) (L.map SL.b)))) (kid k).d.v.b) := (show _ = _ by rw [hR5, HE4.o] <;> rfl)
   have HLN5 : Hd (M5.length = (addV (eV (kid k).d.e (ptV (kid k).d.p (foldN k (fun i acc => uV (kid i) acc) (L.map SL.b)))) (kid k).d.v.b).length) := (show _ = _ by rw [← HE5.o, List.length_map])
   clear hV5 hR5 hK5
   go_wp2_with fail
   refine hK.out _ _ ?_ fun hHeld => ?_
   · exact HS5.o.bl
   clear hK K
   try simp only [Act.put, sA, zA, cA]
   have HL5 : Hd (M5.length ≤ (foldN k (fun i acc => uV (kid i) acc) (L.map SL.b)).length + 3 + esz (kid k).d.e + 1) := (show _ ≤ _ by have h1 := addV_len (eV (kid k).d.e (ptV (kid k).d.p (foldN k (fun i acc => uV (kid i) acc) (L.map SL.b)))) (kid k).d.v.b; have h2 := HL4.o; have h3 := HLN4.o; rw [HLN5.o]; omega)
   refine tkB 13 0 ?_
   refine wpAnyH_done (by kernel_rfl) ?_ _
   clear hHeld HS0 HS3 HS4 HE3 HE4 HLN3 HLN4 HL4
   have HS0 := iH (HS5.o.below bdr)
   go_wp2_with fail
   refine whd (fun w' => Bl w0 w') ?_ fun hHeld => ?_
   · exact Below.drew HS5.o.bl
   refine tkB 0 50 ?_
   refine tkB 1 51 ?_
   refine tkB 2 52 ?_
   refine tkB 3 53 ?_
   refine tkB 4 54 ?_
   refine tkA 5 55 (v := ?v40) ?y40 ?_
   case y40 => (intro w' hSw; obtain ⟨q1, q2, q3, q4, q5, q6, q7⟩ := HF.o w' hSw; go_simp; (try with_reducible rfl))
   refine tkB 7 57 ?_
   refine tkB 8 58 ?_
   refine tkB 9 59 ?_
   refine tkB 10 60 ?_
   refine tkA 11 61 (v := ?v45) ?y45 ?_
   case y45 => (intro w' hSw; obtain ⟨q1, q2, q3, q4, q5, q6, q7⟩ := HF.o w' hSw; go_simp; (try with_reducible rfl))
   try simp only [Act.put, sA, zA, cA]
   refine rdA 6 fun K hK => ?_
   go_simp
   refine (HIK.o.1 v5 M5 _ HS0.o.vl HS0.o.bl (by have h := HLK.o k hlk; have hu := HUC.o; have h1 := HL5.o; omega) HS0.o.lo).mono ?_
   rintro e z6 ⟨v6, M6, rfl, hV6, hR6, hK6⟩
   have HS6 := iH (HS0.o.step hwB hV6 hK6)
   have HE6 : Hd (M6.map SL.b = gV (kid k).d.an (kid k).ka (addV (eV (kid k).d.e (ptV (kid k).d.p (foldN k (fun i acc => uV (kid i) acc) (L.map SL.b)))) (kid k).d.v.b)) := (show _ = _ by rw [hR6, HE5.o] <;> rfl)
   have HLN6 : Hd (M6.length = (gV (kid k).d.an (kid k).ka (addV (eV (kid k).d.e (ptV (kid k).d.p (foldN k (fun i acc => uV (kid i) acc) (L.map SL.b)))) (kid k).d.v.b)).length) := (show _ = _ by rw [← HE6.o, List.length_map])
   clear hV6 hR6 hK6
   go_wp2_with fail
   refine hK.out _ _ ?_ fun hHeld => ?_
   · exact HS6.o.bl
   clear hK K
   try simp only [Act.put, sA, zA, cA]
   have HL6 : Hd (M6.length ≤ M5.length + sumN (kid k).d.an (fun i => uc ((kid k).ka i))) := (show _ ≤ _ by have h1 := gV_len (kid k).d.an (kid k).ka (addV (eV (kid k).d.e (ptV (kid k).d.p (foldN k (fun i acc => uV (kid i) acc) (L.map SL.b)))) (kid k).d.v.b); rw [HLN6.o, HLN5.o]; exact h1)
   refine rdA 12 fun K hK => ?_
   go_simp
   refine (HIK.o.2 v6 M6 _ HS6.o.vl HS6.o.bl (by have h := HLK.o k hlk; have hu := HUC.o; have h1 := HL5.o; have h2 := HL6.o; omega) HS6.o.lo).mono ?_
   rintro e z7 ⟨v7, M7, rfl, hV7, hR7, hK7⟩
   have HS7 := iH (HS6.o.step hwB hV7 hK7)
   have HE7 : Hd (M7.map SL.b = gV (kid k).d.bn (kid k).kb (gV (kid k).d.an (kid k).ka (addV (eV (kid k).d.e (ptV (kid k).d.p (foldN k (fun i acc => uV (kid i) acc) (L.map SL.b)))) (kid k).d.v.b))) := (show _ = _ by rw [hR7, HE6.o] <;> rfl)
   have HLN7 : Hd (M7.length = (gV (kid k).d.bn (kid k).kb (gV (kid k).d.an (kid k).ka (addV (eV (kid k).d.e (ptV (kid k).d.p (foldN k (fun i acc => uV (kid i) acc) (L.map SL.b)))) (kid k).d.v.b))).length) := (show _ = _ by rw [← HE7.o, List.length_map])
   clear hV7 hR7 hK7
   go_wp2_with fail
   refine hK.out _ _ ?_ fun hHeld => ?_
   · exact HS7.o.bl
   clear hK K
   refine tkB 13 0 ?_
   refine wpAnyH_done (by kernel_rfl) ?_ _
   have HE7 : Hd (M7.map SL.b = foldN (k + 1) (fun i acc => uV (kid i) acc) (L.map SL.b)) := (show _ = _ by rw [HSU.o, uV_at (HLK2.o k hlk)]; exact HE7.o)
   clear hHeld HS0 HS5 HS6 HE5 HE6 HLN5 HLN6 HLN7 HL5 HL6
   go_wp2
   go_roundw
   case rel => exact ⟨k + 1, v7, M7, by omega, rfl, by go_num, HS7, HE7⟩
   case measure => simp [intOf]; omega
 obtain rfl : k = n := by omega
 have hlkz : ¬ (k : Int) < (k : Int) := by omega
 go_wp2
 go_ret
 exact ⟨_, L', rfl, HSr.o.vl, HRr.o, HSr.o.kp⟩
theorem bodyVars_any (e : UT) : ∀ (w0 : World) (B : Nat), e.lies 0 w0 → w0.heap.size ≤ B → GV 27 uV uc w0 B e := by
 induction e with
 | nil => exact fun _ _ h => False.elim h
 | mk d ka kb ia ib =>
  intro w0 B hl hwB
  obtain ⟨_, _, _, _, _, ⟨an, aR⟩, ⟨bn, bR⟩, hka, hkb⟩ := hl
  exact ⟨fun v L W h1 h2 h3 h4 => bodyVars_of d.aa d.ac d.an ka v L B w0 W an aR hka h1 h2 h3 h4 hwB fun i hi => ia i w0 B (hka i hi) hwB, fun v L W h1 h2 h3 h4 => bodyVars_of d.ba d.bc d.bn kb v L B w0 W bn bR hkb h1 h2 h3 h4 hwB fun i hi => ib i w0 B (hkb i hi) hwB⟩
end Go.Proofs.YthljoojcpbignaaGreatDoor
