import Derived.Test.YthljoojcpbignaaGreatDoorMk12
namespace Go.Proofs.YthljoojcpbignaaGreatDoor
open Go.RowKit Go.Deep
set_option maxHeartbeats 40000000
set_option maxRecDepth 100000
def ubN (f : Nat → UT) (i : Nat) : Prop := ¬ ((f i).d.k = 5 ∧ (f i).d.v.b ∈ foldN i (fun j acc => bV (f j) acc) [])
def ubd : UT → Prop
 | .nil => True
 | .mk d ka kb => (∀ i, i < d.an → ubN ka i ∧ ubd (ka i)) ∧ ∀ i, i < d.bn → ubN kb i ∧ ubd (kb i)
def gBd (n : Nat) (f : Nat → UT) : Prop := ∀ i, i < n → ubN f i ∧ ubd (f i)
theorem ubd_at {e : UT} (h : e ≠ .nil) (hu : ubd e) : gBd e.d.an e.ka ∧ gBd e.d.bn e.kb := by
 cases e with
 | nil => exact absurd rfl h
 | mk d ka kb => exact hu
theorem ubd_mk {e : UT} (h : e ≠ .nil) (h1 : gBd e.d.an e.ka) (h2 : gBd e.d.bn e.kb) : ubd e := by
 cases e with
 | nil => exact absurd rfl h
 | mk d ka kb => exact ⟨h1, h2⟩
def GBd (fn : Nat) (w0 : World) (e : UT) : Prop :=
 (∀ (W : World), Bl w0 W → Calls Tryz.prog fn #[.slice e.d.aa e.d.an e.d.ac] W (Tells (gBd e.d.an e.ka) W)) ∧
 (∀ (W : World), Bl w0 W → Calls Tryz.prog fn #[.slice e.d.ba e.d.bn e.d.bc] W (Tells (gBd e.d.bn e.kb) W))
theorem bound_of (a : Option Addr) (cap n : Nat) (kid : Nat → UT) (w0 w : World) (hn : n ≤ 1048576) (hcap : n ≤ cap) (hR : KRow 0 w0 28 a n (fun i => (kid i).d.cells)) (hk : ∀ i, i < n → (kid i).lies 0 w0) (hw : Bl w0 w) (hm : sumN n (fun i => uc (kid i)) ≤ 1000000)
 (IH : ∀ i, i < n → GBd 64 w0 (kid i)) :
 Calls Tryz.prog 64 #[.slice a n cap] w (Tells (gBd n kid) w) := by
 by_cases hn0 : n = 0
 · subst hn0
   clear hR IH hn hk hm hw hcap
   go_in
   go_wp2_with fail
   refine wp_loop_rounds 1 ?_
   rw [rounds_succ]
   go_wp2
   go_ret
   exact Tells.yes (fun i hi => absurd hi nN) brf
 have hR2 := hR
 obtain ⟨b, off, rfl, _, hlt, hck⟩ := hR.resolve_left hn0
 have HC := iH hck
 have HI := iH IH
 have HEL := iH (fun i (hi : i < n) => (hk i hi).parts.2.2)
 have HNE := iH (fun i (hi : i < n) => (hk i hi).ne)
 have HLK : Hd (∀ k, k < n → (foldN k (fun i acc => bV (kid i) acc) []).length ≤ 1000000) := fun k hk => by
  have h1 := bG_len k kid []
  have h3 := sumN_mono (f := fun i => uc (kid i)) (show k ≤ n by omega)
  simp only [List.length_nil] at h1
  omega
 have HZB : Hd (∀ k, k < n → ∀ W, Bl w0 W → Cl 95 #[.slice none 0 0, .slice (some ⟨b, off, none⟩) k cap] W (AddAns w0 w0.heap.size (.slice none 0 0) (foldN k (fun i acc => bV (kid i) acc) []) W)) := fun k hk2 W hb => by
  have h3 := sumN_mono (f := fun i => uc (kid i)) (show k ≤ n by omega)
  exact binds_of _ cap k kid (.slice none 0 0) [] w0.heap.size w0 W (by omega) (.inr ⟨b, off, rfl, nZ, hlt, fun i hi c u hu => HC.o i (by omega) c u hu⟩) (fun i hi => hk i (by omega)) (VL.nil _ _ _) hb (by simp only [List.length_nil]; omega) hb.size nR (fun i hi => binds_any (kid i) w0 w0.heap.size (hk i (by omega)) nR)
 have HW0 := iH (fun W (h : Bl w W) => hw.trans (h.mono hw.size))
 clear hR hR2 hck IH hk hw hm
 go_in
 go_wp2_with fail
 go_loopw [3] (fun i wr => ∃ (k : Nat), k ≤ n ∧ i = .int .i64 k ∧ Hd (Bl w wr) ∧ Hd (∀ j, j < k → ubN kid j ∧ ubd (kid j))) (fun i _ => n - (intOf i).toNat)
 case atStart => exact ⟨0, nZ, rfl, Below.refl _ _, fun j hj => absurd hj nN⟩
 obtain ⟨k, hk, rfl, HBr, HOK⟩ := hrel
 by_cases hlk : k < n
 · have hlkz : (k : Int) < (n : Int) := by omega
   have hkc : (k : Int) ≤ (cap : Int) := by omega
   have HCX := iH (fun w' (h : Bl w w') c u (hu : ((kid k).d.cells)[c]? = some u) => ((HW0.o _ h).cell (p := ⟨b, off + k * 28 + c, none⟩) hlt).trans (HC.o k hlk c u hu))
   have HF : Hd (∀ w', Bl w w' → w'.cell? ⟨b, off + k * 28, none⟩ = some (.int .i64 (kid k).d.k) ∧ w'.cell? ⟨b, off + k * 28 + 24, none⟩ = some (.slice (kid k).d.v.a (kid k).d.v.len (kid k).d.v.cap)) := fun w' h => ⟨HCX.o w' h 0 _ rfl, HCX.o w' h 24 _ rfl⟩
   have HFK : Hd (∀ w', Bl w w' → w'.cell? ⟨b, off + k * 28 + 26, none⟩ = some (.slice (kid k).d.aa (kid k).d.an (kid k).d.ac) ∧ w'.cell? ⟨b, off + k * 28 + 27, none⟩ = some (.slice (kid k).d.ba (kid k).d.bn (kid k).d.bc)) := fun w' h => ⟨HCX.o w' h 26 _ rfl, HCX.o w' h 27 _ rfl⟩
   have HIK := iH (HI.o k hlk)
   by_cases hk5 : (kid k).d.k = 5
   · have e5 : ((kid k).d.k == 5) = true := by simp [hk5]
     have HK5 := iH hk5
     have ZB := HZB.o k hlk wr.drew (HW0.o _ (Below.drew HBr.o))
     clear hk5
     go_wp2_with fail
     refine whd (fun w' => Bl w w') ?_ fun hHeld => ?_
     · exact Below.drew HBr.o
     refine tkB 0 10 ?_
     refine tkB 1 11 ?_
     refine tkB 2 12 ?_
     refine tkB 3 13 ?_
     refine tkA 4 14 (v := ?v106) ?y106 ?_
     case y106 => (intro w' hSw; obtain ⟨q1, q2⟩ := HF.o w' hSw; go_simp; (try with_reducible rfl))
     refine tkB 5 15 ?_
     refine tkB 6 16 ?_
     refine tkB 7 17 ?_
     refine tkB 8 18 ?_
     refine tkB 9 19 ?_
     refine tkB 11 21 ?_
     refine tkB 12 22 ?_
     refine tkB 13 23 ?_
     refine tkB 14 24 ?_
     refine tkA 15 25 (v := ?v116) ?y116 ?_
     case y116 => (intro w' hSw; obtain ⟨q1, q2⟩ := HF.o w' hSw; go_simp; (try with_reducible rfl))
     try simp only [Act.put, sA, zA, cA]
     refine rdA 10 fun K hK => ?_
     go_simp
     refine ZB.mono ?_
     rintro e z1 ⟨v1, M1, rfl, hV1, hR1, hK1⟩
     have HBz := iH ((Below.drew HBr.o).trans (hK1.low (B := w.heap.size) (fun g hg => (by cases hg)) (by have := HBr.o.size; simpa using this)))
     have HV1 := iH hV1
     have HR1 := iH hR1
     clear hV1 hR1 hK1
     go_wp2_with fail
     refine hK.out _ _ ?_ fun hHeld => ?_
     · exact HBz.o
     clear hK K
     try simp only [Act.put, sA, zA, cA]
     refine rdA 16 fun K hK => ?_
     go_simp
     refine (l4has_any v1 M1 (kid k).d.v w0.heap.size w0 z1 HV1.o (HW0.o _ HBz.o) (HEL.o k hlk) (by have h1 := congrArg List.length HR1.o; rw [List.length_map] at h1; have h2 := HLK.o k hlk; omega)).mono ?_
     rintro e z2 ⟨q2, rfl, hq2, hb2⟩
     have HBy := iH (HBz.o.trans (hb2.mono HBz.o.size))
     have HQ : Hd (q2 = true ↔ (kid k).d.v.b ∈ foldN k (fun i acc => bV (kid i) acc) []) := (show _ ↔ _ by rw [hq2]; unfold InL; rw [HR1.o])
     clear hq2 hb2
     go_wp2_with fail
     refine hK.out _ _ ?_ fun hHeld => ?_
     · exact HBy.o
     clear hK K
     refine tkB 17 27 ?_
     refine wpAnyH_done (by kernel_rfl) ?_ _
     clear hHeld HF HBr HBz HV1 HR1
     cases q2 with
     | true =>
      have HNO : Hd (¬ gBd n kid) := fun hh => (hh k hlk).1 ⟨HK5.o, HQ.o.1 rfl⟩
      go_wp2
      go_ret
      exact Tells.no HNO.o HBy.o
     | false =>
      have HUB : Hd (ubN kid k) := fun hh => by
       have h := HQ.o.2 hh.2
       cases h
      clear HQ
      have q5 := (HFK.o _ HBy.o).1
      have GA := (HIK.o).1 _ (HW0.o _ HBy.o)
      go_wp2_with fail
      refine GA.mono ?_
      rintro e w5 ⟨q5, rfl, hq5, hb5⟩
      have HB5 := iH (HBy.o.trans (hb5.mono HBy.o.size))
      clear GA hb5
      cases q5
      · have HNO : Hd (¬ gBd n kid) := fun hh => by
         have h := hq5.2 (ubd_at (HNE.o k hlk) (hh k hlk).2).1
         cases h
        clear hq5
        go_wp2
        go_ret
        exact Tells.no HNO.o HB5.o
      have HA5 := iH (hq5.1 rfl)
      clear hq5
      have q6 := (HFK.o _ HB5.o).2
      have GB := (HIK.o).2 _ (HW0.o _ HB5.o)
      go_wp2_with fail
      refine GB.mono ?_
      rintro e w6 ⟨q6, rfl, hq6, hb6⟩
      have HB6 := iH (HB5.o.trans (hb6.mono HB5.o.size))
      clear GB hb6
      cases q6
      · have HNO : Hd (¬ gBd n kid) := fun hh => by
         have h := hq6.2 (ubd_at (HNE.o k hlk) (hh k hlk).2).2
         cases h
        clear hq6
        go_wp2
        go_ret
        exact Tells.no HNO.o HB6.o
      have HA6 := iH (ubd_mk (HNE.o k hlk) HA5.o (hq6.1 rfl))
      clear hq6
      go_wp2
      go_roundw
      case rel =>
       refine ⟨k + 1, by omega, by go_num, HB6, fun j hj => ?_⟩
       by_cases e : j = k
       · subst e
         exact ⟨HUB.o, HA6.o⟩
       exact HOK.o j (by omega)
      case measure => simp [intOf]; omega
   have e5 : ((kid k).d.k == 5) = false := by simp [hk5]
   have HUB : Hd (ubN kid k) := fun hh => hk5 hh.1
   clear hk5
   go_wp2_with fail
   refine whd (fun w' => Bl w w') ?_ fun hHeld => ?_
   · exact Below.drew HBr.o
   refine tkB 0 10 ?_
   refine tkB 1 11 ?_
   refine tkB 2 12 ?_
   refine tkB 3 13 ?_
   refine tkA 4 14 (v := ?v98) ?y98 ?_
   case y98 => (intro w' hSw; obtain ⟨q1, q2⟩ := HF.o w' hSw; go_simp; (try with_reducible rfl))
   refine tkB 5 15 ?_
   refine tkB 6 16 ?_
   refine tkU 7 17 ?_
   refine tkU 8 18 ?_
   refine tkU 9 19 ?_
   refine tkU 10 20 ?_
   refine tkU 11 21 ?_
   refine tkU 12 22 ?_
   refine tkU 13 23 ?_
   refine tkU 14 24 ?_
   refine tkU 15 25 ?_
   refine tkU 16 26 ?_
   refine tkB 17 27 ?_
   refine wpAnyH_done (by kernel_rfl) ?_ _
   have HBy := iH (Below.drew HBr.o)
   clear hHeld HF HBr
   generalize wr.drew = wy at *
   have q5 := (HFK.o _ HBy.o).1
   have GA := (HIK.o).1 _ (HW0.o _ HBy.o)
   go_wp2_with fail
   refine GA.mono ?_
   rintro e w5 ⟨q5, rfl, hq5, hb5⟩
   have HB5 := iH (HBy.o.trans (hb5.mono HBy.o.size))
   clear GA hb5
   cases q5
   · have HNO : Hd (¬ gBd n kid) := fun hh => by
      have h := hq5.2 (ubd_at (HNE.o k hlk) (hh k hlk).2).1
      cases h
     clear hq5
     go_wp2
     go_ret
     exact Tells.no HNO.o HB5.o
   have HA5 := iH (hq5.1 rfl)
   clear hq5
   have q6 := (HFK.o _ HB5.o).2
   have GB := (HIK.o).2 _ (HW0.o _ HB5.o)
   go_wp2_with fail
   refine GB.mono ?_
   rintro e w6 ⟨q6, rfl, hq6, hb6⟩
   have HB6 := iH (HB5.o.trans (hb6.mono HB5.o.size))
   clear GB hb6
   cases q6
   · have HNO : Hd (¬ gBd n kid) := fun hh => by
      have h := hq6.2 (ubd_at (HNE.o k hlk) (hh k hlk).2).2
      cases h
     clear hq6
     go_wp2
     go_ret
     exact Tells.no HNO.o HB6.o
   have HA6 := iH (ubd_mk (HNE.o k hlk) HA5.o (hq6.1 rfl))
   clear hq6
   go_wp2
   go_roundw
   case rel =>
    refine ⟨k + 1, by omega, by go_num, HB6, fun j hj => ?_⟩
    by_cases e : j = k
    · subst e
      exact ⟨HUB.o, HA6.o⟩
    exact HOK.o j (by omega)
   case measure => simp [intOf]; omega
 obtain rfl : k = n := by omega
 have hlkz : ¬ (k : Int) < (k : Int) := by omega
 go_wp2
 go_ret
 exact Tells.yes HOK.o HBr.o
theorem bound_any (e : UT) : ∀ (w0 : World), e.lies 0 w0 → e.caps → uc e ≤ 1000000 → GBd 64 w0 e := by
 induction e with
 | nil => exact fun _ h => False.elim h
 | mk d ka kb ia ib =>
  intro w0 hl hc hu
  obtain ⟨_, _, _, _, _, ⟨an, aR⟩, ⟨bn, bR⟩, hka, hkb⟩ := hl
  obtain ⟨⟨c1, c2⟩, ca, cb⟩ := hc
  have hu2 : 3 + esz d.e + 1 + (sumN d.an (fun i => uc (ka i)) + sumN d.bn (fun i => uc (kb i))) ≤ 1000000 := hu
  exact ⟨fun W hb => bound_of d.aa d.ac d.an ka w0 W an c1 aR hka hb (by omega) fun i hi => ia i w0 (hka i hi) (ca i hi) (by have h : uc (ka i) ≤ sumN d.an (fun i => uc (ka i)) := sumN_le (f := fun i => uc (ka i)) hi; omega), fun W hb => bound_of d.ba d.bc d.bn kb w0 W bn c2 bR hkb hb (by omega) fun i hi => ib i w0 (hkb i hi) (cb i hi) (by have h : uc (kb i) ≤ sumN d.bn (fun i => uc (kb i)) := sumN_le (f := fun i => uc (kb i)) hi; omega)⟩
theorem l4hasG (a : Option Addr) (cap : Nat) (L : List SL) (x : SL) (w0 w : World) (htx : ∀ y ∈ L, BsF 0 w0 y) (hf : L = [] ∨ ∃ g off, a = some ⟨g, off, none⟩ ∧ g < w.heap.size ∧ ∀ i x, L[i]? = some x → w.cell? ⟨g, off + i, none⟩ = some (.slice x.a x.len x.cap)) (hw : Bl w0 w) (hx : BsF 0 w0 x) (hn : L.length ≤ 1048576) :
 Calls Tryz.prog 84 #[.slice a L.length cap, .slice x.a x.len x.cap] w (Tells (InL x.b L) w) := by
 obtain ⟨n, hnn⟩ : ∃ n, n = L.length := ⟨_, rfl⟩
 have HN := iH hnn
 have HT := iH htx
 have HX := iH hx
 have HW := iH hw
 have HG := iH hf
 rw [← hnn] at hn ⊢
 clear htx hw hx hf hnn
 go_in
 go_wp2_with fail
 go_loopw [5] (fun i wr => ∃ k : Nat, k ≤ n ∧ i = .int .i64 k ∧ Hd (∀ j y, j < k → L[j]? = some y → y.b ≠ x.b) ∧ Hd (Bl w wr)) (fun i _ => n - (intOf i).toNat)
 case atStart => exact ⟨0, nZ, rfl, fun j y hj => absurd hj nN, Below.refl _ _⟩
 obtain ⟨k, hk, rfl, HNE, HB⟩ := hrel
 by_cases hlk : k < n
 · have hlkz : (k : Int) < (n : Int) := by omega
   obtain ⟨y, hy⟩ : ∃ y, L[k]? = some y := ⟨_, List.getElem?_eq_getElem (by rw [← HN.o]; exact hlk)⟩
   obtain ⟨g, off, ea, hg, hc⟩ := HG.o.resolve_left (fun e => by rw [e] at hy; cases hy)
   have hty := HT.o y (List.mem_of_getElem? hy)
   have HY := iH hy
   have HF : Hd (∀ w', Bl wr w' → w'.cell? ⟨g, off + k, none⟩ = some (.slice y.a y.len y.cap) ∧ (convert 42 9 (.slice y.a y.len y.cap)).run Tryz.prog w' = .ok (.string (strOfNums y.b)) w' ∧ (convert 42 9 (.slice x.a x.len x.cap)).run Tryz.prog w' = .ok (.string (strOfNums x.b)) w') := fun w' hb => ⟨((bl_trans HB.o hb).cell (p := ⟨g, off + k, none⟩) hg).trans (hc k y hy), (hty.1.below (bl_trans HW.o (bl_trans HB.o hb))).str, (HX.o.1.below (bl_trans HW.o (bl_trans HB.o hb))).str⟩
   subst ea
   clear hc hy
   by_cases hyx : y.b = x.b
   · have HIN : Hd (InL x.b L) := (show x.b ∈ L.map SL.b by rw [← hyx]; exact List.mem_map_of_mem (f := SL.b) (List.mem_of_getElem? HY.o))
     rw [hyx] at HF
     clear hyx hty
     go_wp2_with fail
     refine whd (fun w' => Bl wr w') ?_ fun hHeld => ?_
     · exact Below.drew brf
     refine tkB 0 12 ?_
     refine tkB 1 13 ?_
     refine tkB 2 14 ?_
     refine tkA 3 15 (v := ?v4) ?y4 ?_
     case y4 => (intro w' hSw; obtain ⟨q1, q2, q3⟩ := HF.o w' hSw; go_simp; (try with_reducible rfl))
     refine tkA 4 16 (v := ?v5) ?y5 ?_
     case y5 => (intro w' hSw; obtain ⟨q1, q2, q3⟩ := HF.o w' hSw; go_simp; (try with_reducible rfl))
     refine tkB 5 17 ?_
     refine tkA 6 18 (v := ?v7) ?y7 ?_
     case y7 => (intro w' hSw; obtain ⟨q1, q2, q3⟩ := HF.o w' hSw; go_simp; (try with_reducible rfl))
     refine tkB 7 19 ?_
     refine wpAnyH_done (by kernel_rfl) ?_ _
     have HBq := iH (Below.drew HB.o)
     clear hHeld HF
     go_wp2
     go_ret
     exact Tells.yes HIN.o HBq.o
   have hs := str_ne hty.1.byt HX.o.1.byt hyx
   have hs0 := str_ne2 hty.1.byt HX.o.1.byt hyx
   have hs1 := beq_false_of_ne hs0
   have hs2 := decide_eq_false hs
   have HYX := iH hyx
   clear hyx hty
   go_wp2_with fail
   refine whd (fun w' => Bl wr w') ?_ fun hHeld => ?_
   · exact Below.drew brf
   refine tkB 0 12 ?_
   refine tkB 1 13 ?_
   refine tkB 2 14 ?_
   refine tkA 3 15 (v := ?v104) ?y104 ?_
   case y104 => (intro w' hSw; obtain ⟨q1, q2, q3⟩ := HF.o w' hSw; go_simp; (try with_reducible rfl))
   refine tkA 4 16 (v := ?v105) ?y105 ?_
   case y105 => (intro w' hSw; obtain ⟨q1, q2, q3⟩ := HF.o w' hSw; go_simp; (try with_reducible rfl))
   refine tkB 5 17 ?_
   refine tkA 6 18 (v := ?v107) ?y107 ?_
   case y107 => (intro w' hSw; obtain ⟨q1, q2, q3⟩ := HF.o w' hSw; go_simp; (try with_reducible rfl))
   refine tkB 7 19 ?_
   refine wpAnyH_done (by kernel_rfl) ?_ _
   have HBq := iH (Below.drew HB.o)
   clear hHeld HF
   clear hs hs0 hs1 hs2
   generalize wr.drew = wq at *
   go_wp2
   go_roundw
   case rel =>
    refine ⟨k + 1, by omega, by go_num, fun j z hj hz => ?_, HBq⟩
    by_cases e : j = k
    · subst e
      rw [HY.o] at hz
      cases hz
      exact HYX.o
    exact HNE.o j z (by omega) hz
   case measure => simp [intOf]; omega
 obtain rfl : k = n := by omega
 have hlkz : ¬ (k : Int) < (k : Int) := by omega
 have HNI : Hd (¬ InL x.b L) := fun hm => by
  obtain ⟨y, hy, e⟩ := List.mem_map.1 hm
  obtain ⟨j, hj, rfl⟩ := List.mem_iff_getElem.1 hy
  exact HNE.o j _ (by rw [HN.o]; exact hj) (List.getElem?_eq_getElem hj) e
 go_wp2
 go_ret
 exact Tells.no HNI.o HB.o
theorem l4hasR {a : Option Addr} {cap n : Nat} {var : Nat → SL} {x : SL} {w : World} (hR : KRow 0 w 1 a n (fun i => (var i).cells)) (hl : ∀ i, i < n → (var i).lies 0 w) (hx : BsF 0 w x) (hn : n ≤ 1048576) {W : World} (hw : Bl w W) :
 Calls Tryz.prog 84 #[.slice a n cap, .slice x.a x.len x.cap] W (Tells (∃ j, j < n ∧ (var j).b = x.b) W) := by
 have h := l4hasG a cap ((List.range n).map var) x w W (fun y hy => by
  obtain ⟨i, hi, rfl⟩ := List.mem_map.1 hy
  exact hl i (List.mem_range.1 hi)) (by
  rcases hR with h0 | ⟨b, off, ha, _, hlt, hc⟩
  · left; rw [h0]; rfl
  refine .inr ⟨b, off, ha, Nat.lt_of_lt_of_le hlt hw.size, fun i y hy => ?_⟩
  obtain ⟨hi, e⟩ := List.getElem?_eq_some_iff.1 hy
  have hi2 : i < n := by simpa using hi
  have e2 : var i = y := by simpa using e
  have h2 := hc i hi2 0 _ rfl
  rw [Nat.mul_one, Nat.add_zero] at h2
  rw [← e2]
  exact (hw.cell (p := ⟨b, off + i, none⟩) hlt).trans h2) hw hx (by simpa using hn)
 have e : ((List.range n).map var).length = n := by simp
 rw [e] at h
 refine h.mono fun r w' hh => ?_
 obtain ⟨q, h1, h2, h3⟩ := hh
 refine ⟨q, h1, h2.trans ?_, h3⟩
 unfold InL
 simp only [List.mem_map, List.mem_range]
 exact ⟨fun ⟨y, ⟨i, hi, e1⟩, e2⟩ => ⟨i, hi, by rw [e1]; exact e2⟩, fun ⟨j, hj, e1⟩ => ⟨var j, ⟨j, hj, rfl⟩, e1⟩⟩
end Go.Proofs.YthljoojcpbignaaGreatDoor
