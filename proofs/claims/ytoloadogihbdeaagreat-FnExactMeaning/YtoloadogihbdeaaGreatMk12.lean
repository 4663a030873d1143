import Derived.Test.YtoloadogihbdeaaGreatMk05
namespace Go.Proofs.YtoloadogihbdeaaGreat
open Go.RowKit Go.Deep
set_option maxHeartbeats 40000000
set_option maxRecDepth 100000
structure Ctr (w : World) (g : Nat) (L : Int) : Prop where
 lt : g < w.heap.size
 cell : w.cell? ⟨g, 0, none⟩ = some (.int .i64 L)
 fr : w.frozen? ⟨g, 0, none⟩ = false
theorem Ctr.below {w w' : World} {g : Nat} {L : Int} (h : Ctr w g L) (hb : Bl w w') : Ctr w' g L := ⟨Nat.lt_of_lt_of_le h.lt hb.size, (hb.cell (p := ⟨g, 0, none⟩) h.lt).trans h.cell, (hb.frozen (p := ⟨g, 0, none⟩) h.lt).trans h.fr⟩
theorem Ctr.set {w : World} {g : Nat} {L : Int} (h : Ctr w g L) (L' : Int) : Ctr (w.setCell ⟨g, 0, none⟩ (.int .i64 L')) g L' := ⟨by simpa using h.lt, set_same h.cell, by rw [World.frozen?_setCell]; exact h.fr⟩
def CtrAns (P : Prop) (sz g : Nat) (L : Int) (w : World) (e : Ending) (w' : World) : Prop := ∃ (q : Bool) (L' : Int), e = .returned (.bool q) ∧ (q = true ↔ P ∧ (sz : Int) ≤ L) ∧ (q = true → L' = L - sz) ∧ Ctr w' g L' ∧ Past g w w'
theorem CtrAns.no {P : Prop} {sz g : Nat} {L L' : Int} {w w' : World} (h : ¬ (P ∧ (sz : Int) ≤ L)) (hc : Ctr w' g L') (hp : Past g w w') : CtrAns P sz g L w (.returned (.bool false)) w' := ⟨false, L', rfl, ⟨fun e => (by cases e), fun hh => absurd hh h⟩, fun e => (by cases e), hc, hp⟩
theorem CtrAns.yes {P : Prop} {sz g : Nat} {L L' : Int} {w w' : World} (h : P) (hs : (sz : Int) ≤ L) (hL : L' = L - sz) (hc : Ctr w' g L') (hp : Past g w w') : CtrAns P sz g L w (.returned (.bool true)) w' := ⟨true, L', rfl, ⟨fun _ => ⟨h, hs⟩, fun _ => rfl⟩, fun _ => hL, hc, hp⟩
theorem Box.past {g : Nat} {w w' : World} {b : Nat} {L : List Value} (h : Box w b L) (hp : Past g w w') (hne : b ≠ g) : Box w' b L := ⟨Nat.lt_of_lt_of_le h.1 hp.size, fun c u hc => (hp.cell (p := ⟨b, c, none⟩) h.1 hne).trans (h.2 c u hc)⟩
structure CS (w0 w W : World) (g : Nat) (L : Int) (cs : List Value) : Prop where
 bx : Box W w.heap.size cs
 ct : Ctr W g L
 pa : Past g w W
 bl : Bl w0 W
theorem CS.below {w0 w W W' : World} {g : Nat} {L : Int} {cs : List Value} (h : CS w0 w W g L cs) (hw : w0.heap.size ≤ W.heap.size) (hb : Bl W W') : CS w0 w W' g L cs := ⟨h.bx.below hb, h.ct.below hb, h.pa.trans (Past.of_below hb), h.bl.trans (hb.mono hw)⟩
theorem CS.past {w0 w W W' : World} {g : Nat} {L L' : Int} {cs : List Value} (h : CS w0 w W g L cs) (hg : w0.heap.size ≤ g) (hgw : g < w.heap.size) (hp : Past g W W') (hc : Ctr W' g L') : CS w0 w W' g L' cs := ⟨h.bx.past hp (by omega), hc, h.pa.trans hp, h.bl.trans (hp.below hg (by have := h.bl.size; omega))⟩
theorem CS.new {w0 w : World} {g : Nat} {L : Int} (hb : Bl w0 w) (hg : w0.heap.size ≤ g) (hc : Ctr w g L) (cs : Array Value) (t : TypeId) (L' : Int) : CS w0 w ((w.setCell ⟨g, 0, none⟩ (.int .i64 L')).alloc (.cells cs t)) g L' cs.toList := by
 have h1 : Past g w (w.setCell ⟨g, 0, none⟩ (.int .i64 L')) := (Past.refl g w).set 0 _
 have h2 : Past g w ((w.setCell ⟨g, 0, none⟩ (.int .i64 L')).alloc (.cells cs t)) := h1.trans (Past.of_below (bl_a _))
 have h3 := Box.new (w.setCell ⟨g, 0, none⟩ (.int .i64 L')) cs t (0, 0)
 have e : (w.setCell ⟨g, 0, none⟩ (.int .i64 L')).heap.size = w.heap.size := by simp
 rw [e] at h3
 exact ⟨h3, (hc.set L').below (bl_a _), h2, hb.trans (h2.below hg (by have := hb.size; omega))⟩
theorem eOk_no {lim deep : Int} {d : EN} {kid : Nat → ET} {L : Int} {s : Nat} (h : ¬ nodeOk d) : ¬ (eOk lim (.mk d kid) deep ∧ (s : Int) ≤ L) := fun hh => h hh.1.2.1
theorem l4expr_any (e : ET) : ∀ (deep L : Int) (g : Nat) (w0 w : World), e.lies 0 w0 → Bl w0 w → w0.heap.size ≤ g → Ctr w g L → 0 ≤ deep → deep ≤ 100000 → 0 ≤ L → L ≤ 100000 →
 Calls Tryz.prog 134 #[.agg e.d.ar, .int .i64 deep, .pointer (some ⟨g, 0, none⟩)] w (CtrAns (eOk 10 e deep) (esz e) g L w) := by
 try unfold EN.ar
 induction e with
 | nil => exact fun _ _ _ _ _ h => False.elim h
 | mk d kid ih =>
  intro deep L g w0 w hl hw hg hc hd0 hd1 hL0 hL1
  show Calls Tryz.prog 134 #[.agg d.ar, .int .i64 deep, .pointer (some ⟨g, 0, none⟩)] w (CtrAns (eOk 10 (.mk d kid) deep) (esz (.mk d kid)) g L w)
  obtain ⟨hv, ht, hf, hn, hR, hk⟩ := hl
  have hgw := hc.lt
  have hsz := hw.size
  have HLN := iH (nil_len hv.1.1)
  have HV := iH (fun W (hb : Below _ w0 W) => l4var_any d.v W (hv.upper (uB hb)))
  have HZT := iH (fun W (hb : Below _ w0 W) => l4zeroTerm_any d.t W (ht.upper (uB hb)))
  have HTO : Hd (∀ W, Bl w0 W → Cl 110 #[.agg #[.int .i64 d.t.t.k, .slice d.t.t.a d.t.t.len d.t.t.cap, .int .i64 d.t.t.n, .int .i64 d.t.t.s]] W (Tells (d.t.td.ok = true) W)) := fun W hb => (specTermOk_any d.t.t.k d.t.t.n d.t.t.s d.t.t.a d.t.t.len d.t.t.cap d.t.b W (ht.upper (uB hb)).1 hf.1 hf.2.1).mono fun e w' ⟨h1, o, h2⟩ => by
   subst h1 h2
   exact Tells.of Iff.rfl (bl_a _)
  have HIH := iH (fun i (hi : i < d.n) (L' : Int) (W : World) (hb : Below _ w0 W) (hc' : Ctr W g L') (h0 : 0 ≤ L') (h1 : L' ≤ 100000) (h10 : deep ≤ 10) => ih i (deep + 1) L' g w0 W (hk i hi) hb hg hc' (by omega) (by omega) h0 h1)
  have HKR := iH hR
  have HCS := iH (CS.new hw hg hc d.ar 42 (L - 1))
  have c0 := fun o => ((bl_a (w := w) o).cell (p := ⟨g, 0, none⟩) hgw).trans hc.cell
  have f0 := fun o => ((bl_a (w := w) o).frozen (p := ⟨g, 0, none⟩) hgw).trans hc.fr
  have hwr : IntKind.i64.wrap (L - 1) = L - 1 := by rw [IntKind.wrap_i64]; omega
  clear hv ht hf hR hk ih hw hc
  go_in
  go_upto_region 2 with fail
  generalize ((w.setCell ⟨g, 0, none⟩ (.int .i64 (L - 1))).alloc (.cells d.ar 42)) = W1 at *
  clear c0 f0 hwr
  have HF : Hd (∀ w', Bl W1 w' → w'.cell? ⟨g, 0, none⟩ = some (.int .i64 (L - 1)) ∧ w'.cell? ⟨w.heap.size, 7, none⟩ = some (.slice d.ka d.n d.kc)) := fun w' hb => ⟨(hb.cell (p := ⟨g, 0, none⟩) HCS.o.ct.lt).trans HCS.o.ct.cell, (HCS.o.bx.below hb).2 7 _ rfl⟩
  have HR : Hd (∀ w', Bl W1 w' → w'.rangeAt w.heap.size 0 d.cl) := fun w' hb => (HCS.o.bx.below hb).range 0 _ rfl
  have hW1 := HCS.o.bl.size
  by_cases hLz : L - 1 < 0
  · have HNO : Hd (¬ (eOk 10 (.mk d kid) deep ∧ ((esz (.mk d kid) : Nat) : Int) ≤ L)) := fun hh => by
     have h := hh.2
     have : esz (.mk d kid) = 1 + sumN d.n (fun i => esz (kid i)) := rfl
     omega
    refine whd (fun w' => Bl W1 w') ?_ fun hHeld => ?_
    · exact Below.drew brf
    refine tkB 0 15 ?_
    refine tkB 1 16 ?_
    refine tkA 2 17 (v := ?v3) ?y3 ?_
    case y3 => (intro w' hSw; obtain ⟨f0, f7⟩ := HF.o w' hSw; go_simp; (try with_reducible rfl))
    refine tkB 3 18 ?_
    refine tkB 4 19 ?_
    refine tkU 5 20 ?_
    refine tkU 6 21 ?_
    refine tkB 7 22 ?_
    refine tkB 8 23 ?_
    refine tkU 9 24 ?_
    refine tkU 10 25 ?_
    refine tkU 11 26 ?_
    refine tkU 12 27 ?_
    refine tkU 13 28 ?_
    refine tkU 14 29 ?_
    refine tkB 15 30 ?_
    refine wpAnyH_done (by kernel_rfl) ?_ _
    have HCd := iH (HCS.o.below hW1 bdr)
    clear hHeld HF HR HCS
    go_wp2
    go_ret
    exact CtrAns.no HNO.o HCd.o.ct HCd.o.pa
  by_cases hdz : deep > 10
  · have HNO : Hd (¬ (eOk 10 (.mk d kid) deep ∧ ((esz (.mk d kid) : Nat) : Int) ≤ L)) := fun hh => by
     have h := hh.1.1
     omega
    refine whd (fun w' => Bl W1 w') ?_ fun hHeld => ?_
    · exact Below.drew brf
    refine tkB 0 15 ?_
    refine tkB 1 16 ?_
    refine tkA 2 17 (v := ?v11) ?y11 ?_
    case y11 => (intro w' hSw; obtain ⟨f0, f7⟩ := HF.o w' hSw; go_simp; (try with_reducible rfl))
    refine tkB 3 18 ?_
    refine tkB 4 19 ?_
    refine tkB 5 20 ?_
    refine tkB 6 21 ?_
    refine tkB 7 22 ?_
    refine tkB 8 23 ?_
    refine tkU 9 24 ?_
    refine tkU 10 25 ?_
    refine tkU 11 26 ?_
    refine tkU 12 27 ?_
    refine tkU 13 28 ?_
    refine tkU 14 29 ?_
    refine tkB 15 30 ?_
    refine wpAnyH_done (by kernel_rfl) ?_ _
    have HCd := iH (HCS.o.below hW1 bdr)
    clear hHeld HF HR HCS
    go_wp2
    go_ret
    exact CtrAns.no HNO.o HCd.o.ct HCd.o.pa
  have hd10 : deep ≤ 10 := by omega
  have KD : Calls Tryz.prog 132 #[.agg d.ar] W1.drew fun e w' => e = .returned (.int .i64 (kidsN d.k d.n)) ∧ Below W1.drew.heap.size W1.drew w' := (l4kids_any d _).mono fun e w' ⟨h1, o, h2⟩ => ⟨h1, by rw [h2]; exact bl_a _⟩
  obtain ⟨kn, hkn⟩ : ∃ kn, kn = kidsN d.k d.n := ⟨_, rfl⟩
  have HKN := iH (show (kn = d.n ↔ kOk d.k d.n) by rw [hkn]; exact kidsN_ok d.k d.n)
  rw [← hkn] at KD
  clear hkn
  by_cases hkk : kn = d.n
  rotate_left
  · have hkb : (kn != (d.n : Int)) = true := by simp [hkk]
    have hkc : (kn == (d.n : Int)) = false := by simp [hkk]
    have HNO : Hd (¬ (eOk 10 (.mk d kid) deep ∧ ((esz (.mk d kid) : Nat) : Int) ≤ L)) := eOk_no fun hh => hkk (HKN.o.2 hh.1)
    refine whd (fun w' => Bl W1 w') ?_ fun hHeld => ?_
    · exact Below.drew brf
    refine tkB 0 15 ?_
    refine tkB 1 16 ?_
    refine tkA 2 17 (v := ?v21) ?y21 ?_
    case y21 => (intro w' hSw; obtain ⟨f0, f7⟩ := HF.o w' hSw; go_simp; (try with_reducible rfl))
    refine tkB 3 18 ?_
    refine tkB 4 19 ?_
    refine tkB 5 20 ?_
    refine tkB 6 21 ?_
    refine tkB 7 22 ?_
    refine tkB 8 23 ?_
    refine takeq (i := 9) 24 (v := .agg _) rfl rfl (by kernel_rfl) (by kernel_rfl) (by kernel_rfl) (fun _ _ _ h => h) (yieldsIf_load_mid (by rfl) 42 _ rfl _ 0 rfl _ _ HR.o Tryz.underlying42 rfl (by kernel_rfl)) hHeld ?_
    refine tkB 11 26 ?_
    refine tkA 12 27 (v := ?v29) ?y29 ?_
    case y29 => (intro w' hSw; obtain ⟨f0, f7⟩ := HF.o w' hSw; go_simp; (try with_reducible rfl))
    refine tkB 13 28 ?_
    refine rdA 10 fun K hK => ?_
    go_simp
    refine KD.mono ?_
    rintro e w2 ⟨rfl, hb2⟩
    have HB2 : Hd (Bl W1 w2) := bdr.trans hb2
    clear hb2
    go_wp2_with fail
    refine hK.out _ _ ?_ fun hHeld => ?_
    · exact HB2.o
    clear hK K
    refine tkB 14 29 ?_
    refine tkB 15 30 ?_
    refine wpAnyH_done (by kernel_rfl) ?_ _
    have HCd := iH (HCS.o.below hW1 HB2.o)
    clear hHeld HF HR HCS
    go_wp2
    go_ret
    exact CtrAns.no HNO.o HCd.o.ct HCd.o.pa
  have hkb : (kn != (d.n : Int)) = false := by simp [hkk]
  have hkc : (kn == (d.n : Int)) = true := by simp [hkk]
  have HKO := iH (HKN.o.1 hkk)
  clear hkk HKN
  refine whd (fun w' => Bl W1 w') ?_ fun hHeld => ?_
  · exact Below.drew brf
  refine tkB 0 15 ?_
  refine tkB 1 16 ?_
  refine tkA 2 17 (v := ?v35) ?y35 ?_
  case y35 => (intro w' hSw; obtain ⟨f0, f7⟩ := HF.o w' hSw; go_simp; (try with_reducible rfl))
  refine tkB 3 18 ?_
  refine tkB 4 19 ?_
  refine tkB 5 20 ?_
  refine tkB 6 21 ?_
  refine tkB 7 22 ?_
  refine tkB 8 23 ?_
  refine takeq (i := 9) 24 (v := .agg _) rfl rfl (by kernel_rfl) (by kernel_rfl) (by kernel_rfl) (fun _ _ _ h => h) (yieldsIf_load_mid (by rfl) 42 _ rfl _ 0 rfl _ _ HR.o Tryz.underlying42 rfl (by kernel_rfl)) hHeld ?_
  refine tkB 11 26 ?_
  refine tkA 12 27 (v := ?v43) ?y43 ?_
  case y43 => (intro w' hSw; obtain ⟨f0, f7⟩ := HF.o w' hSw; go_simp; (try with_reducible rfl))
  refine tkB 13 28 ?_
  refine rdA 10 fun K hK => ?_
  go_simp
  refine KD.mono ?_
  rintro e w2 ⟨rfl, hb2⟩
  have HB2 : Hd (Bl W1 w2) := bdr.trans hb2
  clear hb2
  go_wp2_with fail
  refine hK.out _ _ ?_ fun hHeld => ?_
  · exact HB2.o
  clear hK K
  refine tkB 14 29 ?_
  refine tkB 15 30 ?_
  refine wpAnyH_done (by kernel_rfl) ?_ _
  have HC2 := iH (HCS.o.below hW1 HB2.o)
  clear HB2
  obtain ⟨W2, hW2e⟩ : ∃ W2, W2 = w2 := ⟨_, rfl⟩
  rw [← hW2e] at HC2 ⊢
  clear hW2e
  clear hHeld HF HR HCS KD hkb hkc hW1
  obtain ⟨x0, x1, x2, y3, y4, y5, y6, x7⟩ := bxA HC2.o.bx
  by_cases hkv : d.k = 0
  · have HKV := iH hkv
    have HN0 := iH (show d.n = 0 by have h := HKO.o; unfold kOk at h; omega)
    have e0 : (d.k == 0) = true := by simp [hkv]
    have n0 : (d.k != 0) = false := by simp [hkv]
    have e4 : (d.k == 4) = false := by simp [hkv]
    have n4 : (d.k != 4) = true := by simp [hkv]
    have e1 : (d.k == 1) = false := by simp [hkv]
    have n1 : (d.k != 1) = true := by simp [hkv]
    have e2 : (d.k == 2) = false := by simp [hkv]
    have n2 : (d.k != 2) = true := by simp [hkv]
    clear hkv
    by_cases hvl : d.v.len = 0
    · have HNO : Hd (¬ nodeOk d) := fun hh => by
       have h := hh.2.1 (by rw [HKV.o]; simp)
       exact name_pos h (HLN.o.2 hvl)
      have hvz : ¬ (0 : Int) < (d.v.len : Int) := by omega
      clear hvl
      go_wp2
      go_ret
      exact CtrAns.no (eOk_no HNO.o) HC2.o.ct HC2.o.pa
    have hvz : (0 : Int) < (d.v.len : Int) := by omega
    clear hvl
    have V := HV.o W2 HC2.o.bl
    go_wp2_with fail
    refine V.mono ?_
    rintro e w3 ⟨q3, rfl, hq3, hb3⟩
    have hW2 := HC2.o.bl.size
    have HC3 := iH (HC2.o.below hW2 hb3)
    clear V hb3 HC2 x0 x1 x2 x7 y3 y4 y5 y6
    cases q3
    · have HNO : Hd (¬ nodeOk d) := fun hh => by
       have h := hq3.2 (hh.2.1 (by rw [HKV.o]; simp))
       cases h
      clear hq3
      go_wp2
      go_ret
      exact CtrAns.no (eOk_no HNO.o) HC3.o.ct HC3.o.pa
    have HNM := iH (hq3.1 rfl)
    clear hq3
    obtain ⟨x0, x1, x2, y3, y4, y5, y6, x7⟩ := bxA HC3.o.bx
    have ZT := HZT.o w3 HC3.o.bl
    go_wp2_with fail
    refine ZT.mono ?_
    rintro e w4 ⟨q4, rfl, hq4, hb4⟩
    have hW3 := HC3.o.bl.size
    have HC3 := iH (HC3.o.below hW3 hb4)
    clear ZT hb4 x0 x1 x2 x7 y3 y4 y5 y6
    cases q4
    · have HNO : Hd (¬ nodeOk d) := fun hh => by
       have h := hq4.2 (hh.2.2.2.2.1 (by rw [HKV.o]; decide))
       cases h
      clear hq4
      go_wp2
      go_ret
      exact CtrAns.no (eOk_no HNO.o) HC3.o.ct HC3.o.pa
    have HZ4 := iH (hq4.1 rfl)
    clear hq4
    have HND : Hd (∀ _ : d.k ≠ 2 → d.op = 0, 0 ≤ d.op ∧ d.op ≤ 7 → nodeOk d) := fun h1 h2 => ⟨HKO.o, fun _ => HNM.o, fun h => absurd (by rw [HKV.o]; simp) h, fun h => absurd h (by rw [HKV.o]; decide), fun _ => HZ4.o, h2, h1⟩
    obtain ⟨x0, x1, x2, y3, y4, y5, y6, x7⟩ := bxA HC3.o.bx
    by_cases ho1 : d.op < 0
    · have HNO : Hd (¬ nodeOk d) := fun hh => by have h := hh.2.2.2.2.2.1; omega
      go_wp2
      go_ret
      exact CtrAns.no (eOk_no HNO.o) HC3.o.ct HC3.o.pa
    by_cases ho2 : d.op > 7
    · have HNO : Hd (¬ nodeOk d) := fun hh => by have h := hh.2.2.2.2.2.1; omega
      go_wp2
      go_ret
      exact CtrAns.no (eOk_no HNO.o) HC3.o.ct HC3.o.pa
    by_cases ho3 : d.op = 0
    rotate_left
    · have HNO : Hd (¬ nodeOk d) := fun hh => ho3 (hh.2.2.2.2.2.2 (by rw [HKV.o]; decide))
      have ho4 : (d.op == 0) = false := by simp [ho3]
      have ho5 : (d.op != 0) = true := by simp [ho3]
      clear ho3
      go_wp2
      go_ret
      exact CtrAns.no (eOk_no HNO.o) HC3.o.ct HC3.o.pa
    have HO := iH (fun (_ : d.k ≠ 2) => ho3)
    have ho4 : (d.op == 0) = true := by simp [ho3]
    have ho5 : (d.op != 0) = false := by simp [ho3]
    clear ho3
    have hn0 := HN0.o
    have hnz : ¬ (0 : Int) < (d.n : Int) := by omega
    clear hn0
    go_wp2_with fail
    refine wp_loop_rounds 1 ?_
    rw [rounds_succ]
    go_wp2
    go_ret
    refine CtrAns.yes ⟨hd10, HND.o HO.o ⟨by omega, by omega⟩, fun i hi => absurd hi (by rw [HN0.o]; exact nN)⟩ ?_ ?_ HC3.o.ct HC3.o.pa
    · have h : esz (.mk d kid) = 1 + sumN d.n (fun i => esz (kid i)) := rfl
      rw [HN0.o] at h
      have h2 : sumN 0 (fun i => esz (kid i)) = 0 := rfl
      omega
    have h : esz (.mk d kid) = 1 + sumN d.n (fun i => esz (kid i)) := rfl
    rw [HN0.o] at h
    have h2 : sumN 0 (fun i => esz (kid i)) = 0 := rfl
    omega
  have hk0 := hkv
  clear hkv
  by_cases hkv : d.k = 4
  · clear hk0
    have HKV := iH hkv
    have HN0 := iH (show d.n = 0 by have h := HKO.o; unfold kOk at h; omega)
    have e0 : (d.k == 0) = false := by simp [hkv]
    have n0 : (d.k != 0) = true := by simp [hkv]
    have e4 : (d.k == 4) = true := by simp [hkv]
    have n4 : (d.k != 4) = false := by simp [hkv]
    have e1 : (d.k == 1) = false := by simp [hkv]
    have n1 : (d.k != 1) = true := by simp [hkv]
    have e2 : (d.k == 2) = false := by simp [hkv]
    have n2 : (d.k != 2) = true := by simp [hkv]
    clear hkv
    by_cases hvl : d.v.len = 0
    · have HNO : Hd (¬ nodeOk d) := fun hh => by
       have h := hh.2.1 (by rw [HKV.o]; simp)
       exact name_pos h (HLN.o.2 hvl)
      have hvz : ¬ (0 : Int) < (d.v.len : Int) := by omega
      clear hvl
      go_wp2
      go_ret
      exact CtrAns.no (eOk_no HNO.o) HC2.o.ct HC2.o.pa
    have hvz : (0 : Int) < (d.v.len : Int) := by omega
    clear hvl
    have V := HV.o W2 HC2.o.bl
    go_wp2_with fail
    refine V.mono ?_
    rintro e w3 ⟨q3, rfl, hq3, hb3⟩
    have hW2 := HC2.o.bl.size
    have HC3 := iH (HC2.o.below hW2 hb3)
    clear V hb3 HC2 x0 x1 x2 x7 y3 y4 y5 y6
    cases q3
    · have HNO : Hd (¬ nodeOk d) := fun hh => by
       have h := hq3.2 (hh.2.1 (by rw [HKV.o]; simp))
       cases h
      clear hq3
      go_wp2
      go_ret
      exact CtrAns.no (eOk_no HNO.o) HC3.o.ct HC3.o.pa
    have HNM := iH (hq3.1 rfl)
    clear hq3
    obtain ⟨x0, x1, x2, y3, y4, y5, y6, x7⟩ := bxA HC3.o.bx
    have ZT := HZT.o w3 HC3.o.bl
    go_wp2_with fail
    refine ZT.mono ?_
    rintro e w4 ⟨q4, rfl, hq4, hb4⟩
    have hW3 := HC3.o.bl.size
    have HC3 := iH (HC3.o.below hW3 hb4)
    clear ZT hb4 x0 x1 x2 x7 y3 y4 y5 y6
    cases q4
    · have HNO : Hd (¬ nodeOk d) := fun hh => by
       have h := hq4.2 (hh.2.2.2.2.1 (by rw [HKV.o]; decide))
       cases h
      clear hq4
      go_wp2
      go_ret
      exact CtrAns.no (eOk_no HNO.o) HC3.o.ct HC3.o.pa
    have HZ4 := iH (hq4.1 rfl)
    clear hq4
    have HND : Hd (∀ _ : d.k ≠ 2 → d.op = 0, 0 ≤ d.op ∧ d.op ≤ 7 → nodeOk d) := fun h1 h2 => ⟨HKO.o, fun _ => HNM.o, fun h => absurd (by rw [HKV.o]; simp) h, fun h => absurd h (by rw [HKV.o]; decide), fun _ => HZ4.o, h2, h1⟩
    obtain ⟨x0, x1, x2, y3, y4, y5, y6, x7⟩ := bxA HC3.o.bx
    by_cases ho1 : d.op < 0
    · have HNO : Hd (¬ nodeOk d) := fun hh => by have h := hh.2.2.2.2.2.1; omega
      go_wp2
      go_ret
      exact CtrAns.no (eOk_no HNO.o) HC3.o.ct HC3.o.pa
    by_cases ho2 : d.op > 7
    · have HNO : Hd (¬ nodeOk d) := fun hh => by have h := hh.2.2.2.2.2.1; omega
      go_wp2
      go_ret
      exact CtrAns.no (eOk_no HNO.o) HC3.o.ct HC3.o.pa
    by_cases ho3 : d.op = 0
    rotate_left
    · have HNO : Hd (¬ nodeOk d) := fun hh => ho3 (hh.2.2.2.2.2.2 (by rw [HKV.o]; decide))
      have ho4 : (d.op == 0) = false := by simp [ho3]
      have ho5 : (d.op != 0) = true := by simp [ho3]
      clear ho3
      go_wp2
      go_ret
      exact CtrAns.no (eOk_no HNO.o) HC3.o.ct HC3.o.pa
    have HO := iH (fun (_ : d.k ≠ 2) => ho3)
    have ho4 : (d.op == 0) = true := by simp [ho3]
    have ho5 : (d.op != 0) = false := by simp [ho3]
    clear ho3
    have hn0 := HN0.o
    have hnz : ¬ (0 : Int) < (d.n : Int) := by omega
    clear hn0
    go_wp2_with fail
    refine wp_loop_rounds 1 ?_
    rw [rounds_succ]
    go_wp2
    go_ret
    refine CtrAns.yes ⟨hd10, HND.o HO.o ⟨by omega, by omega⟩, fun i hi => absurd hi (by rw [HN0.o]; exact nN)⟩ ?_ ?_ HC3.o.ct HC3.o.pa
    · have h : esz (.mk d kid) = 1 + sumN d.n (fun i => esz (kid i)) := rfl
      rw [HN0.o] at h
      have h2 : sumN 0 (fun i => esz (kid i)) = 0 := rfl
      omega
    have h : esz (.mk d kid) = 1 + sumN d.n (fun i => esz (kid i)) := rfl
    rw [HN0.o] at h
    have h2 : sumN 0 (fun i => esz (kid i)) = 0 := rfl
    omega
  have hk4 := hkv
  clear hkv
  by_cases hkv : d.k = 1
  · clear hk0 hk4
    have HKV := iH hkv
    have HN0 := iH (show d.n = 0 by have h := HKO.o; unfold kOk at h; omega)
    have e0 : (d.k == 0) = false := by simp [hkv]
    have n0 : (d.k != 0) = true := by simp [hkv]
    have e4 : (d.k == 4) = false := by simp [hkv]
    have n4 : (d.k != 4) = true := by simp [hkv]
    have e1 : (d.k == 1) = true := by simp [hkv]
    have n1 : (d.k != 1) = false := by simp [hkv]
    have e2 : (d.k == 2) = false := by simp [hkv]
    have n2 : (d.k != 2) = true := by simp [hkv]
    clear hkv
    by_cases hvl : d.v.len = 0
    rotate_left
    · have HNO : Hd (¬ nodeOk d) := fun hh => hvl (HLN.o.1 (hh.2.2.1 (by rw [HKV.o]; decide)))
      have hvz : (0 : Int) < (d.v.len : Int) := by omega
      clear hvl
      go_wp2
      go_ret
      exact CtrAns.no (eOk_no HNO.o) HC2.o.ct HC2.o.pa
    have HVN := iH (HLN.o.2 hvl)
    have hvz : ¬ (0 : Int) < (d.v.len : Int) := by omega
    clear hvl
    have T := HTO.o W2 HC2.o.bl
    go_wp2_with fail
    refine T.mono ?_
    rintro e w3 ⟨q3, rfl, hq3, hb3⟩
    have hW2 := HC2.o.bl.size
    have HC3 := iH (HC2.o.below hW2 hb3)
    clear T hb3 HC2 x0 x1 x2 x7 y3 y4 y5 y6
    cases q3
    · have HNO : Hd (¬ nodeOk d) := fun hh => by
       have h := hq3.2 (hh.2.2.2.1 HKV.o)
       cases h
      clear hq3
      obtain ⟨x0, x1, x2, y3, y4, y5, y6, x7⟩ := bxA HC3.o.bx
      go_wp2
      go_ret
      exact CtrAns.no (eOk_no HNO.o) HC3.o.ct HC3.o.pa
    have HTM := iH (hq3.1 rfl)
    clear hq3
    have HND : Hd (∀ _ : d.k ≠ 2 → d.op = 0, 0 ≤ d.op ∧ d.op ≤ 7 → nodeOk d) := fun h1 h2 => ⟨HKO.o, fun h => absurd h (by rw [HKV.o]; decide), fun _ => HVN.o, fun _ => HTM.o, fun h => absurd HKV.o h, h2, h1⟩
    obtain ⟨x0, x1, x2, y3, y4, y5, y6, x7⟩ := bxA HC3.o.bx
    by_cases ho1 : d.op < 0
    · have HNO : Hd (¬ nodeOk d) := fun hh => by have h := hh.2.2.2.2.2.1; omega
      go_wp2
      go_ret
      exact CtrAns.no (eOk_no HNO.o) HC3.o.ct HC3.o.pa
    by_cases ho2 : d.op > 7
    · have HNO : Hd (¬ nodeOk d) := fun hh => by have h := hh.2.2.2.2.2.1; omega
      go_wp2
      go_ret
      exact CtrAns.no (eOk_no HNO.o) HC3.o.ct HC3.o.pa
    by_cases ho3 : d.op = 0
    rotate_left
    · have HNO : Hd (¬ nodeOk d) := fun hh => ho3 (hh.2.2.2.2.2.2 (by rw [HKV.o]; decide))
      have ho4 : (d.op == 0) = false := by simp [ho3]
      have ho5 : (d.op != 0) = true := by simp [ho3]
      clear ho3
      go_wp2
      go_ret
      exact CtrAns.no (eOk_no HNO.o) HC3.o.ct HC3.o.pa
    have HO := iH (fun (_ : d.k ≠ 2) => ho3)
    have ho4 : (d.op == 0) = true := by simp [ho3]
    have ho5 : (d.op != 0) = false := by simp [ho3]
    clear ho3
    have hn0 := HN0.o
    have hnz : ¬ (0 : Int) < (d.n : Int) := by omega
    clear hn0
    go_wp2_with fail
    refine wp_loop_rounds 1 ?_
    rw [rounds_succ]
    go_wp2
    go_ret
    refine CtrAns.yes ⟨hd10, HND.o HO.o ⟨by omega, by omega⟩, fun i hi => absurd hi (by rw [HN0.o]; exact nN)⟩ ?_ ?_ HC3.o.ct HC3.o.pa
    · have h : esz (.mk d kid) = 1 + sumN d.n (fun i => esz (kid i)) := rfl
      rw [HN0.o] at h
      have h2 : sumN 0 (fun i => esz (kid i)) = 0 := rfl
      omega
    have h : esz (.mk d kid) = 1 + sumN d.n (fun i => esz (kid i)) := rfl
    rw [HN0.o] at h
    have h2 : sumN 0 (fun i => esz (kid i)) = 0 := rfl
    omega
  have hk1 := hkv
  clear hkv
  have HK0 : Hd (¬ d.k = 0 ∧ ¬ d.k = 4 ∧ ¬ d.k = 1) := ⟨hk0, hk4, hk1⟩
  have e0 : (d.k == 0) = false := by simp [hk0]
  have n0 : (d.k != 0) = true := by simp [hk0]
  have e4 : (d.k == 4) = false := by simp [hk4]
  have n4 : (d.k != 4) = true := by simp [hk4]
  have e1 : (d.k == 1) = false := by simp [hk1]
  have n1 : (d.k != 1) = true := by simp [hk1]
  clear hk0 hk4 hk1
  by_cases hvl : d.v.len = 0
  rotate_left
  · have HNO : Hd (¬ nodeOk d) := fun hh => hvl (HLN.o.1 (hh.2.2.1 (fun h => by rcases h with h | h; exact HK0.o.1 h; exact HK0.o.2.1 h)))
    have hvz : (0 : Int) < (d.v.len : Int) := by omega
    clear hvl
    go_wp2
    go_ret
    exact CtrAns.no (eOk_no HNO.o) HC2.o.ct HC2.o.pa
  have HVN := iH (HLN.o.2 hvl)
  have hvz : ¬ (0 : Int) < (d.v.len : Int) := by omega
  clear hvl
  have T := HZT.o W2 HC2.o.bl
  go_wp2_with fail
  refine T.mono ?_
  rintro e w3 ⟨q3, rfl, hq3, hb3⟩
  have hW2 := HC2.o.bl.size
  have HC3 := iH (HC2.o.below hW2 hb3)
  clear T hb3 HC2 x0 x1 x2 x7 y3 y4 y5 y6
  cases q3
  · have HNO : Hd (¬ nodeOk d) := fun hh => by
     have h := hq3.2 (hh.2.2.2.2.1 HK0.o.2.2)
     cases h
    clear hq3
    obtain ⟨x0, x1, x2, y3, y4, y5, y6, x7⟩ := bxA HC3.o.bx
    go_wp2
    go_ret
    exact CtrAns.no (eOk_no HNO.o) HC3.o.ct HC3.o.pa
  have HTZ := iH (hq3.1 rfl)
  clear hq3
  have HND : Hd (∀ _ : d.k ≠ 2 → d.op = 0, 0 ≤ d.op ∧ d.op ≤ 7 → nodeOk d) := fun h1 h2 => ⟨HKO.o, fun h => absurd h (fun h => by rcases h with h | h; exact HK0.o.1 h; exact HK0.o.2.1 h), fun _ => HVN.o, fun h => absurd h HK0.o.2.2, fun _ => HTZ.o, h2, h1⟩
  obtain ⟨x0, x1, x2, y3, y4, y5, y6, x7⟩ := bxA HC3.o.bx
  by_cases ho1 : d.op < 0
  · have HNO : Hd (¬ nodeOk d) := fun hh => by have h := hh.2.2.2.2.2.1; omega
    go_wp2
    go_ret
    exact CtrAns.no (eOk_no HNO.o) HC3.o.ct HC3.o.pa
  by_cases ho2 : d.op > 7
  · have HNO : Hd (¬ nodeOk d) := fun hh => by have h := hh.2.2.2.2.2.1; omega
    go_wp2
    go_ret
    exact CtrAns.no (eOk_no HNO.o) HC3.o.ct HC3.o.pa
  by_cases hk2 : d.k = 2
  · have e2 : (d.k == 2) = true := by simp [hk2]
    have n2 : (d.k != 2) = false := by simp [hk2]
    have HO : Hd (d.k ≠ 2 → d.op = 0) := fun h => absurd hk2 h
    clear hk2
    have HNODE := iH (HND.o HO.o ⟨by omega, by omega⟩)
    clear HND HO
    obtain ⟨n, hnn⟩ : ∃ n, n = d.n := ⟨_, rfl⟩
    have HNN := iH hnn
    have hn20 := show n ≤ 4 by have h := HKO.o; unfold kOk at h; omega
    have hn1 := show 1 ≤ n by have h := HKO.o; have h2 := HK0.o; unfold kOk at h; omega
    obtain ⟨b, off, eK, _, hbk, hck⟩ := HKR.o.resolve_left (by omega)
    have HEK := iH eK
    have HCK := iH hck
    have hbk' : b < w0.heap.size := hbk
    clear eK hck hnn hbk
    go_wp2_with fail
    clear x0 x1 x2 x7 y3 y4 y5 y6
    go_loopw [8] (fun i wr => ∃ (k : Nat) (Lr : Int), k ≤ n ∧ i = .int .i64 k ∧ 0 ≤ Lr ∧ Lr ≤ 100000 ∧ Hd (Lr = L - 1 - (sumN k (fun i => esz (kid i)) : Nat)) ∧ Hd (∀ j, j < k → eOk 10 (kid j) (deep + 1)) ∧ Hd (CS w0 w wr g Lr [.int .i64 d.k, .int .i64 d.op, .slice d.v.a d.v.len d.v.cap, .int .i64 d.t.t.k, .slice d.t.t.a d.t.t.len d.t.t.cap, .int .i64 d.t.t.n, .int .i64 d.t.t.s, .slice d.ka d.n d.kc])) (fun i _ => n - (intOf i).toNat)
    case atStart => exact ⟨0, L - 1, nZ, rfl, by omega, by omega, (show L - 1 = L - 1 - ((0 : Nat) : Int) by omega), fun j hj => absurd hj nN, HC3⟩
    clear HC3
    obtain ⟨k, Lr, hk, rfl, hLr0, hLr1, HLR, HOKS, HCr⟩ := hrel
    have x7 := HCr.o.bx.2 7 _ rfl
    rw [← HNN.o] at x7
    by_cases hlk : k < n
    · have hlkz : (k : Int) < (n : Int) := by omega
      rw [HEK.o] at x7
      have hcx : wr.rangeAt b (off + k * 8) (kid k).d.cl := fun c u hu => (HCr.o.bl.cell (p := ⟨b, off + k * 8 + c, none⟩) hbk').trans (HCK.o k (by rw [← HNN.o]; exact hlk) c u hu)
      have Z := HIH.o k (by rw [← HNN.o]; exact hlk) Lr wr HCr.o.bl HCr.o.ct hLr0 hLr1 hd10
      have hdw : IntKind.i64.wrap (deep + 1) = deep + 1 := by rw [IntKind.wrap_i64]; omega
      go_wp2_with (refine wpList_load_mid rfl 42 _ rfl b (off + k * 8) rfl (kid k).d.cl _ hcx Tryz.underlying42 rfl (by kernel_rfl) ?_; try simp only [Act.put, sA, zA, cA])
      refine Z.mono ?_
      rintro e w5 ⟨q5, L5, rfl, hq5, hL5, hc5, hp5⟩
      have HC5 := iH (HCr.o.past hg hgw hp5 hc5)
      clear Z hcx hc5 hp5 x7 HCr hdw
      have HS : Hd (sumN (k + 1) (fun i => esz (kid i)) = sumN k (fun i => esz (kid i)) + esz (kid k)) := rfl
      cases q5
      · have HNO : Hd (¬ (eOk 10 (.mk d kid) deep ∧ ((esz (.mk d kid) : Nat) : Int) ≤ L)) := fun hh => by
         have h1 := hh.1.2.2 k (by rw [← HNN.o]; exact hlk)
         have h2 : esz (.mk d kid) = 1 + sumN d.n (fun i => esz (kid i)) := rfl
         have h3 := sumN_mono (f := fun i => esz (kid i)) (show k + 1 ≤ d.n by rw [← HNN.o]; omega)
         have h4 := HLR.o
         have h5 := HS.o
         have h6 := hh.2
         have h7 := hq5.2 ⟨h1, by omega⟩
         cases h7
        clear hq5 hL5
        go_wp2
        go_ret
        exact CtrAns.no HNO.o HC5.o.ct HC5.o.pa
      obtain ⟨h51, h52⟩ := hq5.1 rfl
      have h53 := hL5 rfl
      have HN5 := iH h51
      have HL5 : Hd (L5 = L - 1 - (sumN (k + 1) (fun i => esz (kid i)) : Nat)) := (show L5 = _ by have h1 := HS.o; have h2 := HLR.o; omega)
      have hL50 : 0 ≤ L5 := by omega
      have hL51 : L5 ≤ 100000 := by omega
      clear h51 h52 h53 hq5 hL5
      go_wp2
      go_roundw
      case rel =>
       refine ⟨k + 1, L5, by omega, by go_num, hL50, hL51, HL5, fun j hj => ?_, HC5⟩
       by_cases e : j = k
       · subst e
         exact HN5.o
       exact HOKS.o j (by omega)
      case measure => simp [intOf]; omega
    obtain rfl : k = n := by omega
    have hlkz : ¬ (k : Int) < (k : Int) := by omega
    go_wp2
    go_ret
    have h2 : esz (.mk d kid) = 1 + sumN d.n (fun i => esz (kid i)) := rfl
    have h4 := HLR.o
    rw [HNN.o] at h4
    exact CtrAns.yes ⟨hd10, HNODE.o, fun i hi => HOKS.o i (by rw [HNN.o]; exact hi)⟩ (by omega) (by omega) HCr.o.ct HCr.o.pa
  have e2 : (d.k == 2) = false := by simp [hk2]
  have n2 : (d.k != 2) = true := by simp [hk2]
  have HK2 := iH hk2
  clear hk2
  by_cases ho3 : d.op = 0
  rotate_left
  · have HNO : Hd (¬ nodeOk d) := fun hh => ho3 (hh.2.2.2.2.2.2 HK2.o)
    have ho4 : (d.op == 0) = false := by simp [ho3]
    have ho5 : (d.op != 0) = true := by simp [ho3]
    clear ho3
    go_wp2
    go_ret
    exact CtrAns.no (eOk_no HNO.o) HC3.o.ct HC3.o.pa
  have HO := iH (fun (_ : d.k ≠ 2) => ho3)
  have ho4 : (d.op == 0) = true := by simp [ho3]
  have ho5 : (d.op != 0) = false := by simp [ho3]
  clear ho3
  have HNODE := iH (HND.o HO.o ⟨by omega, by omega⟩)
  clear HND HO
  obtain ⟨n, hnn⟩ : ∃ n, n = d.n := ⟨_, rfl⟩
  have HNN := iH hnn
  have hn20 := show n ≤ 4 by have h := HKO.o; unfold kOk at h; omega
  have hn1 := show 1 ≤ n by have h := HKO.o; have h2 := HK0.o; unfold kOk at h; omega
  obtain ⟨b, off, eK, _, hbk, hck⟩ := HKR.o.resolve_left (by omega)
  have HEK := iH eK
  have HCK := iH hck
  have hbk' : b < w0.heap.size := hbk
  clear eK hck hnn hbk
  go_wp2_with fail
  clear x0 x1 x2 x7 y3 y4 y5 y6
  go_loopw [8] (fun i wr => ∃ (k : Nat) (Lr : Int), k ≤ n ∧ i = .int .i64 k ∧ 0 ≤ Lr ∧ Lr ≤ 100000 ∧ Hd (Lr = L - 1 - (sumN k (fun i => esz (kid i)) : Nat)) ∧ Hd (∀ j, j < k → eOk 10 (kid j) (deep + 1)) ∧ Hd (CS w0 w wr g Lr [.int .i64 d.k, .int .i64 d.op, .slice d.v.a d.v.len d.v.cap, .int .i64 d.t.t.k, .slice d.t.t.a d.t.t.len d.t.t.cap, .int .i64 d.t.t.n, .int .i64 d.t.t.s, .slice d.ka d.n d.kc])) (fun i _ => n - (intOf i).toNat)
  case atStart => exact ⟨0, L - 1, nZ, rfl, by omega, by omega, (show L - 1 = L - 1 - ((0 : Nat) : Int) by omega), fun j hj => absurd hj nN, HC3⟩
  clear HC3
  obtain ⟨k, Lr, hk, rfl, hLr0, hLr1, HLR, HOKS, HCr⟩ := hrel
  have x7 := HCr.o.bx.2 7 _ rfl
  rw [← HNN.o] at x7
  by_cases hlk : k < n
  · have hlkz : (k : Int) < (n : Int) := by omega
    rw [HEK.o] at x7
    have hcx : wr.rangeAt b (off + k * 8) (kid k).d.cl := fun c u hu => (HCr.o.bl.cell (p := ⟨b, off + k * 8 + c, none⟩) hbk').trans (HCK.o k (by rw [← HNN.o]; exact hlk) c u hu)
    have Z := HIH.o k (by rw [← HNN.o]; exact hlk) Lr wr HCr.o.bl HCr.o.ct hLr0 hLr1 hd10
    have hdw : IntKind.i64.wrap (deep + 1) = deep + 1 := by rw [IntKind.wrap_i64]; omega
    go_wp2_with (refine wpList_load_mid rfl 42 _ rfl b (off + k * 8) rfl (kid k).d.cl _ hcx Tryz.underlying42 rfl (by kernel_rfl) ?_; try simp only [Act.put, sA, zA, cA])
    refine Z.mono ?_
    rintro e w5 ⟨q5, L5, rfl, hq5, hL5, hc5, hp5⟩
    have HC5 := iH (HCr.o.past hg hgw hp5 hc5)
    clear Z hcx hc5 hp5 x7 HCr hdw
    have HS : Hd (sumN (k + 1) (fun i => esz (kid i)) = sumN k (fun i => esz (kid i)) + esz (kid k)) := rfl
    cases q5
    · have HNO : Hd (¬ (eOk 10 (.mk d kid) deep ∧ ((esz (.mk d kid) : Nat) : Int) ≤ L)) := fun hh => by
       have h1 := hh.1.2.2 k (by rw [← HNN.o]; exact hlk)
       have h2 : esz (.mk d kid) = 1 + sumN d.n (fun i => esz (kid i)) := rfl
       have h3 := sumN_mono (f := fun i => esz (kid i)) (show k + 1 ≤ d.n by rw [← HNN.o]; omega)
       have h4 := HLR.o
       have h5 := HS.o
       have h6 := hh.2
       have h7 := hq5.2 ⟨h1, by omega⟩
       cases h7
      clear hq5 hL5
      go_wp2
      go_ret
      exact CtrAns.no HNO.o HC5.o.ct HC5.o.pa
    obtain ⟨h51, h52⟩ := hq5.1 rfl
    have h53 := hL5 rfl
    have HN5 := iH h51
    have HL5 : Hd (L5 = L - 1 - (sumN (k + 1) (fun i => esz (kid i)) : Nat)) := (show L5 = _ by have h1 := HS.o; have h2 := HLR.o; omega)
    have hL50 : 0 ≤ L5 := by omega
    have hL51 : L5 ≤ 100000 := by omega
    clear h51 h52 h53 hq5 hL5
    go_wp2
    go_roundw
    case rel =>
     refine ⟨k + 1, L5, by omega, by go_num, hL50, hL51, HL5, fun j hj => ?_, HC5⟩
     by_cases e : j = k
     · subst e
       exact HN5.o
     exact HOKS.o j (by omega)
    case measure => simp [intOf]; omega
  obtain rfl : k = n := by omega
  have hlkz : ¬ (k : Int) < (k : Int) := by omega
  go_wp2
  go_ret
  have h2 : esz (.mk d kid) = 1 + sumN d.n (fun i => esz (kid i)) := rfl
  have h4 := HLR.o
  rw [HNN.o] at h4
  exact CtrAns.yes ⟨hd10, HNODE.o, fun i hi => HOKS.o i (by rw [HNN.o]; exact hi)⟩ (by omega) (by omega) HCr.o.ct HCr.o.pa
end Go.Proofs.YtoloadogihbdeaaGreat
