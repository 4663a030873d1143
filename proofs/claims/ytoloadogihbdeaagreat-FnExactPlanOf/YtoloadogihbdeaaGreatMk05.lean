import Derived.Test.YtoloadogihbdeaaGreatMk03
import Derived.Deep.Upon
namespace Go.Proofs.YtoloadogihbdeaaGreat
open Go.RowKit Go.Deep
set_option maxHeartbeats 40000000
set_option maxRecDepth 100000
variable {d : EN} {L L' deep : Int} {cs : List Value} {B fb g k s sz : Nat} {a : Option Addr} {P : Prop} {v : Value} {W W' w w' w0 : World}
structure Ctr (w : World) (g : Nat) (L : Int) : Prop where
 lt : g < w.heap.size
 cell : w.cell? ⟨g, 0, none⟩ = some (.int .i64 L)
 fr : w.frozen? ⟨g, 0, none⟩ = false
theorem Ctr.below (h : Ctr w g L) (hb : Bl w w') : Ctr w' g L := ⟨Nat.lt_of_lt_of_le h.lt hb.size, (hb.cell (p := ⟨g, 0, none⟩) h.lt).trans h.cell, (hb.frozen (p := ⟨g, 0, none⟩) h.lt).trans h.fr⟩
theorem Ctr.set (h : Ctr w g L) (L' : Int) : Ctr (w.setCell ⟨g, 0, none⟩ (.int .i64 L')) g L' := ⟨by simpa using h.lt, set_same h.cell, by rw [World.frozen?_setCell]; exact h.fr⟩
def CtrAns (P : Prop) (sz g : Nat) (L : Int) (w : World) (e : Ending) (w' : World) : Prop := ∃ (q : Bool) (L' : Int), e = .returned (.bool q) ∧ (q = true ↔ P ∧ (sz : Int) ≤ L) ∧ (q = true → L' = L - sz) ∧ Ctr w' g L' ∧ Past g w w'
theorem CtrAns.no (h : ¬ (P ∧ (sz : Int) ≤ L)) (hc : Ctr w' g L') (hp : Past g w w') : CtrAns P sz g L w (.returned (.bool false)) w' := ⟨false, L', rfl, ⟨fun e => (by cases e), fun hh => absurd hh h⟩, fun e => (by cases e), hc, hp⟩
theorem CtrAns.yes (h : P) (hs : (sz : Int) ≤ L) (hL : L' = L - sz) (hc : Ctr w' g L') (hp : Past g w w') : CtrAns P sz g L w (.returned (.bool true)) w' := ⟨true, L', rfl, ⟨fun _ => ⟨h, hs⟩, fun _ => rfl⟩, fun _ => hL, hc, hp⟩
theorem Box.past {b : Nat} {L : List Value} (h : Box w b L) (hp : Past g w w') (hne : b ≠ g) : Box w' b L := ⟨Nat.lt_of_lt_of_le h.1 hp.size, fun c u hc => (hp.cell (p := ⟨b, c, none⟩) h.1 hne).trans (h.2 c u hc)⟩
structure CS (w0 w W : World) (g : Nat) (L : Int) (cs : List Value) : Prop where
 bx : Box W w.heap.size cs
 ct : Ctr W g L
 pa : Past g w W
 bl : Bl w0 W
theorem CS.below (h : CS w0 w W g L cs) (hw : w0.heap.size ≤ W.heap.size) (hb : Bl W W') : CS w0 w W' g L cs := ⟨h.bx.below hb, h.ct.below hb, h.pa.trans (Past.of_below hb), h.bl.trans (hb.mono hw)⟩
theorem CS.past (h : CS w0 w W g L cs) (hg : w0.heap.size ≤ g) (hgw : g < w.heap.size) (hp : Past g W W') (hc : Ctr W' g L') : CS w0 w W' g L' cs := ⟨h.bx.past hp (by omega), hc, h.pa.trans hp, h.bl.trans (hp.below hg (by have := h.bl.size; omega))⟩
theorem CS.new (hb : Bl w0 w) (hg : w0.heap.size ≤ g) (hc : Ctr w g L) (cs : Array Value) (t : TypeId) (L' : Int) : CS w0 w ((w.setCell ⟨g, 0, none⟩ (.int .i64 L')).alloc (.cells cs t)) g L' cs.toList := by
 have h1 : Past g w (w.setCell ⟨g, 0, none⟩ (.int .i64 L')) := (Past.refl g w).set 0 _;have h2 : Past g w ((w.setCell ⟨g, 0, none⟩ (.int .i64 L')).alloc (.cells cs t)) := h1.trans (Past.of_below (bl_a _));have h3 := Box.new (w.setCell ⟨g, 0, none⟩ (.int .i64 L')) cs t (0, 0);have e : (w.setCell ⟨g, 0, none⟩ (.int .i64 L')).heap.size = w.heap.size := by simp
 rw [e] at h3;exact ⟨h3, (hc.set L').below (bl_a _), h2, hb.trans (h2.below hg (by have := hb.size; omega))⟩
theorem eOk_no {lim : Int} {kid : Nat → ET} (h : ¬ nodeOk d) : ¬ (eOk lim (.mk d kid) deep ∧ (s : Int) ≤ L) := fun hh => h hh.1.2.1
theorem l4expr_any (e : ET) : ∀ (deep L : Int) (g : Nat) (w0 w : World), e.lies 0 w0 → Bl w0 w → w0.heap.size ≤ g → Ctr w g L → 0 ≤ deep → deep ≤ 100000 → 0 ≤ L → L ≤ 100000 →
 Calls Tryz.prog 134 #[.agg e.d.ar, .int .i64 deep, .pointer (some ⟨g, 0, none⟩)] w (CtrAns (eOk 10 e deep) (esz e) g L w) := by
 try unfold EN.ar EN.cl
 induction e with
 | nil => exact fun _ _ _ _ _ h => False.elim h
 | mk d kid ih =>
  intro deep L g w0 w hl hw hg hc hd0 hd1 hL0 hL1;show Calls Tryz.prog 134 #[.agg d.ar, .int .i64 deep, .pointer (some ⟨g, 0, none⟩)] w (CtrAns (eOk 10 (.mk d kid) deep) (esz (.mk d kid)) g L w);obtain ⟨hv, ht, hf, hn, hR, hk⟩ := hl;have hgw := hc.lt;have hsz := hw.size;have HLN := iH (nil_len hv.1.1);have HV := iH fun W (hb : Bl w0 W) => l4var_any d.v W (hv.upper (uB hb));have HZT := iH fun W (hb : Bl w0 W) => l4zeroTerm_any d.t W (ht.upper (uB hb));have HTO : Hd (∀ W, Bl w0 W → Cl 110 #[.agg #[.int .i64 d.t.t.k, .slice d.t.t.a d.t.t.len d.t.t.cap, .int .i64 d.t.t.n, .int .i64 d.t.t.s]] W (Tells (d.t.td.ok = true) W)) := fun W hb => (specTermOk_any _ _ _ _ _ _ d.t.b W (ht.upper (uB hb)).1 hf.1 hf.2.1).mono fun e w' ⟨h1, o, h2⟩ => by
   subst h1 h2;exact Tells.of Iff.rfl (bl_a _)
  have HIH := iH (fun i (hi : i < d.n) (L' : Int) (W : World) (hb : Bl w0 W) (hc' : Ctr W g L') (h0 : 0 ≤ L') (h1 : L' ≤ 100000) (h10 : deep ≤ 10) => ih i (deep + 1) L' g w0 W (hk i hi) hb hg hc' (by omega) (by omega) h0 h1);have HKR := iH hR;have HSZ : Hd (esz (.mk d kid) = 1 + sumN d.n (fun i => esz (kid i))) := rfl;have HCS := iH (CS.new hw hg hc d.ar 42 (L - 1));have c0 := fun o => ((bl_a (w := w) o).cell (p := ⟨g, 0, none⟩) hgw).trans hc.cell;have f0 := fun o => ((bl_a (w := w) o).frozen (p := ⟨g, 0, none⟩) hgw).trans hc.fr;have hwr : IntKind.i64.wrap (L - 1) = L - 1 := by rw [IntKind.wrap_i64]; omega
  clear hv ht hf hR hk ih hw hc;go_enter Tryz.func134, Tryz.ntmps134;go_upto_region 2 with fail
  generalize (w.setCell _ _).alloc _ = W1 at *;clear c0 f0 hwr;have HF : Hd (∀ w', Bl W1 w' → w'.cell? ⟨g, 0, none⟩ = some (.int .i64 (L - 1)) ∧ w'.cell? ⟨w.heap.size, 7, none⟩ = some (.slice d.ka d.n d.kc)) := fun w' hb => ⟨(hb.cell (p := ⟨g, 0, none⟩) HCS.o.ct.lt).trans HCS.o.ct.cell, (HCS.o.bx.below hb).2 7 _ rfl⟩;have HR : Hd (∀ w', Bl W1 w' → w'.rangeAt w.heap.size 0 d.cl) := fun w' hb => (HCS.o.bx.below hb).range 0 _ rfl;have hW1 : w0.heap.size ≤ W1.heap.size := HCS.o.bl.size;by_cases hbad : L - 1 < 0 ∨ deep > 10
  · have HNO : Hd (¬ (eOk 10 (.mk d kid) deep ∧ ((esz (.mk d kid) : Nat) : Int) ≤ L)) := fun hh => by
     have h := hh.2;have h1 := hh.1.1;have h2 := HSZ.o;omega
    by_cases hLz : L - 1 < 0;rotate_left;have hdz : deep > 10 := by omega
    all_goals clear hbad
    all_goals
     refine whd (fun w' => Bl W1 w') ?_ fun hHeld => ?_
     · exact Below.drew brf
     refine tkB 0 15 ?_;refine tkB 1 16 ?_;refine takeq (i := 2) 17 rfl rfl (by kernel_rfl) (by kernel_rfl) (by kernel_rfl) (fun _ _ _ h => h) (Or.inl ⟨by rfl, by intro w' hSw; obtain ⟨f0, f7⟩ := HF.o w' hSw; go_simp; (try with_reducible rfl)⟩) hHeld ?_;refine tkB 3 18 ?_;refine tkB 4 19 ?_;first | (refine takeq (i := 5) 20 (v := undef) rfl rfl (by kernel_rfl) (by kernel_rfl) (by kernel_rfl) (fun _ _ _ h => h) (Or.inr ⟨?_, rfl⟩) hHeld ?_; rfl; try simp only [Act.put, sA, zA, cA]) | (refine tkB 5 20 ?_; try simp only [Act.put, sA, zA, cA])
     first | (refine takeq (i := 6) 21 (v := undef) rfl rfl (by kernel_rfl) (by kernel_rfl) (by kernel_rfl) (fun _ _ _ h => h) (Or.inr ⟨?_, rfl⟩) hHeld ?_; rfl; try simp only [Act.put, sA, zA, cA]) | (refine tkB 6 21 ?_; try simp only [Act.put, sA, zA, cA])
     refine tkB 7 22 ?_;refine tkB 8 23 ?_;refine tkU 9 24 ?_;refine tkU 10 25 ?_;refine tkU 11 26 ?_;refine tkU 12 27 ?_;refine tkU 13 28 ?_;refine tkU 14 29 ?_;refine tkB 15 30 ?_;refine wpAnyH_done (by kernel_rfl) ?_ _;have HCd := iH (HCS.o.below hW1 bdr);clear hHeld HF HR HCS;go_wp2;go_ret;exact CtrAns.no HNO.o HCd.o.ct HCd.o.pa
  have hLz : ¬ L - 1 < 0 := fun h => hbad (.inl h);have hdz : ¬ deep > 10 := fun h => hbad (.inr h);have hd10 : deep ≤ 10 := by omega
  clear hbad;have KD : Calls Tryz.prog 132 #[.agg d.ar] W1.drew fun e w' => e = .returned (.int .i64 (kidsN d.k d.n)) ∧ Below W1.drew.heap.size W1.drew w' := (l4kids_any d _).mono fun e w' ⟨h1, o, h2⟩ => ⟨h1, by rw [h2]; exact bl_a _⟩
  obtain ⟨kn, hkn⟩ : ∃ kn, kn = kidsN d.k d.n := ⟨_, rfl⟩;have HKN := iH (show (kn = d.n ↔ kOk d.k d.n) by rw [hkn]; exact kidsN_ok d.k d.n);rw [← hkn] at KD;clear hkn;refine whd (fun w' => Bl W1 w') ?_ fun hHeld => ?_
  · exact Below.drew brf
  refine tkB 0 15 ?_;refine tkB 1 16 ?_;refine tkA 2 17 (v := ?v21) ?y21 ?_
  case y21 => (intro w' hSw; obtain ⟨f0, f7⟩ := HF.o w' hSw; go_simp; (try with_reducible rfl))
  refine tkB 3 18 ?_;refine tkB 4 19 ?_;refine tkB 5 20 ?_;refine tkB 6 21 ?_;refine tkB 7 22 ?_;refine tkB 8 23 ?_;refine takeq (i := 9) 24 (v := .agg d.ar) rfl rfl (by kernel_rfl) (by kernel_rfl) (by kernel_rfl) (fun _ _ _ h => h) (yieldsIf_load_mid (by rfl) 42 _ rfl w.heap.size 0 rfl d.cl _ HR.o Tryz.underlying42 rfl (by kernel_rfl)) hHeld ?_;refine tkB 11 26 ?_;refine tkA 12 27 (v := ?v29) ?y29 ?_
  case y29 => (intro w' hSw; obtain ⟨f0, f7⟩ := HF.o w' hSw; go_simp; (try with_reducible rfl))
  refine tkB 13 28 ?_;refine rdA 10 fun K hK => ?_;go_simp;refine KD.mono ?_;rintro e w2 ⟨rfl, hb2⟩;have HB2 : Hd (Bl W1 w2) := bdr.trans hb2;clear hb2;go_wp2_with fail
  refine hK.out _ _ ?_ fun hHeld => ?_
  · exact HB2.o
  clear hK K;refine tkB 14 29 ?_;refine tkB 15 30 ?_;refine wpAnyH_done (by kernel_rfl) ?_ _;have HC2 := iH (HCS.o.below hW1 HB2.o);clear HB2 hHeld HF HR HCS KD hW1;by_cases hkk : kn = d.n;rotate_left
  · have hkb : (kn != (d.n : Int)) = true := by simp [hkk]
    have hkc : (kn == (d.n : Int)) = false := by simp [hkk]
    have HNO : Hd (¬ (eOk 10 (.mk d kid) deep ∧ ((esz (.mk d kid) : Nat) : Int) ≤ L)) := eOk_no fun hh => hkk (HKN.o.2 hh.1);clear hkk;go_wp2;go_ret;exact CtrAns.no HNO.o HC2.o.ct HC2.o.pa
  have hkb : (kn != (d.n : Int)) = false := by simp [hkk]
  have hkc : (kn == (d.n : Int)) = true := by simp [hkk]
  have HKO := iH (HKN.o.1 hkk);clear hkk HKN;obtain ⟨W2, hW2e⟩ : ∃ W2, W2 = w2 := ⟨_, rfl⟩;rw [← hW2e] at HC2 ⊢;clear hW2e;obtain ⟨x0, x1, x2, y3, y4, y5, y6, x7⟩ := bxA HC2.o.bx;by_cases hk3 : d.k = 0 ∨ d.k = 4 ∨ d.k = 1
  · have HN0 : Hd (d.n = 0) := (show d.n = 0 by have h := HKO.o; unfold kOk at h; omega)
    rcases hk3 with h | h | h;all_goals
     have HKV := iH h;clear h;rw [HKV.o] at x0;first
     | have hG : d.k = 0 ∨ d.k = 4 := by rw [HKV.o]; decide
       have HG := iH hG;clear hG;by_cases hvl : d.v.len = 0
       · have HNO : Hd (¬ nodeOk d) := fun hh => name_pos (hh.2.1 HG.o) (HLN.o.2 hvl)
         have hvz : ¬ (0 : Int) < (d.v.len : Int) := by omega
         clear hvl;go_wp2;go_ret;exact CtrAns.no (eOk_no HNO.o) HC2.o.ct HC2.o.pa
       have hvz : (0 : Int) < (d.v.len : Int) := by omega
       clear hvl;have V := HV.o W2 HC2.o.bl;go_wp2_with fail
       refine V.mono ?_;rintro e w3 ⟨q3, rfl, hq3, hb3⟩;have HC3 := iH (HC2.o.below HC2.o.bl.size hb3);clear V hb3 HC2 x0 x1 x2 x7 y3 y4 y5 y6;cases q3
       · have HNO : Hd (¬ nodeOk d) := fun hh => by have h := hq3.2 (hh.2.1 HG.o); cases h
         clear hq3;go_wp2;go_ret;exact CtrAns.no (eOk_no HNO.o) HC3.o.ct HC3.o.pa
       have HNM := iH (hq3.1 rfl);clear hq3;obtain ⟨x0, x1, x2, y3, y4, y5, y6, x7⟩ := bxA HC3.o.bx;rw [HKV.o] at x0;have ZT := HZT.o w3 HC3.o.bl;go_wp2_with fail
       refine ZT.mono ?_;rintro e w4 ⟨q4, rfl, hq4, hb4⟩;replace HC3 := iH (HC3.o.below HC3.o.bl.size hb4);clear ZT hb4 x0 x1 x2 x7 y3 y4 y5 y6;cases q4
       · have HNO : Hd (¬ nodeOk d) := fun hh => by have h := hq4.2 (hh.2.2.2.2.1 (by rw [HKV.o]; decide)); cases h
         clear hq4;go_wp2;go_ret;exact CtrAns.no (eOk_no HNO.o) HC3.o.ct HC3.o.pa
       have HZ4 := iH (hq4.1 rfl);clear hq4;have HND : Hd (∀ _ : d.k ≠ 2 → d.op = 0, 0 ≤ d.op ∧ d.op ≤ 7 → nodeOk d) := fun h1 h2 => ⟨HKO.o, fun _ => HNM.o, fun h => absurd HG.o h, fun h => absurd h (by rw [HKV.o]; decide), fun _ => HZ4.o, h2, h1⟩
     | by_cases hvl : d.v.len = 0
       rotate_left
       · have HNO : Hd (¬ nodeOk d) := fun hh => hvl (HLN.o.1 (hh.2.2.1 (by rw [HKV.o]; decide)))
         have hvz : (0 : Int) < (d.v.len : Int) := by omega
         clear hvl;go_wp2;go_ret;exact CtrAns.no (eOk_no HNO.o) HC2.o.ct HC2.o.pa
       have HVN := iH (HLN.o.2 hvl);have hvz : ¬ (0 : Int) < (d.v.len : Int) := by omega
       clear hvl;have T := HTO.o W2 HC2.o.bl;go_wp2_with fail
       refine T.mono ?_;rintro e w3 ⟨q3, rfl, hq3, hb3⟩;have HC3 := iH (HC2.o.below HC2.o.bl.size hb3);clear T hb3 HC2 x0 x1 x2 x7 y3 y4 y5 y6;cases q3
       · have HNO : Hd (¬ nodeOk d) := fun hh => by have h := hq3.2 (hh.2.2.2.1 HKV.o); cases h
         clear hq3;go_wp2;go_ret;exact CtrAns.no (eOk_no HNO.o) HC3.o.ct HC3.o.pa
       have HTM := iH (hq3.1 rfl);clear hq3;have HND : Hd (∀ _ : d.k ≠ 2 → d.op = 0, 0 ≤ d.op ∧ d.op ≤ 7 → nodeOk d) := fun h1 h2 => ⟨HKO.o, fun h => absurd h (by rw [HKV.o]; decide), fun _ => HVN.o, fun _ => HTM.o, fun h => absurd HKV.o h, h2, h1⟩
     obtain ⟨x0, x1, x2, y3, y4, y5, y6, x7⟩ := bxA HC3.o.bx;rw [HKV.o] at x0;by_cases ho1 : d.op < 0 ∨ d.op > 7
     · have HNO : Hd (¬ nodeOk d) := fun hh => by have h := hh.2.2.2.2.2.1; omega
       by_cases ho2 : d.op < 0;rotate_left;have ho3 : d.op > 7 := by omega
       all_goals clear ho1
       all_goals
        go_wp2;go_ret;exact CtrAns.no (eOk_no HNO.o) HC3.o.ct HC3.o.pa
     have ho2 : ¬ d.op < 0 := fun h => ho1 (.inl h);have ho6 : ¬ d.op > 7 := fun h => ho1 (.inr h);clear ho1;by_cases ho3 : ¬ d.op = 0
     · have HNO : Hd (¬ nodeOk d) := fun hh => ho3 (hh.2.2.2.2.2.2 (by rw [HKV.o]; decide))
       have ho4 : (d.op == 0) = false := by simp [ho3]
       have ho5 : (d.op != 0) = true := by simp [ho3]
       clear ho3;go_wp2;go_ret;exact CtrAns.no (eOk_no HNO.o) HC3.o.ct HC3.o.pa
     replace ho3 : d.op = 0 := by omega
     have HO : Hd (d.k ≠ 2 → d.op = 0) := fun _ => ho3;have ho4 : (d.op == 0) = true := by simp [ho3]
     have ho5 : (d.op != 0) = false := by simp [ho3]
     clear ho3;have hnz : ¬ (0 : Int) < (d.n : Int) := by have := HN0.o; omega
     go_wp2_with fail
     refine wl1 ?_;go_wp2;go_ret;have h := HSZ.o;rw [HN0.o] at h;have h2 : sumN 0 (fun i => esz (kid i)) = 0 := rfl;exact CtrAns.yes ⟨hd10, HND.o HO.o ⟨by omega, by omega⟩, fun i hi => absurd hi (by rw [HN0.o]; exact nN)⟩ (by omega) (by omega) HC3.o.ct HC3.o.pa
  have HK0 := iH hk3;have e0 : (d.k == 0) = false := by simp; omega
  have n0 : (d.k != 0) = true := by simp; omega
  have e4 : (d.k == 4) = false := by simp; omega
  have n4 : (d.k != 4) = true := by simp; omega
  have e1 : (d.k == 1) = false := by simp; omega
  have n1 : (d.k != 1) = true := by simp; omega
  clear hk3;by_cases hvl : d.v.len = 0;rotate_left
  · have HNO : Hd (¬ nodeOk d) := fun hh => hvl (HLN.o.1 (hh.2.2.1 (fun h => HK0.o (by omega))))
    have hvz : (0 : Int) < (d.v.len : Int) := by omega
    clear hvl;go_wp2;go_ret;exact CtrAns.no (eOk_no HNO.o) HC2.o.ct HC2.o.pa
  have HVN := iH (HLN.o.2 hvl);have hvz : ¬ (0 : Int) < (d.v.len : Int) := by omega
  clear hvl;have T := HZT.o W2 HC2.o.bl;go_wp2_with fail
  refine T.mono ?_;rintro e w3 ⟨q3, rfl, hq3, hb3⟩;have HC3 := iH (HC2.o.below HC2.o.bl.size hb3);clear T hb3 HC2 x0 x1 x2 x7 y3 y4 y5 y6;cases q3
  · have HNO : Hd (¬ nodeOk d) := fun hh => by have h := hq3.2 (hh.2.2.2.2.1 (fun h => HK0.o (by omega))); cases h
    clear hq3;go_wp2;go_ret;exact CtrAns.no (eOk_no HNO.o) HC3.o.ct HC3.o.pa
  have HTM := iH (hq3.1 rfl);clear hq3;have HND : Hd (∀ _ : d.k ≠ 2 → d.op = 0, 0 ≤ d.op ∧ d.op ≤ 7 → nodeOk d) := fun h1 h2 => ⟨HKO.o, fun h => absurd h (fun h => HK0.o (by omega)), fun _ => HVN.o, fun h => absurd h (fun h => HK0.o (by omega)), fun _ => HTM.o, h2, h1⟩;obtain ⟨x0, x1, x2, y3, y4, y5, y6, x7⟩ := bxA HC3.o.bx;by_cases ho1 : d.op < 0 ∨ d.op > 7
  · have HNO : Hd (¬ nodeOk d) := fun hh => by have h := hh.2.2.2.2.2.1; omega
    by_cases ho2 : d.op < 0;rotate_left;have ho3 : d.op > 7 := by omega
    all_goals clear ho1
    all_goals
     go_wp2;go_ret;exact CtrAns.no (eOk_no HNO.o) HC3.o.ct HC3.o.pa
  have ho2 : ¬ d.op < 0 := fun h => ho1 (.inl h);have ho6 : ¬ d.op > 7 := fun h => ho1 (.inr h);clear ho1;by_cases hk2 : d.k = 2;rotate_left;have HK2 := iH hk2;have e2 : (d.k == 2) = false := by simp [hk2]
  have n2 : (d.k != 2) = true := by simp [hk2]
  by_cases ho3 : ¬ d.op = 0
  · have HNO : Hd (¬ nodeOk d) := fun hh => ho3 (hh.2.2.2.2.2.2 HK2.o)
    have ho4 : (d.op == 0) = false := by simp [ho3]
    have ho5 : (d.op != 0) = true := by simp [ho3]
    clear ho3;go_wp2;go_ret;exact CtrAns.no (eOk_no HNO.o) HC3.o.ct HC3.o.pa
  replace ho3 : d.op = 0 := by omega
  have HO : Hd (d.k ≠ 2 → d.op = 0) := fun _ => ho3;have ho4 : (d.op == 0) = true := by simp [ho3]
  have ho5 : (d.op != 0) = false := by simp [ho3]
  clear ho3;clear HK2;rotate_left;have e2 : (d.k == 2) = true := by simp [hk2]
  have n2 : (d.k != 2) = false := by simp [hk2]
  have HO : Hd (d.k ≠ 2 → d.op = 0) := fun h => absurd hk2 h;all_goals clear hk2
  all_goals
   have HNODE := iH (HND.o HO.o ⟨by omega, by omega⟩);clear HND HO;obtain ⟨n, hnn⟩ : ∃ n, n = d.n := ⟨_, rfl⟩;have HNN := iH hnn;have hn20 : n ≤ 4 := (show n ≤ 4 by have h := HKO.o; unfold kOk at h; omega);have hn1 : 1 ≤ n := (show 1 ≤ n by have h := HKO.o; have h2 := HK0.o; unfold kOk at h; omega);obtain ⟨b, off, eK, _, hbk, hck⟩ := HKR.o.resolve_left (by omega);have HEK := iH eK;have HCK := iH hck;have hbk' : b < w0.heap.size := hbk;clear eK hck hnn hbk;go_wp2_with fail
   clear x0 x1 x2 x7 y3 y4 y5 y6;go_loopw [8] (fun i wr => ∃ (k : Nat) (Lr : Int), k ≤ n ∧ i = .int .i64 k ∧ 0 ≤ Lr ∧ Lr ≤ 100000 ∧ Hd (Lr = L - 1 - (sumN k (fun i => esz (kid i)) : Nat)) ∧ Hd (∀ j, j < k → eOk 10 (kid j) (deep + 1)) ∧ Hd (CS w0 w wr g Lr [.int .i64 d.k, .int .i64 d.op, .slice d.v.a d.v.len d.v.cap, .int .i64 d.t.t.k, .slice d.t.t.a d.t.t.len d.t.t.cap, .int .i64 d.t.t.n, .int .i64 d.t.t.s, .slice d.ka d.n d.kc])) (fun i _ => n - (intOf i).toNat)
   case atStart => exact ⟨0, L - 1, nZ, rfl, by omega, by omega, (show L - 1 = L - 1 - ((0 : Nat) : Int) by omega), fun j hj => absurd hj nN, HC3⟩
   clear HC3;obtain ⟨k, Lr, hk, rfl, hLr0, hLr1, HLR, HOKS, HCr⟩ := hrel;have x7 := HCr.o.bx.2 7 _ rfl;rw [← HNN.o] at x7;by_cases hlk : k < n
   · have hlkz : (k : Int) < (n : Int) := by omega
     rw [HEK.o] at x7;have hkn : k < d.n := by rw [← HNN.o]; exact hlk
     have HKN2 := iH hkn;clear hkn;have hcx : wr.rangeAt b (off + k * 8) (kid k).d.cl := fun c u hu => (HCr.o.bl.cell (p := ⟨b, off + k * 8 + c, none⟩) hbk').trans (HCK.o k HKN2.o c u hu);have Z := HIH.o k HKN2.o Lr wr HCr.o.bl HCr.o.ct hLr0 hLr1 hd10;have hdw : IntKind.i64.wrap (deep + 1) = deep + 1 := by rw [IntKind.wrap_i64]; omega
     go_wp2_with (refine wpList_load_mid rfl 42 _ rfl b (off + k * 8) rfl (kid k).d.cl _ hcx Tryz.underlying42 rfl (by kernel_rfl) ?_; try simp only [Act.put, sA, zA, cA])
     refine Z.mono ?_;rintro e w5 ⟨q5, L5, rfl, hq5, hL5, hc5, hp5⟩;have HC5 := iH (HCr.o.past hg hgw hp5 hc5);clear Z hcx hc5 hp5 x7 HCr hdw;have HS : Hd (sumN (k + 1) (fun i => esz (kid i)) = sumN k (fun i => esz (kid i)) + esz (kid k)) := rfl;cases q5
     · have HNO : Hd (¬ (eOk 10 (.mk d kid) deep ∧ ((esz (.mk d kid) : Nat) : Int) ≤ L)) := fun hh => by
        have h1 := hh.1.2.2 k HKN2.o;have h2 := HSZ.o;have h3 := sumN_mono (f := fun i => esz (kid i)) (show k + 1 ≤ d.n from HKN2.o);have h4 := HLR.o;have h5 := HS.o;have h6 := hh.2;have h7 := hq5.2 ⟨h1, by omega⟩
        cases h7
       clear hq5 hL5;go_wp2;go_ret;exact CtrAns.no HNO.o HC5.o.ct HC5.o.pa
     obtain ⟨h51, h52⟩ := hq5.1 rfl;have h53 := hL5 rfl;have HN5 := iH h51;have HL5 : Hd (L5 = L - 1 - (sumN (k + 1) (fun i => esz (kid i)) : Nat)) := (show L5 = _ by have h1 := HS.o; have h2 := HLR.o; omega);have hL50 : 0 ≤ L5 := by omega
     have hL51 : L5 ≤ 100000 := by omega
     clear h51 h52 h53 hq5 hL5;go_wp2;go_roundw
     case rel =>
      refine ⟨k + 1, L5, by omega, by go_num, hL50, hL51, HL5, fun j hj => ?_, HC5⟩
      by_cases e : j = k
      · subst e
        exact HN5.o
      exact HOKS.o j (by omega)
     case measure => simp [intOf]; omega
   obtain rfl : k = n := by omega
   have hlkz : ¬ (k : Int) < (k : Int) := by omega
   go_wp2;go_ret;have h2 := HSZ.o;have h4 := HLR.o;rw [HNN.o] at h4;exact CtrAns.yes ⟨hd10, HNODE.o, fun i hi => HOKS.o i (by rw [HNN.o]; exact hi)⟩ (by omega) (by omega) HCr.o.ct HCr.o.pa
theorem fm_len {α : Type} (enc : α → List Value) (k : Nat) (hk : ∀ x, (enc x).length = k) (l : List α) : (l.flatMap enc).length = l.length * k := by
 induction l with
 | nil => simp
 | cons x l ih => rw [List.flatMap_cons, List.length_append, ih, hk, List.length_cons, Nat.add_mul, Nat.one_mul, Nat.add_comm]
theorem fm_get {α : Type} (enc : α → List Value) (k : Nat) (hk : ∀ x, (enc x).length = k) (l : List α) (i c : Nat) (hi : i < l.length) (hc : c < k) : (l.flatMap enc)[i * k + c]? = (enc l[i])[c]? := by
 induction l generalizing i with
 | nil => cases hi
 | cons x l ih =>
  rw [List.flatMap_cons];cases i with
  | zero => rw [List.getElem?_append_left (by rw [hk]; omega)]; simp
  | succ i =>
   rw [List.getElem?_append_right (by rw [hk, Nat.add_mul]; omega)];have : (i + 1) * k + c - (enc x).length = i * k + c := by rw [hk, Nat.add_mul]; omega
   rw [this, ih i (by simpa using hi)];rfl
theorem l1int_any (n : Int) (w : World) : Calls Tryz.prog 133 #[.int .i64 n] w fun e w' => e = .returned (.agg #[.int .i64 3, .slice none 0 0, .int .i64 n, .int .i64 0]) ∧ Bl w w' := by
 go_enter Tryz.func133, Tryz.ntmps133;go_wp2;refine bodyPost_ret (v := .agg #[.int .i64 3, .slice none 0 0, .int .i64 n, .int .i64 0]) (by simp [results, Tryz.results133, go_sem]) rfl ?_;exact ⟨rfl, bl_a _⟩
def e1c : List Value := [.int .i64 1, .int .i64 0, .slice none 0 0, .int .i64 3, .slice none 0 0, .int .i64 1, .int .i64 0, .slice none 0 0]
def repE (k : Nat) : List Value := (List.replicate k ()).flatMap fun _ => e1c
theorem repE_len (k : Nat) : (repE k).length = k * 8 := by
 have := fm_len (fun _ : Unit => e1c) 8 (fun _ => rfl) (List.replicate k ());rw [List.length_replicate] at this;exact this
theorem repE_get (k i c : Nat) (hi : i < k) (hc : c < 8) : (repE k)[i * 8 + c]? = e1c[c]? := fm_get (fun _ : Unit => e1c) 8 (fun _ => rfl) (List.replicate k ()) i c (by rw [List.length_replicate]; exact hi) hc
theorem repE_add (k m : Nat) : repE (k + m) = repE k ++ repE m := by
 unfold repE;rw [← List.replicate_append_replicate, List.flatMap_append]
theorem repE_one (k : Nat) : ∀ u ∈ repE k, u.oneCell' = true := by
 intro u hu;obtain ⟨x, _, hx⟩ := List.mem_flatMap.1 hu;simp only [e1c, List.mem_cons, List.not_mem_nil, or_false] at hx;rcases hx with rfl | rfl | rfl | rfl | rfl | rfl | rfl | rfl <;> rfl
def OwnC (w : World) (B : Nat) (v : Value) (k : Nat) : Prop := w.ownsRow B 42 8 v k (repE k) ∧ ∀ g, v.ownBlock = some g → B ≤ g ∧ g < w.heap.size
theorem OwnC.nil (w : World) (B : Nat) : OwnC w B (.slice none 0 0) 0 := ⟨World.ownsRow_nil _ _ _ _, fun g h => by cases h⟩
theorem OwnC.below (h : OwnC w B v k) (hb : Bl w w') : OwnC w' B v k := by
 obtain ⟨⟨h1, h2⟩, hl⟩ := h;refine ⟨⟨h1, ?_⟩, fun c hc => ⟨(hl c hc).1, Nat.lt_of_lt_of_le (hl c hc).2 hb.size⟩⟩;rcases h2 with h2 | ⟨g', cap', cur, hv, hB, hh, r⟩
 · exact .inl h2
 refine .inr ⟨g', cap', cur, hv, hB, ?_, r⟩;rw [hb.block g' (hl g' (by rw [hv]; rfl)).2];exact hh
theorem OwnC.but (h : OwnC w B v k) (hb : But g w w') (hg : g < B) : OwnC w' B v k := by
 obtain ⟨⟨h1, h2⟩, hl⟩ := h;refine ⟨⟨h1, ?_⟩, fun c hc => ⟨(hl c hc).1, by rw [hb.size]; exact (hl c hc).2⟩⟩
 rcases h2 with h2 | ⟨g', cap', cur, hv, hB, hh, r⟩
 · exact .inl h2
 refine .inr ⟨g', cap', cur, hv, hB, ?_, r⟩;rw [hb.block g' (by omega)];exact hh
theorem OwnC.krow {n cap : Nat} (h : OwnC w B (.slice a n cap) k) (f : Nat → List Value) (hf : ∀ i, f i = e1c) : KRow 0 w 8 a k f ∧ n = k := by
 rcases h.1.2 with ⟨hv, h0⟩ | ⟨g, cap', cur, hv, hB, hh, hle, _, hsz, htk⟩
 · cases hv
   exact ⟨.inl h0, h0.symm⟩
 simp only [Value.slice.injEq] at hv;obtain ⟨rfl, rfl, rfl⟩ := hv;refine ⟨.inr ⟨g, 0, rfl, nZ, (h.2 g rfl).2, fun i hi c u hu => ?_⟩, rfl⟩;rw [hf] at hu;have hc : c < 8 := (List.getElem?_eq_some_iff.1 hu).1;have hu2 : (repE n)[i * 8 + c]? = some u := by rw [repE_get n i c hi hc]; exact hu
 have hj : i * 8 + c < n * 8 := Nat.lt_of_lt_of_le (Nat.add_lt_add_left hc _) (by rw [← Nat.succ_mul]; exact Nat.mul_le_mul_right _ hi);rw [← htk, List.getElem?_take, if_pos hj] at hu2;rw [Nat.zero_add];simp only [World.cell?, hh];simpa using hu2
theorem stepC {ops : Array Oper} {o : Oper} {a : Act} {K : Act → World → Prop} {Q : Exit → Act → World → Prop} {E : Prop} (hgd : o.guard = none) (s x : Operand)
 (ho : o.op = .call { callee := .builtin .append, args := #[s, x], argTypes := #[40, 40] })
 (B : Nat) (v : Value) (k : Nat) (hs : a.eval s = v) (HO : Hd (OwnC w B v k))
 (ad : Addr) (c : Nat) (hx : a.eval x = .slice (some ad) 1 c) (HN : Hd (∀ j u, (repE 1)[j]? = some u → w.cell? (ad.add j) = some u))
 (hle : k ≤ 1000) (hB : B ≤ w.heap.size)
 (h : ∀ g cap w', Hd (OwnC w' B (.slice (some ⟨g, 0, none⟩) (k + 1) cap) (k + 1)) → Hd (w.grownBy w' v.ownBlock) → K (a.put o.dst (.slice (some ⟨g, 0, none⟩) (k + 1) cap)) w') :
 if Region.wanted o (yielded ops a.tmps) = true then Oper.wp Tryz.prog o a w K Q else E := by
 have hinf : (Tryz.prog.info? 42).map (fun i => (i.zero, i.size, i.bytes)) = some (some (.agg zEa), 8, 112) := by kernel_rfl
 obtain ⟨i0, hi0, hzz⟩ := Option.map_eq_some_iff.1 hinf;simp only [Prod.mk.injEq] at hzz;obtain ⟨hi2, hi1, hi3⟩ := hzz;refine step_append_lies _ hgd s x 40 ho B 42 i0 _ 8 112 Tryz.underlying40 hi0 hi2 hi1 hi3 rfl (by omega) v k (repE k) hs HO.o.1 ad 1 c (repE 1) hx (by rw [repE_len]) HN.o (repE_one 1) (by omega) (by unfold maxLen; omega) (by omega) hB _ rfl ?_;intro g cap w' hown hgr hat hlt;have hown' : w'.ownsRow B 42 8 (.slice (some ⟨g, 0, none⟩) (k + 1) cap) (k + 1) (repE (k + 1)) := by
  rw [repE_add];exact hown
 refine h g cap w' ⟨hown', fun g' hg' => ?_⟩ hgr;have : g = g' := by simpa [Value.ownBlock] using hg'
 subst this;rcases hown.2 with ⟨hv, _⟩ | ⟨g0, c0, cur, hv, hb, _⟩
 · cases hv
 cases hv; exact ⟨hb, hlt⟩
theorem news_e1 (w : World) : ∀ j u, (repE 1)[j]? = some u → (w.alloc (.cells #[.int .i64 1, .int .i64 0, .slice none 0 0, .int .i64 3, .slice none 0 0, .int .i64 1, .int .i64 0, .slice none 0 0] 42)).cell? ((⟨w.heap.size, 0, none⟩ : Addr).add j) = some u := by
 intro j u hu;have h : (w.alloc (.cells #[.int .i64 1, .int .i64 0, .slice none 0 0, .int .i64 3, .slice none 0 0, .int .i64 1, .int .i64 0, .slice none 0 0] 42)).heap[w.heap.size]? = some (.cells #[.int .i64 1, .int .i64 0, .slice none 0 0, .int .i64 3, .slice none 0 0, .int .i64 1, .int .i64 0, .slice none 0 0] 42) := by
  show (w.heap.push _)[w.heap.size]? = _;rw [Array.getElem?_push];simp
 refine World.news_of_block h j u ?_;exact hu
theorem CS.low (h : CS w0 w W g L cs) (hw : w0.heap.size ≤ w.heap.size) (hgw : g < w.heap.size) (hf : w.heap.size < fb) (hb : Below fb W W') : CS w0 w W' g L cs :=
 ⟨⟨Nat.lt_of_lt_of_le h.bx.1 hb.size, fun c u hu => (hb.cell (p := ⟨w.heap.size, c, none⟩) hf).trans (h.bx.2 c u hu)⟩, ⟨Nat.lt_of_lt_of_le h.ct.lt hb.size, (hb.cell (p := ⟨g, 0, none⟩) (by show g < fb; omega)).trans h.ct.cell, (hb.frozen (p := ⟨g, 0, none⟩) (by show g < fb; omega)).trans h.ct.fr⟩, ⟨hb.os.trans h.pa.os, hb.tape.trans h.pa.tape, hb.output.trans h.pa.output, Nat.le_trans h.pa.size hb.size, fun b h1 h2 => (hb.block b (by omega)).trans (h.pa.block b h1 h2)⟩, h.bl.trans (hb.mono (by omega))⟩
theorem grown_low (h : w.grownBy w' v.ownBlock) (hv : ∀ g, v.ownBlock = some g → fb ≤ g) (hf : fb ≤ w.heap.size) : Below fb w w' :=
 ⟨h.os, h.tape, h.output, h.size, fun b hb => h.block b (by omega) (fun e => by have := hv b e.symm; omega)⟩
def one : ET := .mk ⟨1, 0, ⟨none, 0, 0, []⟩, ⟨⟨3, none, 0, 0, 1, 0⟩, []⟩, none, 0, 0⟩ (fun _ => .nil)
theorem bs_nil (w : World) : BsF 0 w ⟨none, 0, 0, []⟩ := ⟨⟨rfl, nZ, fun i => by simp, .inl rfl⟩, .inl rfl⟩
theorem one_lies (w : World) : one.lies 0 w := ⟨bs_nil w, bs_nil w, ⟨by decide, by decide, by decide, by decide⟩, by decide, .inl rfl, fun i hi => absurd hi nN⟩
theorem one_ok : eOk 10 one 2 := ⟨by decide, ⟨.inl ⟨.inr (.inl rfl), rfl⟩, fun h => by rcases h with h | h <;> exact absurd h (by decide), fun _ => rfl, fun _ => by decide, fun h => absurd rfl h, ⟨by decide, by decide⟩, fun _ => rfl⟩, fun i hi => absurd hi nN⟩
theorem sum_one (n : Nat) : sumN n (fun _ => esz one) = n := by
 induction n with
 | zero => rfl
 | succ n ih =>
  show sumN n _ + esz one = n + 1;rw [ih];rfl
theorem flat_ok {c : Nat} (h : kOk d.k d.n) : (eOk 10 (.mk ⟨d.k, d.op, d.v, d.t, a, c, d.n⟩ (fun _ => one)) 1 ∧ ((esz (.mk ⟨d.k, d.op, d.v, d.t, a, c, d.n⟩ (fun _ => one)) : Nat) : Int) ≤ 9) ↔ nodeOk d := by
 have hs : esz (.mk ⟨d.k, d.op, d.v, d.t, a, c, d.n⟩ (fun _ => one)) = 1 + d.n := by
  show 1 + sumN d.n (fun _ => esz one) = 1 + d.n;rw [sum_one]
 have hn : d.n ≤ 4 := by unfold kOk at h; omega
 rw [hs];exact ⟨fun hh => hh.1.2.1, fun hh => ⟨⟨by decide, hh, fun i _ => one_ok⟩, by omega⟩⟩
theorem l5fits_any (e : ET) : ∀ (deep L : Int) (g : Nat) (w0 w : World), e.lies 0 w0 → Bl w0 w → w0.heap.size ≤ g → Ctr w g L → 0 ≤ deep → deep ≤ 100000 → 0 ≤ L → L ≤ 100000 →
 Calls Tryz.prog 106 #[.agg e.d.ar, .int .i64 deep, .pointer (some ⟨g, 0, none⟩)] w (CtrAns (eOk 120 e deep) (esz e) g L w) := by
 try unfold EN.ar EN.cl
 induction e with
 | nil => exact fun _ _ _ _ _ h => False.elim h
 | mk d kid ih =>
  intro deep L g w0 w hl hw hg hc hd0 hd1 hL0 hL1;show Calls Tryz.prog 106 #[.agg d.ar, .int .i64 deep, .pointer (some ⟨g, 0, none⟩)] w (CtrAns (eOk 120 (.mk d kid) deep) (esz (.mk d kid)) g L w);obtain ⟨hv, ht, hf, hn, hR, hk⟩ := hl;have hgw : g < w.heap.size := hc.lt;have hsz : w0.heap.size ≤ w.heap.size := hw.size;have HIH : Hd (∀ i, i < d.n → ∀ (L' : Int) (W : World), Bl w0 W → Ctr W g L' → 0 ≤ L' → L' ≤ 100000 → deep ≤ 120 → Cl 106 #[.agg (kid i).d.ar, .int .i64 (deep + 1), .pointer (some ⟨g, 0, none⟩)] W (CtrAns (eOk 120 (kid i) (deep + 1)) (esz (kid i)) g L' W)) := fun i hi L' W hb hc' h0 h1 h10 => ih i (deep + 1) L' g w0 W (hk i hi) hb hg hc' (by omega) (by omega) h0 h1;have HKR : Hd (KRow 0 w0 8 d.ka d.n (fun i => (kid i).d.cells)) := hR;have HFL : Hd (∀ (W : World) (a : Option Addr) (c : Nat) (v9 : Nat), Bl w0 W → KRow 0 W 8 a d.n (fun _ => e1c) → Cl 134 #[.agg (eA d.k d.op d.v d.t (.slice a d.n c)), .int .i64 1, .pointer (some ⟨W.heap.size, 0, none⟩)] (W.alloc (.cells #[.int .i64 9] v9)) (CtrAns (eOk 10 (.mk ⟨d.k, d.op, d.v, d.t, a, c, d.n⟩ (fun _ => one)) 1) (esz (.mk ⟨d.k, d.op, d.v, d.t, a, c, d.n⟩ (fun _ => one))) W.heap.size 9 (W.alloc (.cells #[.int .i64 9] v9)))) := fun W a c v9 hb hk9 => l4expr_any (.mk ⟨d.k, d.op, d.v, d.t, a, c, d.n⟩ (fun _ => one)) 1 9 W.heap.size W (W.alloc (.cells #[.int .i64 9] v9)) ⟨hv.upper (uB hb), ht.upper (uB hb), hf, hn, hk9, fun i _ => one_lies W⟩ (bl_a _) nR ⟨by simp, by simp [go_sem], by simp [go_sem]⟩ (by omega) (by omega) (by omega) (by omega)
  have HCS : Hd (CS w0 w ((w.setCell ⟨g, 0, none⟩ (.int .i64 (L - 1))).alloc (.cells d.ar 42)) g (L - 1) d.cl) := CS.new hw hg hc d.ar 42 (L - 1);have c0 := fun o => ((bl_a (w := w) o).cell (p := ⟨g, 0, none⟩) hgw).trans hc.cell;have f0 := fun o => ((bl_a (w := w) o).frozen (p := ⟨g, 0, none⟩) hgw).trans hc.fr;have hwr : IntKind.i64.wrap (L - 1) = L - 1 := by rw [IntKind.wrap_i64]; omega
  clear hv ht hf hR hk ih hw hc;go_enter Tryz.func106, Tryz.ntmps106;go_upto_region 2 with fail
  generalize (w.setCell _ _).alloc _ = W1 at *;clear c0 f0 hwr;have hW1 : w0.heap.size ≤ W1.heap.size := HCS.o.bl.size;have cg := HCS.o.ct.cell;by_cases hLz : L - 1 < 0
  · have HNO : Hd (¬ (eOk 120 (.mk d kid) deep ∧ ((esz (.mk d kid) : Nat) : Int) ≤ L)) := fun hh => by
     have h := hh.2;have : esz (.mk d kid) = 1 + sumN d.n (fun i => esz (kid i)) := rfl;omega
    go_wp2;go_ret;exact CtrAns.no HNO.o HCS.o.ct HCS.o.pa
  by_cases hdz : deep > 120
  · have HNO : Hd (¬ (eOk 120 (.mk d kid) deep ∧ ((esz (.mk d kid) : Nat) : Int) ≤ L)) := fun hh => by
     have h := hh.1.1;omega
    go_wp2;go_ret;exact CtrAns.no HNO.o HCS.o.ct HCS.o.pa
  have hd10 : deep ≤ 120 := by omega
  have x7 := HCS.o.bx.2 7 _ rfl;have lr : W1.rangeAt w.heap.size 0 d.cl := HCS.o.bx.range 0 _ rfl;go_upto_region 7 with (refine ldn Tryz.underlying42 lr ?_)
  clear x7 cg lr;have HC2 : Hd (CS w0 w (W1.alloc (.cells (eA d.k d.op d.v d.t (.slice none 0 0)) 42)) g (L - 1) d.cl) := HCS.o.below hW1 (bl_a _);have HFB : Hd (OB (W1.alloc (.cells (eA d.k d.op d.v d.t (.slice none 0 0)) 42)) W1.heap.size (eL d.k d.op d.v d.t (.slice none 0 0))) := OB.new W1 (eA d.k d.op d.v d.t (.slice none 0 0)) 42;generalize W1.alloc _ = W2 at *;have hfb : w.heap.size < W1.heap.size := HCS.o.bx.1;obtain ⟨fb, hfbe⟩ : ∃ fb, fb = W1.heap.size := ⟨_, rfl⟩;rw [← hfbe] at HFB hfb ⊢;have hw0f : w0.heap.size ≤ fb := by rw [hfbe]; exact hW1
  clear hfbe hW1 HCS;have lr : W2.rangeAt w.heap.size 0 d.cl := HC2.o.bx.range 0 _ rfl;have KD : Calls Tryz.prog 132 #[.agg d.ar] W2 fun e w' => e = .returned (.int .i64 (kidsN d.k d.n)) ∧ Bl W2 w' := (l4kids_any d W2).mono fun e w' ⟨h1, o, h2⟩ => ⟨h1, by rw [h2]; exact bl_a _⟩
  obtain ⟨kn, hkn⟩ : ∃ kn, kn = kidsN d.k d.n := ⟨_, rfl⟩;have HKN : Hd (kn = d.n ↔ kOk d.k d.n) := (show (kn = d.n ↔ kOk d.k d.n) by rw [hkn]; exact kidsN_ok d.k d.n);rw [← hkn] at KD;clear hkn;go_wp2_with (refine ldn Tryz.underlying42 lr ?_)
  refine KD.mono ?_;rintro e W3 ⟨rfl, hb3⟩;have hW2s : w0.heap.size ≤ W2.heap.size := HC2.o.bl.size;have HC3 : Hd (CS w0 w W3 g (L - 1) d.cl) := HC2.o.below hW2s hb3;have HF3 : Hd (OB W3 fb (eL d.k d.op d.v d.t (.slice none 0 0))) := HFB.o.below hb3;clear KD lr hb3 HC2 HFB;by_cases hkk : kn = d.n;rotate_left
  · have hkb : (kn != (d.n : Int)) = true := by simp [hkk]
    have hkc : (kn == (d.n : Int)) = false := by simp [hkk]
    have HNO : Hd (¬ (eOk 120 (.mk d kid) deep ∧ ((esz (.mk d kid) : Nat) : Int) ≤ L)) := eOk_no fun hh => hkk (HKN.o.2 hh.1);clear hkk;go_wp2;go_ret;exact CtrAns.no HNO.o HC3.o.ct HC3.o.pa
  have HKO : Hd (kOk d.k d.n) := HKN.o.1 hkk;subst hkk;clear HKN;have hn4 : d.n ≤ 4 := (show d.n ≤ 4 by have h := HKO.o; unfold kOk at h; omega);go_wp2_with fail
  go_loopw [10] (fun i wr => ∃ (k : Nat) (v : Value), k ≤ d.n ∧ i = .int .i64 k ∧ Hd (OwnC wr (fb + 1) v k) ∧ Hd (OB wr fb [.int .i64 d.k, .int .i64 d.op, .slice d.v.a d.v.len d.v.cap, .int .i64 d.t.t.k, .slice d.t.t.a d.t.t.len d.t.t.cap, .int .i64 d.t.t.n, .int .i64 d.t.t.s, v]) ∧ Hd (CS w0 w wr g (L - 1) [.int .i64 d.k, .int .i64 d.op, .slice d.v.a d.v.len d.v.cap, .int .i64 d.t.t.k, .slice d.t.t.a d.t.t.len d.t.t.cap, .int .i64 d.t.t.n, .int .i64 d.t.t.s, .slice d.ka d.n d.kc])) (fun i _ => d.n - (intOf i).toNat)
  case atStart => exact ⟨0, _, nZ, rfl, OwnC.nil _ _, HF3, HC3⟩
  clear HC3 HF3;obtain ⟨k, v, hk, rfl, HOr, HFr, HCr⟩ := hrel;by_cases hlk : k < d.n
  · have hlkz : (k : Int) < (d.n : Int) := by omega
    have I1 := l1int_any 1 wr.drew;have d1 : wr.drew.cell? ⟨fb, 7, none⟩ = some v := ((HFr.o.below bdr).2 7 _ rfl).1;go_wp2_with fail
    refine wp_region_held_drew (S := fun _ => True) (by kernel_rfl) trivial (fun hHeld => ?_)
    refine tkB 0 42 ?_;refine wpAnyH_ready (rs := [1, 2]) (by kernel_rfl) (by simp) ?_;refine AllReadyH.cons rfl (fun K hK => ?_) (AllReadyH.cons rfl (fun K hK => ?_) AllReadyH.nil)
    · go_simp
      refine rhK hK trivial fun hHeld => ?_;clear hK K;refine rdA 2 fun K hK => ?_;go_simp;refine I1.mono ?_;rintro e w5 ⟨rfl, hb5⟩;have HB5 : Hd (Bl wr w5) := bdr.trans hb5;clear hb5;have l5 : w5.cell? ⟨fb, 7, none⟩ = some v := ((HFr.o.below HB5.o).2 7 _ rfl).1;have l6 : (w5.alloc (.cells #[.int .i64 1, .int .i64 0, .slice none 0 0, .int .i64 3, .slice none 0 0, .int .i64 1, .int .i64 0, .slice none 0 0] 42)).cell? ⟨fb, 7, none⟩ = some v := (((HFr.o.below HB5.o).below (bl_a _)).2 7 _ rfl).1;have HOa : Hd (OwnC (w5.alloc (.cells #[.int .i64 1, .int .i64 0, .slice none 0 0, .int .i64 3, .slice none 0 0, .int .i64 1, .int .i64 0, .slice none 0 0] 42)) (fb + 1) v k) := (HOr.o.below HB5.o).below (bl_a _);have HNa : Hd (∀ j u, (repE 1)[j]? = some u → (w5.alloc (.cells #[.int .i64 1, .int .i64 0, .slice none 0 0, .int .i64 3, .slice none 0 0, .int .i64 1, .int .i64 0, .slice none 0 0] 42)).cell? ((⟨w5.heap.size, 0, none⟩ : Addr).add j) = some u) := news_e1 w5;have hBa : fb + 1 ≤ (w5.alloc (.cells #[.int .i64 1, .int .i64 0, .slice none 0 0, .int .i64 3, .slice none 0 0, .int .i64 1, .int .i64 0, .slice none 0 0] 42)).heap.size := Nat.le_trans HFr.o.1 (Nat.le_trans HB5.o.size (bl_a (w := w5) _).size);have HAP : Hd (∀ w9 g9 c9, Hd (OwnC w9 (fb + 1) (.slice (some ⟨g9, 0, none⟩) (k + 1) c9) (k + 1)) → Hd ((w5.alloc (.cells #[.int .i64 1, .int .i64 0, .slice none 0 0, .int .i64 3, .slice none 0 0, .int .i64 1, .int .i64 0, .slice none 0 0] 42)).grownBy w9 v.ownBlock) → w9.cell? ⟨fb, 7, none⟩ = some v ∧ w9.frozen? ⟨fb, 7, none⟩ = false ∧ Hd (OwnC (w9.setCell ⟨fb, 7, none⟩ (.slice (some ⟨g9, 0, none⟩) (k + 1) c9)) (fb + 1) (.slice (some ⟨g9, 0, none⟩) (k + 1) c9) (k + 1)) ∧ Hd (OB (w9.setCell ⟨fb, 7, none⟩ (.slice (some ⟨g9, 0, none⟩) (k + 1) c9)) fb (eL d.k d.op d.v d.t (.slice (some ⟨g9, 0, none⟩) (k + 1) c9))) ∧ Hd (CS w0 w (w9.setCell ⟨fb, 7, none⟩ (.slice (some ⟨g9, 0, none⟩) (k + 1) c9)) g (L - 1) d.cl)) := by
       intro w9 g9 c9 HO9 HG9;have hs6 : fb + 1 ≤ (w5.alloc (.cells #[.int .i64 1, .int .i64 0, .slice none 0 0, .int .i64 3, .slice none 0 0, .int .i64 1, .int .i64 0, .slice none 0 0] 42)).heap.size := hBa;have hb9 : Below (fb + 1) (w5.alloc (.cells #[.int .i64 1, .int .i64 0, .slice none 0 0, .int .i64 3, .slice none 0 0, .int .i64 1, .int .i64 0, .slice none 0 0] 42)) w9 := grown_low HG9.o (fun g hg => (HOa.o.2 g hg).1) hs6;have hob : OB (w5.alloc (.cells #[.int .i64 1, .int .i64 0, .slice none 0 0, .int .i64 3, .slice none 0 0, .int .i64 1, .int .i64 0, .slice none 0 0] 42)) fb (eL d.k d.op d.v d.t (v)) := (HFr.o.below HB5.o).below (bl_a _);have hob9 : OB w9 fb (eL d.k d.op d.v d.t (v)) := ⟨Nat.lt_of_lt_of_le hob.1 hb9.size, fun c u hu => ⟨(hb9.cell (p := ⟨fb, c, none⟩) (Nat.lt_succ_self _)).trans (hob.2 c u hu).1, (hb9.frozen (p := ⟨fb, c, none⟩) (Nat.lt_succ_self _)).trans (hob.2 c u hu).2⟩⟩;have hbt : But fb w9 (w9.setCell ⟨fb, 7, none⟩ (.slice (some ⟨g9, 0, none⟩) (k + 1) c9)) := (But.refl _ _).set 7 _;refine ⟨(hob9.2 7 _ rfl).1, (hob9.2 7 _ rfl).2, HO9.o.but hbt (Nat.lt_succ_self _), hob9.set 7 _, ?_⟩;have hcs : CS w0 w (w5.alloc (.cells #[.int .i64 1, .int .i64 0, .slice none 0 0, .int .i64 3, .slice none 0 0, .int .i64 1, .int .i64 0, .slice none 0 0] 42)) g (L - 1) d.cl := HCr.o.below (by have := HCr.o.bl.size; exact this) (bl_trans HB5.o (bl_a _));exact hcs.low hsz hgw hfb ((hb9.mono (Nat.le_succ _)).trans (hbt.below nR))
      go_wp2_with fail
      refine hK.out _ _ trivial (fun hHeld => ?_)
      clear hK K;refine tkB 3 45 ?_;refine rdA 4 fun K hK => ?_;go_simp;refine rhK hK trivial fun hHeld => ?_;clear hK K;refine rdA 5 fun K hK => ?_;refine stepC rfl (.tmp 43) (.tmp 46) rfl (fb + 1) v k rfl HOa ⟨w5.heap.size, 0, none⟩ 1 rfl HNa (by omega) hBa ?_;intro g9 c9 w9 HO9 HG9;have HZ := HAP.o w9 g9 c9 HO9 HG9;have z0 := HZ.1;have z1 := HZ.2.1;refine hK.out _ _ trivial (fun hHeld => ?_)
      clear hK K;try simp only [Act.put, List.setIfInBounds_toArray]
      refine tkB 6 48 ?_;refine rdA 7 fun K hK => ?_;go_simp;refine rhK hK trivial fun hHeld => ?_;clear hK K;refine wpAnyH_done (by kernel_rfl) ?_ _;have HN1 := HZ.2.2.1;have HN2 := HZ.2.2.2.1;have HN3 := HZ.2.2.2.2;clear HZ z0 z1 hHeld;generalize w9.setCell _ _ = wz at *;go_wp2;go_roundw
      case rel => exact ⟨k + 1, _, by omega, by go_num, HN1, HN2, HN3⟩
      case measure => simp [intOf]; omega
    go_simp;refine I1.mono ?_;rintro e w5 ⟨rfl, hb5⟩;have HB5 : Hd (Bl wr w5) := bdr.trans hb5;clear hb5;have l5 : w5.cell? ⟨fb, 7, none⟩ = some v := ((HFr.o.below HB5.o).2 7 _ rfl).1;have l6 : (w5.alloc (.cells #[.int .i64 1, .int .i64 0, .slice none 0 0, .int .i64 3, .slice none 0 0, .int .i64 1, .int .i64 0, .slice none 0 0] 42)).cell? ⟨fb, 7, none⟩ = some v := (((HFr.o.below HB5.o).below (bl_a _)).2 7 _ rfl).1;have HOa : Hd (OwnC (w5.alloc (.cells #[.int .i64 1, .int .i64 0, .slice none 0 0, .int .i64 3, .slice none 0 0, .int .i64 1, .int .i64 0, .slice none 0 0] 42)) (fb + 1) v k) := (HOr.o.below HB5.o).below (bl_a _);have HNa : Hd (∀ j u, (repE 1)[j]? = some u → (w5.alloc (.cells #[.int .i64 1, .int .i64 0, .slice none 0 0, .int .i64 3, .slice none 0 0, .int .i64 1, .int .i64 0, .slice none 0 0] 42)).cell? ((⟨w5.heap.size, 0, none⟩ : Addr).add j) = some u) := news_e1 w5;have hBa : fb + 1 ≤ (w5.alloc (.cells #[.int .i64 1, .int .i64 0, .slice none 0 0, .int .i64 3, .slice none 0 0, .int .i64 1, .int .i64 0, .slice none 0 0] 42)).heap.size := Nat.le_trans HFr.o.1 (Nat.le_trans HB5.o.size (bl_a (w := w5) _).size);have HAP : Hd (∀ w9 g9 c9, Hd (OwnC w9 (fb + 1) (.slice (some ⟨g9, 0, none⟩) (k + 1) c9) (k + 1)) → Hd ((w5.alloc (.cells #[.int .i64 1, .int .i64 0, .slice none 0 0, .int .i64 3, .slice none 0 0, .int .i64 1, .int .i64 0, .slice none 0 0] 42)).grownBy w9 v.ownBlock) → w9.cell? ⟨fb, 7, none⟩ = some v ∧ w9.frozen? ⟨fb, 7, none⟩ = false ∧ Hd (OwnC (w9.setCell ⟨fb, 7, none⟩ (.slice (some ⟨g9, 0, none⟩) (k + 1) c9)) (fb + 1) (.slice (some ⟨g9, 0, none⟩) (k + 1) c9) (k + 1)) ∧ Hd (OB (w9.setCell ⟨fb, 7, none⟩ (.slice (some ⟨g9, 0, none⟩) (k + 1) c9)) fb (eL d.k d.op d.v d.t (.slice (some ⟨g9, 0, none⟩) (k + 1) c9))) ∧ Hd (CS w0 w (w9.setCell ⟨fb, 7, none⟩ (.slice (some ⟨g9, 0, none⟩) (k + 1) c9)) g (L - 1) d.cl)) := by
     intro w9 g9 c9 HO9 HG9;have hs6 : fb + 1 ≤ (w5.alloc (.cells #[.int .i64 1, .int .i64 0, .slice none 0 0, .int .i64 3, .slice none 0 0, .int .i64 1, .int .i64 0, .slice none 0 0] 42)).heap.size := hBa;have hb9 : Below (fb + 1) (w5.alloc (.cells #[.int .i64 1, .int .i64 0, .slice none 0 0, .int .i64 3, .slice none 0 0, .int .i64 1, .int .i64 0, .slice none 0 0] 42)) w9 := grown_low HG9.o (fun g hg => (HOa.o.2 g hg).1) hs6;have hob : OB (w5.alloc (.cells #[.int .i64 1, .int .i64 0, .slice none 0 0, .int .i64 3, .slice none 0 0, .int .i64 1, .int .i64 0, .slice none 0 0] 42)) fb (eL d.k d.op d.v d.t (v)) := (HFr.o.below HB5.o).below (bl_a _);have hob9 : OB w9 fb (eL d.k d.op d.v d.t (v)) := ⟨Nat.lt_of_lt_of_le hob.1 hb9.size, fun c u hu => ⟨(hb9.cell (p := ⟨fb, c, none⟩) (Nat.lt_succ_self _)).trans (hob.2 c u hu).1, (hb9.frozen (p := ⟨fb, c, none⟩) (Nat.lt_succ_self _)).trans (hob.2 c u hu).2⟩⟩;have hbt : But fb w9 (w9.setCell ⟨fb, 7, none⟩ (.slice (some ⟨g9, 0, none⟩) (k + 1) c9)) := (But.refl _ _).set 7 _;refine ⟨(hob9.2 7 _ rfl).1, (hob9.2 7 _ rfl).2, HO9.o.but hbt (Nat.lt_succ_self _), hob9.set 7 _, ?_⟩;have hcs : CS w0 w (w5.alloc (.cells #[.int .i64 1, .int .i64 0, .slice none 0 0, .int .i64 3, .slice none 0 0, .int .i64 1, .int .i64 0, .slice none 0 0] 42)) g (L - 1) d.cl := HCr.o.below (by have := HCr.o.bl.size; exact this) (bl_trans HB5.o (bl_a _));exact hcs.low hsz hgw hfb ((hb9.mono (Nat.le_succ _)).trans (hbt.below nR))
    go_wp2_with fail
    refine hK.out _ _ trivial (fun hHeld => ?_)
    clear hK K;refine tkB 3 45 ?_;refine wpAnyH_ready (rs := [1, 4]) (by kernel_rfl) (by simp) ?_;refine AllReadyH.cons rfl (fun K hK => ?_) (AllReadyH.cons rfl (fun K hK => ?_) AllReadyH.nil)
    · go_simp
      refine rhK hK trivial fun hHeld => ?_;clear hK K;refine rdA 4 fun K hK => ?_;go_simp;refine rhK hK trivial fun hHeld => ?_;clear hK K;refine rdA 5 fun K hK => ?_;refine stepC rfl (.tmp 43) (.tmp 46) rfl (fb + 1) v k rfl HOa ⟨w5.heap.size, 0, none⟩ 1 rfl HNa (by omega) hBa ?_;intro g9 c9 w9 HO9 HG9;have HZ := HAP.o w9 g9 c9 HO9 HG9;have z0 := HZ.1;have z1 := HZ.2.1;refine hK.out _ _ trivial (fun hHeld => ?_)
      clear hK K;try simp only [Act.put, List.setIfInBounds_toArray]
      refine tkB 6 48 ?_;refine rdA 7 fun K hK => ?_;go_simp;refine rhK hK trivial fun hHeld => ?_;clear hK K;refine wpAnyH_done (by kernel_rfl) ?_ _;have HN1 := HZ.2.2.1;have HN2 := HZ.2.2.2.1;have HN3 := HZ.2.2.2.2;clear HZ z0 z1 hHeld;generalize w9.setCell _ _ = wz at *;go_wp2;go_roundw
      case rel => exact ⟨k + 1, _, by omega, by go_num, HN1, HN2, HN3⟩
      case measure => simp [intOf]; omega
    go_simp;refine rhK hK trivial fun hHeld => ?_;clear hK K;refine rdA 1 fun K hK => ?_;go_simp;refine rhK hK trivial fun hHeld => ?_;clear hK K;refine rdA 5 fun K hK => ?_;refine stepC rfl (.tmp 43) (.tmp 46) rfl (fb + 1) v k rfl HOa ⟨w5.heap.size, 0, none⟩ 1 rfl HNa (by omega) hBa ?_;intro g9 c9 w9 HO9 HG9;have HZ := HAP.o w9 g9 c9 HO9 HG9;have z0 := HZ.1;have z1 := HZ.2.1;refine hK.out _ _ trivial (fun hHeld => ?_)
    clear hK K;try simp only [Act.put, List.setIfInBounds_toArray]
    refine tkB 6 48 ?_;refine rdA 7 fun K hK => ?_;go_simp;refine rhK hK trivial fun hHeld => ?_;clear hK K;refine wpAnyH_done (by kernel_rfl) ?_ _;have HN1 := HZ.2.2.1;have HN2 := HZ.2.2.2.1;have HN3 := HZ.2.2.2.2;clear HZ z0 z1 hHeld;generalize w9.setCell _ _ = wz at *;go_wp2;go_roundw
    case rel => exact ⟨k + 1, _, by omega, by go_num, HN1, HN2, HN3⟩
    case measure => simp [intOf]; omega
  obtain rfl : k = d.n := by omega
  have hlkz : ¬ (d.n : Int) < (d.n : Int) := by omega
  obtain ⟨a9, n9, c9, rfl⟩ : ∃ a9 n9 c9, v = .slice a9 n9 c9 := by
   rcases HOr.o.1.2 with ⟨hv, _⟩ | ⟨g', cap', cur, hv, _⟩
   · exact ⟨_, _, _, hv⟩
   exact ⟨_, _, _, hv⟩
  obtain ⟨hkr, hnk⟩ := HOr.o.krow (fun _ => e1c) (fun _ => rfl);subst hnk;have FL := HFL.o wr a9 c9 3 HCr.o.bl hkr;have HFO : Hd ((eOk 10 (.mk ⟨d.k, d.op, d.v, d.t, a9, c9, d.n⟩ (fun _ => one)) 1 ∧ ((esz (.mk ⟨d.k, d.op, d.v, d.t, a9, c9, d.n⟩ (fun _ => one)) : Nat) : Int) ≤ 9) ↔ nodeOk d) := flat_ok HKO.o;have lf : ∀ o, (wr.alloc o).rangeAt fb 0 (eL d.k d.op d.v d.t (.slice a9 d.n c9)) := fun o => (HFr.o.below (bl_a o)).box.range 0 _ rfl;clear hkr;go_wp2_with (refine ldn Tryz.underlying42 (lf _) ?_)
  refine FL.mono ?_;rintro e w5 ⟨q5, L5, rfl, hq5, _, _, hp5⟩;have HQ : Hd (q5 = true ↔ nodeOk d) := (show (q5 = true ↔ nodeOk d) from hq5.trans HFO.o);have hb5 : Bl wr w5 := (bl_a _).trans (hp5.below nR (by simp));have hwrs : w0.heap.size ≤ wr.heap.size := HCr.o.bl.size;have HC5 : Hd (CS w0 w w5 g (L - 1) d.cl) := HCr.o.below hwrs hb5;clear FL lf hq5 hp5 hb5 HFO HCr HFr HOr;cases q5
  · have HNO : Hd (¬ nodeOk d) := fun hh => by have h := HQ.o.2 hh; cases h
    clear HQ;go_wp2;go_ret;exact CtrAns.no (eOk_no HNO.o) HC5.o.ct HC5.o.pa
  have HNODE : Hd (nodeOk d) := HQ.o.1 rfl;clear HQ;obtain ⟨n, hnn⟩ : ∃ n, n = d.n := ⟨_, rfl⟩;have HNN : Hd (n = d.n) := hnn;by_cases hn0 : d.n = 0
  · have hnz : ¬ (0 : Int) < (d.n : Int) := by omega
    have HN0 : Hd (d.n = 0) := hn0;clear hn0 hnn;go_wp2_with fail
    refine wl1 ?_;go_wp2;go_ret;have h : esz (.mk d kid) = 1 + sumN d.n (fun i => esz (kid i)) := rfl;rw [HN0.o] at h;have h2 : sumN 0 (fun i => esz (kid i)) = 0 := rfl;exact CtrAns.yes ⟨hd10, HNODE.o, fun i hi => absurd hi (by rw [HN0.o]; exact nN)⟩ (by omega) (by omega) HC5.o.ct HC5.o.pa
  obtain ⟨b, off, eK, _, hbk, hck⟩ := HKR.o.resolve_left hn0;have HCK : Hd (∀ i, i < d.n → ∀ c u, ((kid i).d.cells)[c]? = some u → w0.cell? ⟨b, off + i * 8 + c, none⟩ = some u) := hck;have hbk' : b < w0.heap.size := hbk;have HEK : Hd (d.ka = some ⟨b, off, none⟩) := eK;clear hck hbk hn0 hnn;rw [eK];clear eK;go_wp2_with fail
  go_loopw [12] (fun i wr => ∃ (k : Nat) (Lr : Int), k ≤ d.n ∧ i = .int .i64 k ∧ 0 ≤ Lr ∧ Lr ≤ 100000 ∧ Hd (Lr = L - 1 - (sumN k (fun i => esz (kid i)) : Nat)) ∧ Hd (∀ j, j < k → eOk 120 (kid j) (deep + 1)) ∧ Hd (CS w0 w wr g Lr [.int .i64 d.k, .int .i64 d.op, .slice d.v.a d.v.len d.v.cap, .int .i64 d.t.t.k, .slice d.t.t.a d.t.t.len d.t.t.cap, .int .i64 d.t.t.n, .int .i64 d.t.t.s, .slice d.ka d.n d.kc])) (fun i _ => d.n - (intOf i).toNat)
  case atStart => exact ⟨0, L - 1, nZ, rfl, by omega, by omega, (show L - 1 = L - 1 - ((0 : Nat) : Int) by omega), fun j hj => absurd hj nN, HC5⟩
  clear HC5;obtain ⟨k, Lr, hk, rfl, hLr0, hLr1, HLR, HOKS, HCr⟩ := hrel;by_cases hlk : k < d.n
  · have hlkz : (k : Int) < (d.n : Int) := by omega
    have hcx : wr.rangeAt b (off + k * 8) (kid k).d.cl := fun c u hu => (HCr.o.bl.cell (p := ⟨b, off + k * 8 + c, none⟩) hbk').trans (HCK.o k hlk c u hu);have Z := HIH.o k hlk Lr wr HCr.o.bl HCr.o.ct hLr0 hLr1 hd10;have hdw : IntKind.i64.wrap (deep + 1) = deep + 1 := by rw [IntKind.wrap_i64]; omega
    go_wp2_with (refine wpList_load_mid rfl 42 _ rfl b (off + k * 8) rfl (kid k).d.cl _ hcx Tryz.underlying42 rfl (by kernel_rfl) ?_; try simp only [Act.put, sA, zA, cA])
    refine Z.mono ?_;rintro e w5 ⟨q5, L5, rfl, hq5, hL5, hc5, hp5⟩;have HC5 : Hd (CS w0 w w5 g L5 d.cl) := HCr.o.past hg hgw hp5 hc5;clear Z hcx hc5 hp5 HCr hdw;have HS : Hd (sumN (k + 1) (fun i => esz (kid i)) = sumN k (fun i => esz (kid i)) + esz (kid k)) := rfl;cases q5
    · have HNO : Hd (¬ (eOk 120 (.mk d kid) deep ∧ ((esz (.mk d kid) : Nat) : Int) ≤ L)) := fun hh => by
       have h1 := hh.1.2.2 k hlk;have h2 : esz (.mk d kid) = 1 + sumN d.n (fun i => esz (kid i)) := rfl;have h3 := sumN_mono (f := fun i => esz (kid i)) (show k + 1 ≤ d.n by omega);have h4 := HLR.o;have h5 := HS.o;have h6 := hh.2;have h7 := hq5.2 ⟨h1, by omega⟩
       cases h7
      clear hq5 hL5;go_wp2;go_ret;exact CtrAns.no HNO.o HC5.o.ct HC5.o.pa
    obtain ⟨h51, h52⟩ := hq5.1 rfl;have h53 := hL5 rfl;have HN5 : Hd (eOk 120 (kid k) (deep + 1)) := h51;have HL5 : Hd (L5 = L - 1 - (sumN (k + 1) (fun i => esz (kid i)) : Nat)) := (show L5 = _ by have h1 := HS.o; have h2 := HLR.o; omega);have hL50 : 0 ≤ L5 := by omega
    have hL51 : L5 ≤ 100000 := by omega
    clear h51 h52 h53 hq5 hL5;go_wp2;go_roundw
    case rel =>
     refine ⟨k + 1, L5, by omega, by go_num, hL50, hL51, HL5, fun j hj => ?_, HC5⟩
     by_cases e : j = k
     · subst e
       exact HN5.o
     exact HOKS.o j (by omega)
    case measure => simp [intOf]; omega
  obtain rfl : k = d.n := by omega
  have hlkz : ¬ (d.n : Int) < (d.n : Int) := by omega
  go_wp2;go_ret;have h2 : esz (.mk d kid) = 1 + sumN d.n (fun i => esz (kid i)) := rfl;have h4 := HLR.o;exact CtrAns.yes ⟨hd10, HNODE.o, fun i hi => HOKS.o i hi⟩ (by omega) (by omega) HCr.o.ct HCr.o.pa
def hasE (k : Int) : Prop := k = 2 ∨ k = 5 ∨ k = 6
def hasV (k : Int) : Prop := k = 6 ∨ k = 7
def kidsA (k : Int) : Nat := if k = 0 ∨ k = 7 then 0 else if k = 5 ∨ k = 6 then 1 else 2
structure NodeA (d : AN) : Prop where
 k0 : 0 ≤ d.k
 k7 : d.k ≤ 7
 n : d.n = kidsA d.k
 p0 : d.k ≠ 0 → d.pn = 0
 pn : d.pn ≤ 120
 t0 : d.k ≠ 7 → d.tb = []
 tn : d.tb.length ≤ 8
 e1 : hasE d.k → eOk 120 d.e 1
 e0 : ¬ hasE d.k → zeroE d.e
 v1 : hasV d.k → nameOk d.v.b = true
 v0 : ¬ hasV d.k → d.v.b = []
 pt : ∀ i, i < d.pn → ptOk (d.pat i)
 tm : ∀ x ∈ d.tb, x.td.ok = true
def ownA (d : AN) : Nat := 1 + (if d.k = 2 ∨ d.k = 5 ∨ d.k = 6 then esz d.e else 0) + d.pn
def aOk : AT → Int → Prop
 | .nil, _ => False
 | .mk d kid, deep => deep ≤ 240 ∧ NodeA d ∧ ∀ i, i < d.n → aOk (kid i) (deep + 1)
def asz : AT → Nat
 | .nil => 0
 | .mk d kid => ownA d + sumN d.n (fun i => asz (kid i))
theorem aOk_no {d : AN} {kid : Nat → AT} (h : ¬ NodeA d) : ¬ (aOk (.mk d kid) deep ∧ (s : Int) ≤ L) := fun hh => h hh.1.2.1
theorem tb_nil {l : List TB} : l = [] ↔ l.length = 0 := List.length_eq_zero_iff.symm
end Go.Proofs.YtoloadogihbdeaaGreat
