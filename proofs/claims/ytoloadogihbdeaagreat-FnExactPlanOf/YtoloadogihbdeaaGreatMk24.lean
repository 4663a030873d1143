import Derived.Test.YtoloadogihbdeaaGreatMk23
namespace Go.Proofs.YtoloadogihbdeaaGreat
open Go.RowKit Go.Deep
set_option maxHeartbeats 40000000
set_option maxRecDepth 100000
theorem filt_not (n : Nat) (d : EN) (kid : Nat → ET) (da : AN) (kida : Nat → AT) (cs : List Int) (g : Nat) (w0 w : World) (hPA : PA n) (hQA : QA n) (hb : Bl w0 w) (h0 : w0.heap.size ≤ g) (he : (ET.mk d kid).lies 0 w0) (ha : (AT.mk da kida).hung w0 g w) (hwe : WE (ET.mk d kid)) (hwa : WA (AT.mk da kida)) (hez : esz (ET.mk d kid) ≤ NN) (hfa : FA NN (AT.mk da kida)) (hac : da.k = 5 ∨ ac (AT.mk da kida) ≤ NN) (hm : mA (filterA (ET.mk d kid) (AT.mk da kida)) ≤ n + 1) (hc : CM w0.heap.size w g cs) (hand : (pick cs 2).1 = 1 → ¬ (d.k = 2 ∧ d.op = 6)) :
 Calls Tryz.prog 73 #[.agg d.ar, .agg da.ar, .pointer (some ⟨g, 0, none⟩)] w (ResP w0 w g (CM w0.heap.size) (planF (n + 1) (filterA (ET.mk d kid) (AT.mk da kida)) cs)) := by
 try unfold AN.ar AN.cl
 try unfold EN.ar EN.cl
 have HAND := iH hand;clear hand;have HPA := iH hPA;have HQA := iH hQA;have HBW := iH hb;have HG0 := iH h0;have HE0 := iH he;have HA0 := iH ha;have HWE := iH hwe;have HWA := iH hwa;have HEZ := iH hez;have HFA := iH hfa;have HAC := iH hac;have HM := iH hm;have hgw : g < w.heap.size := by obtain ⟨⟨_, _, _, _, h, _⟩, _⟩ := hc; exact h.1
 have hw0 : w0.heap.size ≤ w.heap.size := hb.size;have HF : Hd (FB w g d.cl da.cl (((w.alloc (.cells d.ar 42)).alloc (.cells da.ar 52)).alloc (.cells zNa 46))) := ⟨⟨Past.of_below (bl_alloc (bl_alloc (bl_a _) _) _), (show Box _ _ _ by exact ((Box.new w d.ar 42 (0, 0)).below (bl_a _)).below (bl_a _)), (show Box _ _ _ by have h := (Box.new (w.alloc (.cells d.ar 42)) da.ar 52 (0, 0)).below (bl_a (.cells zNa 46)); simpa using h), (show _ ≤ _ by simp), hgw⟩, (show OB _ _ _ by have h := OB.new ((w.alloc (.cells d.ar 42)).alloc (.cells da.ar 52)) zNa 46; simpa using h)⟩;have HC := iH (hc.below (bl_alloc (bl_alloc (bl_a (w := w) (.cells d.ar 42)) (.cells da.ar 52)) (.cells zNa 46)));clear hPA hQA hb h0 he ha hwe hwa hez hfa hac hm hc;go_in;go_upto_region 1 with fail
 generalize (((w.alloc _).alloc _).alloc _) = W1 at *;have A := l7pick_any g 2 cs W1 HC.o (by omega);go_wp2_with fail
 refine A.mono ?_;rintro r w1 ⟨kk, rfl, hk, hcm, hp⟩;replace HF := iH (HF.o.past hp);replace HC := iH hcm;obtain ⟨k1, hk1⟩ : ∃ k1 : Nat, k1 = (pick cs 2).1 := ⟨_, rfl⟩;obtain rfl : kk = (k1 : Int) := by rw [hk.o, hk1]
 have HK1 := iH hk1;clear A hcm hk hk1 hp;go_upto_region 2 with fail
 obtain ⟨lb, hlb⟩ : ∃ lb : Bool, lb = ((k1 : Int) == 1) := ⟨_, rfl⟩;rw [← hlb];have HLB : Hd (TQ lb (k1 = 1)) := (show _ ↔ _ by rw [hlb]; simp; omega);clear hlb;go_cut [23] from 13 to 23 (fun v wx => v = .bool false ∧ w1 = wx)
 case first =>
  have e0 := HF.o.f.e.2 0 _ rfl;have e1 := HF.o.f.e.2 1 _ rfl;cases lb with
  | true =>
   have h9 : ¬ (d.k = 2 ∧ d.op = 6) := HAND.o (by rw [← HK1.o]; exact HLB.o.yes);by_cases h2 : d.k = 2
   · have h3 : (d.op == 6) = false := by simpa using fun h => h9 ⟨h2, h⟩
     rw [h2] at e0;clear h2 h9;go_wp2_with fail
     go_meet;exact ⟨rfl, rfl⟩
   have h3 : (d.k == 2) = false := by simpa using h2
   clear h2 h9;go_wp2_with fail
   go_meet;exact ⟨rfl, rfl⟩
  | false =>
   go_wp2_with fail
   go_meet;exact ⟨rfl, rfl⟩
 obtain ⟨rfl, hwc⟩ := hcut;subst hwc;go_upto_region 4 with fail
 go_cut [60] from 37 to 60 (fun v wx => ∃ q : Bool, v = .bool q ∧ Hd (FB w g [.int .i64 d.k, .int .i64 d.op, .slice d.v.a d.v.len d.v.cap, .int .i64 d.t.t.k, .slice d.t.t.a d.t.t.len d.t.t.cap, .int .i64 d.t.t.n, .int .i64 d.t.t.s, .slice d.ka d.n d.kc] [.int .i64 da.k, .slice da.pa da.pn da.pc, .int .i64 da.e.d.k, .int .i64 da.e.d.op, .slice da.e.d.v.a da.e.d.v.len da.e.d.v.cap, .int .i64 da.e.d.t.t.k, .slice da.e.d.t.t.a da.e.d.t.t.len da.e.d.t.t.cap, .int .i64 da.e.d.t.t.n, .int .i64 da.e.d.t.t.s, .slice da.e.d.ka da.e.d.n da.e.d.kc, .slice da.v.a da.v.len da.v.cap, .slice da.ta da.tb.length da.tc, .slice da.ka da.n da.kc] wx) ∧ Hd (CM w0.heap.size wx g (pick cs 2).2) ∧ Hd (TQ q ((k1 = 1 ∧ (da.k = 1 ∨ da.k = 2 ∨ da.k = 4)) ∧ ((eV (ET.mk d kid) []).all fun v => sureB v (kida 0)) = true)))
 case first =>
  cases lb with
  | true =>
   by_cases hk : da.k = 1 ∨ da.k = 2 ∨ da.k = 4
   · rcases hk with hkk | hkk | hkk
     all_goals
      have HK0 := iH hkk;have HKC : Hd (da.k = 1 ∨ da.k = 2 ∨ da.k = 4) := (show _ ∨ _ ∨ _ by omega);clear hkk;obtain ⟨ba, oa, HN2, HKK, HB0, HB1, hnz, h0n, h1n⟩ := rowK HWA.o HA0.o (by have := HKC.o; omega);replace HF : Hd (FB w g [.int .i64 d.k, .int .i64 d.op, .slice d.v.a d.v.len d.v.cap, .int .i64 d.t.t.k, .slice d.t.t.a d.t.t.len d.t.t.cap, .int .i64 d.t.t.n, .int .i64 d.t.t.s, .slice d.ka d.n d.kc] [.int .i64 da.k, .slice da.pa da.pn da.pc, .int .i64 da.e.d.k, .int .i64 da.e.d.op, .slice da.e.d.v.a da.e.d.v.len da.e.d.v.cap, .int .i64 da.e.d.t.t.k, .slice da.e.d.t.t.a da.e.d.t.t.len da.e.d.t.t.cap, .int .i64 da.e.d.t.t.n, .int .i64 da.e.d.t.t.s, .slice da.e.d.ka da.e.d.n da.e.d.kc, .slice da.v.a da.v.len da.v.cap, .slice da.ta da.tb.length da.tc, .slice (some ⟨ba, oa, none⟩) da.n da.kc] w1) := (show FB _ _ _ _ _ by rw [← HKK.o]; exact HF.o);go_wp2_with fail
      refine wqd (fun w' => FE w g d.cl (gL da.k (.slice da.pa da.pn da.pc) da.e.d da.v (.slice da.ta da.tb.length da.tc) (.slice (some ⟨ba, oa, none⟩) da.n da.kc)) w') ?_ fun hHeld => ?_
      · exact (HF.o.below bdr).f
      replace HF := iH (HF.o.below bdr);replace HC := iH (HC.o.below bdr);generalize w1.drew = w2 at *;refine tqB 0 37 ?_;refine tqB 1 38 ?_;refine tqB 2 39 ?_;refine tqB 3 40 (v := .int .i64 da.k) (hy := by intro w' hSw; have c0 := hSw.a.2 0 _ rfl; go_simp; (try with_reducible rfl)) ?_;first
      | have hG : Hd (da.k = 1) := HK0
        clear hG;refine tqB 4 41 (v := .bool true) (hy := by intro w' hSw; have e9 := HK0.o; go_simp) ?_;refine tqB 5 42 (v := .bool true) ?_;refine tqU 6 43 ?_;refine tqU 7 44 ?_;refine tqU 8 45 ?_;refine tqB 9 46 (v := .bool true) ?_;refine tqB 10 47 (v := .bool true) ?_;refine tqU 11 48 ?_;refine tqU 12 49 ?_;refine tqU 13 50 ?_
      | have hG : Hd (da.k = 2) := HK0
        clear hG;refine tqB 4 41 (v := .bool false) (hy := by intro w' hSw; have e9 := HK0.o; go_simp) ?_;refine tqB 5 42 (v := .bool false) ?_;refine tqB 6 43 ?_;refine tqB 7 44 (v := .int .i64 da.k) (hy := by intro w' hSw; have c0 := hSw.a.2 0 _ rfl; go_simp; (try with_reducible rfl)) ?_;refine tqB 8 45 (v := .bool true) (hy := by intro w' hSw; have e9 := HK0.o; go_simp) ?_;refine tqB 9 46 (v := .bool true) ?_;refine tqB 10 47 (v := .bool true) ?_;refine tqU 11 48 ?_;refine tqU 12 49 ?_;refine tqU 13 50 ?_
      | have hG : Hd (da.k = 4) := HK0
        clear hG;refine tqB 4 41 (v := .bool false) (hy := by intro w' hSw; have e9 := HK0.o; go_simp) ?_;refine tqB 5 42 (v := .bool false) ?_;refine tqB 6 43 ?_;refine tqB 7 44 (v := .int .i64 da.k) (hy := by intro w' hSw; have c0 := hSw.a.2 0 _ rfl; go_simp; (try with_reducible rfl)) ?_;refine tqB 8 45 (v := .bool false) (hy := by intro w' hSw; have e9 := HK0.o; go_simp) ?_;refine tqB 9 46 (v := .bool false) ?_;refine tqB 10 47 (v := .bool false) ?_;refine tqB 11 48 ?_;refine tqB 12 49 (v := .int .i64 da.k) (hy := by intro w' hSw; have c0 := hSw.a.2 0 _ rfl; go_simp; (try with_reducible rfl)) ?_;refine tqB 13 50 (v := .bool true) (hy := by intro w' hSw; have e9 := HK0.o; go_simp) ?_
      refine tqB 14 51 (v := .bool true) ?_;refine tqB 15 52 (v := .bool true) ?_;refine tqB 16 53 (v := .bool true) ?_;refine ldq 17 54 Tryz.underlying42 (fun w' h => h.e.range 0 d.cl rfl) ?_;refine tqB 18 55 ?_;refine tqB 19 56 (v := .slice (some ⟨ba, oa, none⟩) da.n da.kc) (hy := by intro w' hSw; have c0 := hSw.a.2 12 _ rfl; go_simp; (try with_reducible rfl)) ?_;refine tqB 20 57 (v := .pointer (some ⟨ba, oa, none⟩)) ?_;refine ldq 21 58 Tryz.underlying52 (fun w' h => HB0.o w' h.p) ?_;have hn2 := HN2.o;obtain ⟨_, _, hl0, _, _⟩ := kids2h (HBW.o.trans (HF.o.f.p.below HG0.o hw0)) HA0.o HF.o.f.p hn2;obtain ⟨hw0a, _, hsm, _⟩ := kids2 HWA.o HAC.o hn2 (by have := HKC.o; omega);have A := l7within_any (ET.mk d kid) (kida 0) w2 (ET.lies.upper (uB (HBW.o.trans (HF.o.f.p.below HG0.o hw0))) HE0.o) hl0 hw0a HEZ.o hsm;clear hl0 hsm hw0a hn2;refine rqA 22 fun K hK => ?_;go_simp;refine A.mono ?_;rintro r w3 ⟨q, rfl, hq, hz⟩;have HQ := iH hq;replace HF := iH (HF.o.below hz);replace HC := iH (HC.o.below hz);clear hq hz;clear hHeld;refine rhK hK HF.o.f fun hHeld => ?_;clear hK K A;refine tqB 23 60 (v := .bool q) ?_;replace HF : Hd (FB w g [.int .i64 d.k, .int .i64 d.op, .slice d.v.a d.v.len d.v.cap, .int .i64 d.t.t.k, .slice d.t.t.a d.t.t.len d.t.t.cap, .int .i64 d.t.t.n, .int .i64 d.t.t.s, .slice d.ka d.n d.kc] [.int .i64 da.k, .slice da.pa da.pn da.pc, .int .i64 da.e.d.k, .int .i64 da.e.d.op, .slice da.e.d.v.a da.e.d.v.len da.e.d.v.cap, .int .i64 da.e.d.t.t.k, .slice da.e.d.t.t.a da.e.d.t.t.len da.e.d.t.t.cap, .int .i64 da.e.d.t.t.n, .int .i64 da.e.d.t.t.s, .slice da.e.d.ka da.e.d.n da.e.d.kc, .slice da.v.a da.v.len da.v.cap, .slice da.ta da.tb.length da.tc, .slice da.ka da.n da.kc] w3) := (show FB _ _ _ _ _ by have h := HF.o; rw [← HKK.o] at h; exact h);refine wpAnyH_done (by kernel_rfl) ?_ _;clear hHeld;try go_wp2_with fail
      go_meet;exact ⟨q, rfl, HF, HC, ⟨fun h => ⟨⟨HLB.o.yes, HKC.o⟩, HQ.o.1 h⟩, fun h => HQ.o.2 h.2⟩⟩
   have n1 : ¬ da.k = 1 := fun h => hk (by simp [h]);have n2 : ¬ da.k = 2 := fun h => hk (by simp [h]);have n4 : ¬ da.k = 4 := fun h => hk (by simp [h]);have b1 : (da.k == 1) = false := by simpa using n1
   have b2 : (da.k == 2) = false := by simpa using n2
   have b4 : (da.k == 4) = false := by simpa using n4
   have HKN := iH hk;clear hk n1 n2 n4;go_wp2_with fail
   refine wqd (fun w' => FE w g d.cl da.cl w') ?_ fun hHeld => ?_
   · exact (HF.o.below bdr).f
   replace HF := iH (HF.o.below bdr);replace HC := iH (HC.o.below bdr);generalize w1.drew = w2 at *;refine tqB 0 37 ?_;refine tqB 1 38 ?_;refine tqB 2 39 ?_;refine tqB 3 40 (v := .int .i64 da.k) (hy := by intro w' hSw; have c0 := hSw.a.2 0 _ rfl; go_simp; (try with_reducible rfl)) ?_;refine tqB 4 41 (v := .bool false) (hy := by intro w' hSw; go_simp) ?_;refine tqB 5 42 (v := .bool false) ?_;refine tqB 6 43 ?_;refine tqB 7 44 (v := .int .i64 da.k) (hy := by intro w' hSw; have c0 := hSw.a.2 0 _ rfl; go_simp; (try with_reducible rfl)) ?_;refine tqB 8 45 (v := .bool false) (hy := by intro w' hSw; go_simp) ?_;refine tqB 9 46 (v := .bool false) ?_;refine tqB 10 47 (v := .bool false) ?_;refine tqB 11 48 ?_;refine tqB 12 49 (v := .int .i64 da.k) (hy := by intro w' hSw; have c0 := hSw.a.2 0 _ rfl; go_simp; (try with_reducible rfl)) ?_;refine tqB 13 50 (v := .bool false) (hy := by intro w' hSw; go_simp) ?_;refine tqB 14 51 (v := .bool false) ?_;refine tqB 15 52 (v := .bool false) ?_;refine tqB 16 53 (v := .bool false) ?_;refine tqU 17 54 ?_;refine tqU 18 55 ?_;refine tqU 19 56 ?_;refine tqU 20 57 ?_;refine tqU 21 58 ?_;refine tqU 22 59 ?_;refine tqB 23 60 (v := .bool false) ?_;refine wpAnyH_done (by kernel_rfl) ?_ _;clear hHeld;try go_wp2_with fail
   go_meet;exact ⟨false, rfl, HF, HC, TQ.of_no (fun h => absurd h.1.2 HKN.o)⟩
  | false =>
   go_wp2_with fail
   refine wqd (fun w' => FE w g d.cl da.cl w') ?_ fun hHeld => ?_
   · exact (HF.o.below bdr).f
   replace HF := iH (HF.o.below bdr);replace HC := iH (HC.o.below bdr);generalize w1.drew = w2 at *;refine tqB 0 37 ?_;refine tqB 1 38 ?_;refine tqU 2 39 ?_;refine tqU 3 40 ?_;refine tqU 4 41 ?_;refine tqU 5 42 ?_;refine tqU 6 43 ?_;refine tqU 7 44 ?_;refine tqU 8 45 ?_;refine tqU 9 46 ?_;refine tqU 10 47 ?_;refine tqU 11 48 ?_;refine tqU 12 49 ?_;refine tqU 13 50 ?_;refine tqU 14 51 ?_;refine tqB 15 52 (v := .bool false) ?_;refine tqB 16 53 (v := .bool false) ?_;refine tqU 17 54 ?_;refine tqU 18 55 ?_;refine tqU 19 56 ?_;refine tqU 20 57 ?_;refine tqU 21 58 ?_;refine tqU 22 59 ?_;refine tqB 23 60 (v := .bool false) ?_;refine wpAnyH_done (by kernel_rfl) ?_ _;clear hHeld;try go_wp2_with fail
   go_meet;exact ⟨false, rfl, HF, HC, TQ.of_no (fun h => HLB.o.no h.1.1)⟩
 obtain ⟨q, rfl, HFx, HCx, HQx⟩ := hcut;obtain ⟨w3, rfl⟩ : ∃ w3, w3 = wc := ⟨_, rfl⟩;clear HF HC;have HF := HFx;have HC := HCx;clear HFx HCx;skip;cases q with
 | true =>
  have HKC : Hd (da.k = 1 ∨ da.k = 2 ∨ da.k = 4) := HQx.o.yes.1.2;obtain rfl : lb = true := HLB.o.2 HQx.o.yes.1.1;have HLOW : Hd ((pick cs 2).1 = 1) := (show _ = _ by rw [← HK1.o]; exact HQx.o.yes.1.1);have HEA : Hd (early (ET.mk d kid) (AT.mk da kida) = some (early1 (ET.mk d kid) (AT.mk da kida))) := early_grow (HAND.o HLOW.o) HKC.o HQx.o.yes.2;obtain ⟨ba, oa, HN2, HKK, HB0, HB1, hnz, h0n, h1n⟩ := rowK HWA.o HA0.o (by have := HKC.o; omega);replace HF : Hd (FB w g [.int .i64 d.k, .int .i64 d.op, .slice d.v.a d.v.len d.v.cap, .int .i64 d.t.t.k, .slice d.t.t.a d.t.t.len d.t.t.cap, .int .i64 d.t.t.n, .int .i64 d.t.t.s, .slice d.ka d.n d.kc] [.int .i64 da.k, .slice da.pa da.pn da.pc, .int .i64 da.e.d.k, .int .i64 da.e.d.op, .slice da.e.d.v.a da.e.d.v.len da.e.d.v.cap, .int .i64 da.e.d.t.t.k, .slice da.e.d.t.t.a da.e.d.t.t.len da.e.d.t.t.cap, .int .i64 da.e.d.t.t.n, .int .i64 da.e.d.t.t.s, .slice da.e.d.ka da.e.d.n da.e.d.kc, .slice da.v.a da.v.len da.v.cap, .slice da.ta da.tb.length da.tc, .slice (some ⟨ba, oa, none⟩) da.n da.kc] w3) := (show FB _ _ _ _ _ by rw [← HKK.o]; exact HF.o);go_wp2_with fail
  refine wqd (fun w' => FE w g d.cl (gL da.k (.slice da.pa da.pn da.pc) da.e.d da.v (.slice da.ta da.tb.length da.tc) (.slice (some ⟨ba, oa, none⟩) da.n da.kc)) w') ?_ fun hHeld => ?_
  · exact (HF.o.below bdr).f
  replace HF := iH (HF.o.below bdr);replace HC := iH (HC.o.below bdr);generalize w3.drew = w4 at *;refine tqB 0 61 ?_;refine tqB 1 62 (v := .int .i64 da.k) (hy := by intro w' hSw; have c0 := hSw.a.2 0 _ rfl; go_simp; (try with_reducible rfl)) ?_;refine tqB 2 63 ?_;refine ldq 3 64 Tryz.underlying42 (fun w' h => h.a.range 2 da.e.d.cl rfl) ?_;refine ldq 4 65 Tryz.underlying42 (fun w' h => h.e.range 0 d.cl rfl) ?_;refine tqB 5 66 ?_;refine tqB 6 67 (v := .slice (some ⟨ba, oa, none⟩) da.n da.kc) (hy := by intro w' hSw; have c0 := hSw.a.2 12 _ rfl; go_simp; (try with_reducible rfl)) ?_;refine tqB 7 68 (v := .pointer (some ⟨ba, oa, none⟩)) ?_;refine ldq 8 69 Tryz.underlying52 (fun w' h => HB0.o w' h.p) ?_;refine tqB 11 72 ?_;refine tqB 12 73 (v := .slice (some ⟨ba, oa, none⟩) da.n da.kc) (hy := by intro w' hSw; have c0 := hSw.a.2 12 _ rfl; go_simp; (try with_reducible rfl)) ?_;refine tqB 13 74 (v := .pointer (some ⟨ba, oa + 13, none⟩)) ?_;refine ldq 14 75 Tryz.underlying52 (fun w' h => HB1.o w' h.p) ?_;repeat' first
   | refine rd2 9 17 ?_ ?_
   | refine rd2 15 17 ?_ ?_
   | refine rd1 9 ?_
   | refine rd1 15 ?_
   | refine rd1 17 ?_
   |
    intro tg K hK;have tq : Tg 9 := tg;clear tq tg;clear hHeld;go_simp;refine rhK hK ((HF.o.below (bl_a _)).f) fun hHeld => ?_;clear hK K;have hb2 : Bl w4 (w4.alloc (.cells (kida 0).d.ar 52)) := bl_a _;have BgA := iH (Box.new w4 (kida 0).d.ar 52 (0, 0));obtain ⟨gA, hgA⟩ : ∃ b, b = w4.heap.size := ⟨_, rfl⟩;have HgA : Hd (w.heap.size + 3 ≤ gA) := (show _ by rw [hgA]; exact HF.o.f.s);try have NAB : Hd (gA ≠ gB) := (show _ ≠ _ by have := BgB.o.1; omega)
    try have NAC : Hd (gA ≠ gC) := (show _ ≠ _ by have := BgC.o.1; omega)
    rw [← hgA] at BgA ⊢;clear hgA;try replace HF := iH (HF.o.below hb2)
    try replace HC := iH (HC.o.below hb2)
    try replace BgB := iH (BgB.o.below hb2)
    try replace BgC := iH (BgC.o.below hb2)
    clear hb2;generalize w4.alloc _ = w4 at *;refine tqB 10 71 (v := .agg (gVA 5 (.slice none 0 0) d (.slice none 0 0) (.slice none 0 0) (.slice (some ⟨gA, 0, none⟩) 1 1))) ?_
   |
    intro tg K hK;have tq : Tg 15 := tg;clear tq tg;clear hHeld;go_simp;refine rhK hK ((HF.o.below (bl_a _)).f) fun hHeld => ?_;clear hK K;have hb2 : Bl w4 (w4.alloc (.cells (gFA d (.slice (some ⟨gA, 0, none⟩) 1 1) ((kida 1).d)) 52)) := bl_a _;have BgB := iH (Box.new w4 (gFA d (.slice (some ⟨gA, 0, none⟩) 1 1) ((kida 1).d)) 52 (0, 0));obtain ⟨gB, hgB⟩ : ∃ b, b = w4.heap.size := ⟨_, rfl⟩;have HgB : Hd (w.heap.size + 3 ≤ gB) := (show _ by rw [hgB]; exact HF.o.f.s);try have NAB : Hd (gA ≠ gB) := (show _ ≠ _ by have := BgA.o.1; omega)
    try have NBC : Hd (gB ≠ gC) := (show _ ≠ _ by have := BgC.o.1; omega)
    rw [← hgB] at BgB ⊢;clear hgB;try replace HF := iH (HF.o.below hb2)
    try replace HC := iH (HC.o.below hb2)
    try replace BgA := iH (BgA.o.below hb2)
    try replace BgC := iH (BgC.o.below hb2)
    clear hb2;generalize w4.alloc _ = w4 at *;refine tqB 16 77 (v := .agg (gVA da.k (.slice none 0 0) da.e.d (.slice none 0 0) (.slice none 0 0) (.slice (some ⟨gB, 0, none⟩) 2 2))) ?_
   |
    intro tg K hK;have tq : Tg 17 := tg;clear tq tg;clear hHeld;go_simp;refine rhK hK ((HF.o.below (bl_a _)).f) fun hHeld => ?_;clear hK K;have hb2 : Bl w4 (w4.alloc (.cells zGa 52)) := bl_a _;have BgC := iH (OB.new w4 zGa 52);obtain ⟨gC, hgC⟩ : ∃ b, b = w4.heap.size := ⟨_, rfl⟩;have HgC : Hd (w.heap.size + 3 ≤ gC) := (show _ by rw [hgC]; exact HF.o.f.s);try have NAC : Hd (gA ≠ gC) := (show _ ≠ _ by have := BgA.o.1; omega)
    try have NBC : Hd (gB ≠ gC) := (show _ ≠ _ by have := BgB.o.1; omega)
    rw [← hgC] at BgC ⊢;clear hgC;try replace HF := iH (HF.o.below hb2)
    try replace HC := iH (HC.o.below hb2)
    try replace BgA := iH (BgA.o.below hb2)
    try replace BgB := iH (BgB.o.below hb2)
    clear hb2;generalize w4.alloc (.cells zGa 52) = w4 at *
   | fail
  all_goals
   have hst : w4.there gC 0 13 := BgC.o.there 0 13 (by simp);have on : ((gVA da.k (.slice none 0 0) da.e.d (.slice none 0 0) (.slice none 0 0) (.slice (some ⟨gB, 0, none⟩) 2 2)) : Array Value).all (·.oneCell') = true := all_oneCell_toArray (cs := (gVL da.k (.slice none 0 0) da.e.d (.slice none 0 0) (.slice none 0 0) (.slice (some ⟨gB, 0, none⟩) 2 2))) (by simp [Value.oneCell']);have HU := iH (but_sets gC (gVL da.k (.slice none 0 0) da.e.d (.slice none 0 0) (.slice none 0 0) (.slice (some ⟨gB, 0, none⟩) 2 2)) 0 w4);have HXB : Hd (OB (w4.setCells gC 0 (gVL da.k (.slice none 0 0) da.e.d (.slice none 0 0) (.slice none 0 0) (.slice (some ⟨gB, 0, none⟩) 2 2))) gC (gVL da.k (.slice none 0 0) da.e.d (.slice none 0 0) (.slice none 0 0) (.slice (some ⟨gB, 0, none⟩) 2 2))) := BgC.o.put (gVL da.k (.slice none 0 0) da.e.d (.slice none 0 0) (.slice none 0 0) (.slice (some ⟨gB, 0, none⟩) 2 2)) 0 (gVL da.k (.slice none 0 0) da.e.d (.slice none 0 0) (.slice none 0 0) (.slice (some ⟨gB, 0, none⟩) 2 2)) (by simp) rfl;replace HF := iH (HF.o.but HU.o (by have := HgC.o; omega));replace HC := iH (HC.o.stay (M := gC) (HU.o.below nR) (by have := HgC.o; omega) (by have := HgC.o; omega));replace BgA := iH (BgA.o.upper HU.o (by have := NAC.o; omega));replace BgB := iH (BgB.o.upper HU.o (by have := NBC.o; omega));refine rqA 18 fun K hK => ?_;refine step_storeV 52 gC 0 (gVA da.k (.slice none 0 0) da.e.d (.slice none 0 0) (.slice none 0 0) (.slice (some ⟨gB, 0, none⟩) 2 2)) hst on ?_;clear hHeld;refine hK.out _ _ ?_ fun hHeld => ?_
   · exact HF.o.f
   clear hK K hst on hHeld;try simp only [Act.put]
   generalize w4.setCells _ _ _ = w5 at *;clear BgC HU;refine wpAnyH_done (by kernel_rfl) ?_ _;have lx : w5.rangeAt gC 0 (gVL da.k (.slice none 0 0) da.e.d (.slice none 0 0) (.slice none 0 0) (.slice (some ⟨gB, 0, none⟩) 2 2)) := HXB.o.box.range 0 _ rfl;replace HF : Hd (FB w g [.int .i64 d.k, .int .i64 d.op, .slice d.v.a d.v.len d.v.cap, .int .i64 d.t.t.k, .slice d.t.t.a d.t.t.len d.t.t.cap, .int .i64 d.t.t.n, .int .i64 d.t.t.s, .slice d.ka d.n d.kc] [.int .i64 da.k, .slice da.pa da.pn da.pc, .int .i64 da.e.d.k, .int .i64 da.e.d.op, .slice da.e.d.v.a da.e.d.v.len da.e.d.v.cap, .int .i64 da.e.d.t.t.k, .slice da.e.d.t.t.a da.e.d.t.t.len da.e.d.t.t.cap, .int .i64 da.e.d.t.t.n, .int .i64 da.e.d.t.t.s, .slice da.e.d.ka da.e.d.n da.e.d.kc, .slice da.v.a da.v.len da.v.cap, .slice da.ta da.tb.length da.tc, .slice da.ka da.n da.kc] w5) := (show FB _ _ _ _ _ by have h := HF.o; rw [← HKK.o] at h; exact h);have hn2 := HN2.o;have hk5 : da.k ≠ 5 := by have := HKC.o; omega
   obtain ⟨hk0, hk1, hl0, hl1, hde⟩ := kids2h (HBW.o.trans (HF.o.f.p.below HG0.o hw0)) HA0.o HF.o.f.p hn2;obtain ⟨hw0a, hw1a, hs0, hs1⟩ := kids2 HWA.o HAC.o hn2 hk5;have hsm : ac (kida 0) ≤ NN ∧ ac (kida 1) ≤ NN := ⟨hs0, hs1⟩;clear hs0 hs1;have hf0 : FA NN (kida 0) := HFA.o.2 hk5 0 (by show 0 < da.n; omega);have hf1 : FA NN (kida 1) := HFA.o.2 hk5 1 (by show 1 < da.n; omega);have hfh : (AF (ET.mk d kid) gA (kida 0)).hung w0 g w5 := AF.hung hk0 HE0.o BgA.o (by have := HgA.o; omega);have hxh : (A2X da.k da.e gB (AF (ET.mk d kid) gA (kida 0)) (kida 1)).hung w0 g w5 := A2X.hung hfh hk1 hde BgB.o (by have := HgB.o; omega);have hxw : WA (A2X da.k da.e gB (AF (ET.mk d kid) gA (kida 0)) (kida 1)) := A2X.wa (by have := HKC.o; omega) HWA.o.2.2.1.1 HWA.o.2.2.2.1 (filterA.wa HWE.o hw0a) hw1a;have hxf : FA NN (A2X da.k da.e gB (AF (ET.mk d kid) gA (kida 0)) (kida 1)) := A2X.fa hk5 (FA.filter HEZ.o hf0 (.inr hsm.1)) hf1;have hxs : (A2X da.k da.e gB (AF (ET.mk d kid) gA (kida 0)) (kida 1)).same (early1 (ET.mk d kid) (AT.mk da kida)) := A2X.same (ET.same.refl hde) (AF.same (ET.same.refl HE0.o) (AT.refl_lies hl0)) (AT.refl_lies hl1);have hxe : mA (A2X da.k da.e gB (AF (ET.mk d kid) gA (kida 0)) (kida 1)) = mA (early1 (ET.mk d kid) (AT.mk da kida)) := (A2X.ma hk5).trans (A2X.ma (q := gB) (f := filterA (ET.mk d kid) (kida 0)) (ex := da.e) hk5).symm;have hmm := mA_early (e := ET.mk d kid) (a := AT.mk da kida) (fun _ => .inl (by show 2 ≤ da.n; omega)) HEA.o;have hxm : mA (A2X da.k da.e gB (AF (ET.mk d kid) gA (kida 0)) (kida 1)) ≤ n := by have e : mA (A2X da.k da.e gB (AF (ET.mk d kid) gA (kida 0)) (kida 1)) = mA (early1 (ET.mk d kid) (AT.mk da kida)) := hxe; have := HM.o; omega
   have A : Calls Tryz.prog 28 #[.agg (gVA da.k (.slice none 0 0) da.e.d (.slice none 0 0) (.slice none 0 0) (.slice (some ⟨gB, 0, none⟩) 2 2)), .pointer (some ⟨g, 0, none⟩)] w5 (ResP w0 w5 g (CM w0.heap.size) (planF n (A2X da.k da.e gB (AF (ET.mk d kid) gA (kida 0)) (kida 1)) (pick cs 2).2)) := HPA.o (A2X da.k da.e gB (AF (ET.mk d kid) gA (kida 0)) (kida 1)) (pick cs 2).2 g w0 w5 (HBW.o.trans (HF.o.f.p.below HG0.o hw0)) HG0.o hxh hxw hxf hxm HC.o;have HXW := iH hxw;have HXS := iH hxs;clear hxw hxs hxh hxf hxm hmm hfh hk5 hk0 hk1 hde hn2 hl0 hl1 hsm hw0a hw1a hf0 hf1 hxe;go_wp2_with (with_reducible refine wpv_at ?_; refine ldr rfl rfl rfl Tryz.underlying52 lx rfl ?_; try simp only [Act.put, List.setIfInBounds_toArray])
   refine A.mono ?_;intro r w9 hR;have hR := ResP.like hR HXW.o HXS.o;rw [← planF_early HLOW.o HEA.o] at hR;obtain ⟨y, rfl, hy, hc, hs, hcm, hp9⟩ := hR;have HY := iH hy;have HCY := iH hc;have HSY := iH hs;have HCM9 := iH hcm;have HPP := iH hp9;have HF9 := iH (HF.o.past hp9);clear hy hc hs hcm hp9;clear A lx;have hst : w9.there (w.heap.size + 2) 0 28 := HF9.o.o.there 0 28 (by simp);have on : (y.d.ar : Array Value).all (·.oneCell') = true := all_oneCell_toArray (cs := y.d.cl) (by simp [Value.oneCell']);have hrd : (w9.setCells (w.heap.size + 2) 0 y.d.cl).rangeAt (w.heap.size + 2) 0 y.d.cl := World.rangeAt_setCells_same _ _ _ _ hst;have HU := iH (but_sets (w.heap.size + 2) y.d.cl 0 w9);go_wp2_with (with_reducible refine wpv_at ?_; refine store_stopV 46 (.tmp 6) (.tmp 80) rfl ?_)
   change wpList _ _ _ _ _ _;refine wpList_store_mid rfl 46 _ _ rfl (w.heap.size + 2) 0 y.d.ar rfl rfl hst (by kernel_rfl) on ?_;try simp only [Act.put]
   clear hst on;generalize w9.setCells _ _ _ = W5 at *;go_wp2;try simp only [Exit.inBlock, Exit.then]
   refine bodyPost_ret (v := .agg y.d.ar) ?_ rfl ?_
   · exact results_cell rfl rfl (run_loadVar_mid (P := Tryz.prog) _ (w.heap.size + 2) 0 46 y.d.cl _ hrd Tryz.underlying46 rfl (by kernel_rfl))
   exact HF.o.end hw0 HY.o HCY.o HSY.o HCM9.o HPP.o HU.o
 | false =>
  go_upto_region 7 with fail
  go_cut [86] from 81 to 86 (fun v wy => ∃ q : Bool, v = .bool q ∧ Hd (TQ q (k1 = 1 ∧ da.k = 3)) ∧ w3 = wy)
  case first =>
   have ea := HF.o.f.a.2 0 _ rfl;cases lb with
   | true =>
    by_cases h3 : da.k = 3
    · have HR : Hd (TQ true (k1 = 1 ∧ da.k = 3)) := TQ.of_yes ⟨HLB.o.yes, h3⟩
      rw [h3] at ea;clear h3;go_wp2_with fail
      go_meet;exact ⟨true, rfl, HR, rfl⟩
    have HR : Hd (TQ false (k1 = 1 ∧ da.k = 3)) := TQ.of_no (fun h => absurd h.2 h3);have b3 : (da.k == 3) = false := by simpa using h3
    clear h3;go_wp2_with fail
    go_meet;exact ⟨false, rfl, HR, rfl⟩
   | false =>
    have HR : Hd (TQ false (k1 = 1 ∧ da.k = 3)) := TQ.of_no (fun h => HLB.o.no h.1);go_wp2_with fail
    go_meet;exact ⟨false, rfl, HR, rfl⟩
  obtain ⟨q, rfl, HR, hwc⟩ := hcut;subst hwc;cases q with
  | true =>
   have HKC : Hd (da.k = 3) := HR.o.yes.2;have HLOW : Hd ((pick cs 2).1 = 1) := (show _ = _ by rw [← HK1.o]; exact HR.o.yes.1);have HEA : Hd (early (ET.mk d kid) (AT.mk da kida) = some (early2 (ET.mk d kid) (AT.mk da kida))) := early_union (HAND.o HLOW.o) HKC.o;obtain ⟨ba, oa, HN2, HKK, HB0, HB1, hnz, h0n, h1n⟩ := rowK HWA.o HA0.o (by have := HKC.o; omega);replace HF : Hd (FB w g [.int .i64 d.k, .int .i64 d.op, .slice d.v.a d.v.len d.v.cap, .int .i64 d.t.t.k, .slice d.t.t.a d.t.t.len d.t.t.cap, .int .i64 d.t.t.n, .int .i64 d.t.t.s, .slice d.ka d.n d.kc] [.int .i64 da.k, .slice da.pa da.pn da.pc, .int .i64 da.e.d.k, .int .i64 da.e.d.op, .slice da.e.d.v.a da.e.d.v.len da.e.d.v.cap, .int .i64 da.e.d.t.t.k, .slice da.e.d.t.t.a da.e.d.t.t.len da.e.d.t.t.cap, .int .i64 da.e.d.t.t.n, .int .i64 da.e.d.t.t.s, .slice da.e.d.ka da.e.d.n da.e.d.kc, .slice da.v.a da.v.len da.v.cap, .slice da.ta da.tb.length da.tc, .slice (some ⟨ba, oa, none⟩) da.n da.kc] w3) := (show FB _ _ _ _ _ by rw [← HKK.o]; exact HF.o);go_wp2_with fail
   refine wqd (fun w' => FE w g d.cl (gL da.k (.slice da.pa da.pn da.pc) da.e.d da.v (.slice da.ta da.tb.length da.tc) (.slice (some ⟨ba, oa, none⟩) da.n da.kc)) w') ?_ fun hHeld => ?_
   · exact (HF.o.below bdr).f
   replace HF := iH (HF.o.below bdr);replace HC := iH (HC.o.below bdr);generalize w3.drew = w4 at *;refine tqB 0 87 ?_;refine tqB 1 88 (v := .int .i64 da.k) (hy := by intro w' hSw; have c0 := hSw.a.2 0 _ rfl; go_simp; (try with_reducible rfl)) ?_;refine ldq 2 89 Tryz.underlying42 (fun w' h => h.e.range 0 d.cl rfl) ?_;refine tqB 3 90 ?_;refine tqB 4 91 (v := .slice (some ⟨ba, oa, none⟩) da.n da.kc) (hy := by intro w' hSw; have c0 := hSw.a.2 12 _ rfl; go_simp; (try with_reducible rfl)) ?_;refine tqB 5 92 (v := .pointer (some ⟨ba, oa, none⟩)) ?_;refine ldq 6 93 Tryz.underlying52 (fun w' h => HB0.o w' h.p) ?_;refine ldq 9 96 Tryz.underlying42 (fun w' h => h.e.range 0 d.cl rfl) ?_;refine tqB 10 97 ?_;refine tqB 11 98 (v := .slice (some ⟨ba, oa, none⟩) da.n da.kc) (hy := by intro w' hSw; have c0 := hSw.a.2 12 _ rfl; go_simp; (try with_reducible rfl)) ?_;refine tqB 12 99 (v := .pointer (some ⟨ba, oa + 13, none⟩)) ?_;refine ldq 13 100 Tryz.underlying52 (fun w' h => HB1.o w' h.p) ?_;repeat' first
    | refine rd3 7 14 18 ?_ ?_ ?_
    | refine rd2 7 14 ?_ ?_
    | refine rd2 7 18 ?_ ?_
    | refine rd2 14 18 ?_ ?_
    | refine rd2 16 18 ?_ ?_
    | refine rd1 7 ?_
    | refine rd1 14 ?_
    | refine rd1 16 ?_
    | refine rd1 18 ?_
    |
     intro tg K hK;have tq : Tg 7 := tg;clear tq tg;clear hHeld;go_simp;refine rhK hK ((HF.o.below (bl_a _)).f) fun hHeld => ?_;clear hK K;have hb2 : Bl w4 (w4.alloc (.cells (kida 0).d.ar 52)) := bl_a _;have BgA := iH (Box.new w4 (kida 0).d.ar 52 (0, 0));obtain ⟨gA, hgA⟩ : ∃ b, b = w4.heap.size := ⟨_, rfl⟩;have HgA : Hd (w.heap.size + 3 ≤ gA) := (show _ by rw [hgA]; exact HF.o.f.s);try have NAB : Hd (gA ≠ gB) := (show _ ≠ _ by have := BgB.o.1; omega)
     try have NAC : Hd (gA ≠ gC) := (show _ ≠ _ by have := BgC.o.1; omega)
     try have NAD : Hd (gA ≠ gD) := (show _ ≠ _ by have := BgD.o.1; omega)
     rw [← hgA] at BgA ⊢;clear hgA;try replace HF := iH (HF.o.below hb2)
     try replace HC := iH (HC.o.below hb2)
     try replace BgB := iH (BgB.o.below hb2)
     try replace BgC := iH (BgC.o.below hb2)
     try replace BgD := iH (BgD.o.below hb2)
     clear hb2;generalize w4.alloc _ = w4 at *;refine tqB 8 95 (v := .agg (gVA 5 (.slice none 0 0) d (.slice none 0 0) (.slice none 0 0) (.slice (some ⟨gA, 0, none⟩) 1 1))) ?_
    |
     intro tg K hK;have tq : Tg 16 := tg;clear tq tg;clear hHeld;go_simp;refine rhK hK ((HF.o.below (bl_a _)).f) fun hHeld => ?_;clear hK K;have hb2 : Bl w4 (w4.alloc (.cells (gGA d (.slice (some ⟨gA, 0, none⟩) 1 1) (.slice (some ⟨gD, 0, none⟩) 1 1)) 52)) := bl_a _;have BgB := iH (Box.new w4 (gGA d (.slice (some ⟨gA, 0, none⟩) 1 1) (.slice (some ⟨gD, 0, none⟩) 1 1)) 52 (0, 0));obtain ⟨gB, hgB⟩ : ∃ b, b = w4.heap.size := ⟨_, rfl⟩;have HgB : Hd (w.heap.size + 3 ≤ gB) := (show _ by rw [hgB]; exact HF.o.f.s);try have NAB : Hd (gA ≠ gB) := (show _ ≠ _ by have := BgA.o.1; omega)
     try have NBC : Hd (gB ≠ gC) := (show _ ≠ _ by have := BgC.o.1; omega)
     try have NBD : Hd (gB ≠ gD) := (show _ ≠ _ by have := BgD.o.1; omega)
     rw [← hgB] at BgB ⊢;clear hgB;try replace HF := iH (HF.o.below hb2)
     try replace HC := iH (HC.o.below hb2)
     try replace BgA := iH (BgA.o.below hb2)
     try replace BgC := iH (BgC.o.below hb2)
     try replace BgD := iH (BgD.o.below hb2)
     clear hb2;generalize w4.alloc _ = w4 at *;refine tqB 17 104 (v := .agg (fA da.k (.slice none 0 0) (.slice none 0 0) (.slice none 0 0) (.slice (some ⟨gB, 0, none⟩) 2 2))) ?_
    |
     intro tg K hK;have tq : Tg 18 := tg;clear tq tg;clear hHeld;go_simp;refine rhK hK ((HF.o.below (bl_a _)).f) fun hHeld => ?_;clear hK K;have hb2 : Bl w4 (w4.alloc (.cells zGa 52)) := bl_a _;have BgC := iH (OB.new w4 zGa 52);obtain ⟨gC, hgC⟩ : ∃ b, b = w4.heap.size := ⟨_, rfl⟩;have HgC : Hd (w.heap.size + 3 ≤ gC) := (show _ by rw [hgC]; exact HF.o.f.s);try have NAC : Hd (gA ≠ gC) := (show _ ≠ _ by have := BgA.o.1; omega)
     try have NBC : Hd (gB ≠ gC) := (show _ ≠ _ by have := BgB.o.1; omega)
     try have NCD : Hd (gC ≠ gD) := (show _ ≠ _ by have := BgD.o.1; omega)
     rw [← hgC] at BgC ⊢;clear hgC;try replace HF := iH (HF.o.below hb2)
     try replace HC := iH (HC.o.below hb2)
     try replace BgA := iH (BgA.o.below hb2)
     try replace BgB := iH (BgB.o.below hb2)
     try replace BgD := iH (BgD.o.below hb2)
     clear hb2;generalize w4.alloc (.cells zGa 52) = w4 at *
    |
     intro tg K hK;have tq : Tg 14 := tg;clear tq tg;clear hHeld;go_simp;refine rhK hK ((HF.o.below (bl_a _)).f) fun hHeld => ?_;clear hK K;have hb2 : Bl w4 (w4.alloc (.cells (kida 1).d.ar 52)) := bl_a _;have BgD := iH (Box.new w4 (kida 1).d.ar 52 (0, 0));obtain ⟨gD, hgD⟩ : ∃ b, b = w4.heap.size := ⟨_, rfl⟩;have HgD : Hd (w.heap.size + 3 ≤ gD) := (show _ by rw [hgD]; exact HF.o.f.s);try have NAD : Hd (gA ≠ gD) := (show _ ≠ _ by have := BgA.o.1; omega)
     try have NBD : Hd (gB ≠ gD) := (show _ ≠ _ by have := BgB.o.1; omega)
     try have NCD : Hd (gC ≠ gD) := (show _ ≠ _ by have := BgC.o.1; omega)
     rw [← hgD] at BgD ⊢;clear hgD;try replace HF := iH (HF.o.below hb2)
     try replace HC := iH (HC.o.below hb2)
     try replace BgA := iH (BgA.o.below hb2)
     try replace BgB := iH (BgB.o.below hb2)
     try replace BgC := iH (BgC.o.below hb2)
     clear hb2;generalize w4.alloc _ = w4 at *;refine tqB 15 102 (v := .agg (gVA 5 (.slice none 0 0) d (.slice none 0 0) (.slice none 0 0) (.slice (some ⟨gD, 0, none⟩) 1 1))) ?_
    | fail
   all_goals
    have hst : w4.there gC 0 13 := BgC.o.there 0 13 (by simp);have on : ((fA da.k (.slice none 0 0) (.slice none 0 0) (.slice none 0 0) (.slice (some ⟨gB, 0, none⟩) 2 2)) : Array Value).all (·.oneCell') = true := all_oneCell_toArray (cs := (fL da.k (.slice none 0 0) (.slice none 0 0) (.slice none 0 0) (.slice (some ⟨gB, 0, none⟩) 2 2))) (by simp [Value.oneCell']);have HU := iH (but_sets gC (fL da.k (.slice none 0 0) (.slice none 0 0) (.slice none 0 0) (.slice (some ⟨gB, 0, none⟩) 2 2)) 0 w4);have HXB : Hd (OB (w4.setCells gC 0 (fL da.k (.slice none 0 0) (.slice none 0 0) (.slice none 0 0) (.slice (some ⟨gB, 0, none⟩) 2 2))) gC (fL da.k (.slice none 0 0) (.slice none 0 0) (.slice none 0 0) (.slice (some ⟨gB, 0, none⟩) 2 2))) := BgC.o.put (fL da.k (.slice none 0 0) (.slice none 0 0) (.slice none 0 0) (.slice (some ⟨gB, 0, none⟩) 2 2)) 0 (fL da.k (.slice none 0 0) (.slice none 0 0) (.slice none 0 0) (.slice (some ⟨gB, 0, none⟩) 2 2)) (by simp) rfl;replace HF := iH (HF.o.but HU.o (by have := HgC.o; omega));replace HC := iH (HC.o.stay (M := gC) (HU.o.below nR) (by have := HgC.o; omega) (by have := HgC.o; omega));replace BgA := iH (BgA.o.upper HU.o (by have := NAC.o; omega));replace BgB := iH (BgB.o.upper HU.o (by have := NBC.o; omega));replace BgD := iH (BgD.o.upper HU.o (by have := NCD.o; omega));refine rqA 19 fun K hK => ?_;refine step_storeV 52 gC 0 (fA da.k (.slice none 0 0) (.slice none 0 0) (.slice none 0 0) (.slice (some ⟨gB, 0, none⟩) 2 2)) hst on ?_;clear hHeld;refine hK.out _ _ ?_ fun hHeld => ?_
    · exact HF.o.f
    clear hK K hst on hHeld;try simp only [Act.put]
    generalize w4.setCells _ _ _ = w5 at *;clear BgC HU;refine wpAnyH_done (by kernel_rfl) ?_ _;have lx : w5.rangeAt gC 0 (fL da.k (.slice none 0 0) (.slice none 0 0) (.slice none 0 0) (.slice (some ⟨gB, 0, none⟩) 2 2)) := HXB.o.box.range 0 _ rfl;replace HF : Hd (FB w g [.int .i64 d.k, .int .i64 d.op, .slice d.v.a d.v.len d.v.cap, .int .i64 d.t.t.k, .slice d.t.t.a d.t.t.len d.t.t.cap, .int .i64 d.t.t.n, .int .i64 d.t.t.s, .slice d.ka d.n d.kc] [.int .i64 da.k, .slice da.pa da.pn da.pc, .int .i64 da.e.d.k, .int .i64 da.e.d.op, .slice da.e.d.v.a da.e.d.v.len da.e.d.v.cap, .int .i64 da.e.d.t.t.k, .slice da.e.d.t.t.a da.e.d.t.t.len da.e.d.t.t.cap, .int .i64 da.e.d.t.t.n, .int .i64 da.e.d.t.t.s, .slice da.e.d.ka da.e.d.n da.e.d.kc, .slice da.v.a da.v.len da.v.cap, .slice da.ta da.tb.length da.tc, .slice da.ka da.n da.kc] w5) := (show FB _ _ _ _ _ by have h := HF.o; rw [← HKK.o] at h; exact h);have hn2 := HN2.o;have hk5 : da.k ≠ 5 := by have := HKC.o; omega
    obtain ⟨hk0, hk1, hl0, hl1, hde⟩ := kids2h (HBW.o.trans (HF.o.f.p.below HG0.o hw0)) HA0.o HF.o.f.p hn2;obtain ⟨hw0a, hw1a, hs0, hs1⟩ := kids2 HWA.o HAC.o hn2 hk5;have hsm : ac (kida 0) ≤ NN ∧ ac (kida 1) ≤ NN := ⟨hs0, hs1⟩;clear hs0 hs1;have hf0 : FA NN (kida 0) := HFA.o.2 hk5 0 (by show 0 < da.n; omega);have hf1 : FA NN (kida 1) := HFA.o.2 hk5 1 (by show 1 < da.n; omega);have hfh : (AF (ET.mk d kid) gA (kida 0)).hung w0 g w5 := AF.hung hk0 HE0.o BgA.o (by have := HgA.o; omega);have hfh2 : (AF (ET.mk d kid) gD (kida 1)).hung w0 g w5 := AF.hung hk1 HE0.o BgD.o (by have := HgD.o; omega);have hxh : (A2X da.k ET0 gB (AF (ET.mk d kid) gA (kida 0)) (AF (ET.mk d kid) gD (kida 1))).hung w0 g w5 := A2X.hung hfh hfh2 (ET0_ow 0 w0).l BgB.o (by have := HgB.o; omega);have hxw : WA (A2X da.k ET0 gB (AF (ET.mk d kid) gA (kida 0)) (AF (ET.mk d kid) gD (kida 1))) := A2X.wa (by have := HKC.o; omega) (fun _ => ET0_zero) ET0_zero.we (filterA.wa HWE.o hw0a) (filterA.wa HWE.o hw1a);have hxf : FA NN (A2X da.k ET0 gB (AF (ET.mk d kid) gA (kida 0)) (AF (ET.mk d kid) gD (kida 1))) := A2X.fa hk5 (FA.filter HEZ.o hf0 (.inr hsm.1)) (FA.filter HEZ.o hf1 (.inr hsm.2));have hxs : (A2X da.k ET0 gB (AF (ET.mk d kid) gA (kida 0)) (AF (ET.mk d kid) gD (kida 1))).same (early2 (ET.mk d kid) (AT.mk da kida)) := by have h := A2X.same (k := da.k) (q := gB) (ex := ET0) (kid := fun i => filterA (ET.mk d kid) ((AT.mk da kida).kid i)) ET0.refl (AF.same (q := gA) (ET.same.refl HE0.o) (AT.refl_lies hl0)) (AF.same (q := gD) (ET.same.refl HE0.o) (AT.refl_lies hl1)); rw [HKC.o] at h ⊢; exact h
    have hxe : mA (A2X da.k ET0 gB (AF (ET.mk d kid) gA (kida 0)) (AF (ET.mk d kid) gD (kida 1))) = mA (early2 (ET.mk d kid) (AT.mk da kida)) := (A2X.ma hk5).trans (by show _ = (if (3 : Int) = 5 then _ else 1 + sumN 2 _); rw [if_neg (by decide), sum_two]; rfl);clear hfh2;have hmm := mA_early (e := ET.mk d kid) (a := AT.mk da kida) (fun _ => .inl (by show 2 ≤ da.n; omega)) HEA.o;have hxm : mA (A2X da.k ET0 gB (AF (ET.mk d kid) gA (kida 0)) (AF (ET.mk d kid) gD (kida 1))) ≤ n := by have e : mA (A2X da.k ET0 gB (AF (ET.mk d kid) gA (kida 0)) (AF (ET.mk d kid) gD (kida 1))) = mA (early2 (ET.mk d kid) (AT.mk da kida)) := hxe; have := HM.o; omega
    have A : Calls Tryz.prog 28 #[.agg (fA da.k (.slice none 0 0) (.slice none 0 0) (.slice none 0 0) (.slice (some ⟨gB, 0, none⟩) 2 2)), .pointer (some ⟨g, 0, none⟩)] w5 (ResP w0 w5 g (CM w0.heap.size) (planF n (A2X da.k ET0 gB (AF (ET.mk d kid) gA (kida 0)) (AF (ET.mk d kid) gD (kida 1))) (pick cs 2).2)) := HPA.o (A2X da.k ET0 gB (AF (ET.mk d kid) gA (kida 0)) (AF (ET.mk d kid) gD (kida 1))) (pick cs 2).2 g w0 w5 (HBW.o.trans (HF.o.f.p.below HG0.o hw0)) HG0.o hxh hxw hxf hxm HC.o;have HXW := iH hxw;have HXS := iH hxs;clear hxw hxs hxh hxf hxm hmm hfh hk5 hk0 hk1 hde hn2 hl0 hl1 hsm hw0a hw1a hf0 hf1 hxe;go_wp2_with (with_reducible refine wpv_at ?_; refine ldr rfl rfl rfl Tryz.underlying52 lx rfl ?_; try simp only [Act.put, List.setIfInBounds_toArray])
    refine A.mono ?_;intro r w9 hR;have hR := ResP.like hR HXW.o HXS.o;rw [← planF_early HLOW.o HEA.o] at hR;obtain ⟨y, rfl, hy, hc, hs, hcm, hp9⟩ := hR;have HY := iH hy;have HCY := iH hc;have HSY := iH hs;have HCM9 := iH hcm;have HPP := iH hp9;have HF9 := iH (HF.o.past hp9);clear hy hc hs hcm hp9;clear A lx;have hst : w9.there (w.heap.size + 2) 0 28 := HF9.o.o.there 0 28 (by simp);have on : (y.d.ar : Array Value).all (·.oneCell') = true := all_oneCell_toArray (cs := y.d.cl) (by simp [Value.oneCell']);have hrd : (w9.setCells (w.heap.size + 2) 0 y.d.cl).rangeAt (w.heap.size + 2) 0 y.d.cl := World.rangeAt_setCells_same _ _ _ _ hst;have HU := iH (but_sets (w.heap.size + 2) y.d.cl 0 w9);go_wp2_with (with_reducible refine wpv_at ?_; refine store_stopV 46 (.tmp 6) (.tmp 107) rfl ?_)
    change wpList _ _ _ _ _ _;refine wpList_store_mid rfl 46 _ _ rfl (w.heap.size + 2) 0 y.d.ar rfl rfl hst (by kernel_rfl) on ?_;try simp only [Act.put]
    clear hst on;generalize w9.setCells _ _ _ = W5 at *;go_wp2;try simp only [Exit.inBlock, Exit.then]
    refine bodyPost_ret (v := .agg y.d.ar) ?_ rfl ?_
    · exact results_cell rfl rfl (run_loadVar_mid (P := Tryz.prog) _ (w.heap.size + 2) 0 46 y.d.cl _ hrd Tryz.underlying46 rfl (by kernel_rfl))
    exact HF.o.end hw0 HY.o HCY.o HSY.o HCM9.o HPP.o HU.o
  | false =>
   have HNE : Hd ((pick cs 2).1 = 1 → early (ET.mk d kid) (AT.mk da kida) = none) := fun h => early_none (HAND.o h) (fun hh => HQx.o.no ⟨⟨HK1.o.trans h, hh.1⟩, hh.2⟩) (fun hh => HR.o.no ⟨HK1.o.trans h, hh⟩);go_wp2_with fail
   refine wqd (fun w' => FE w g d.cl da.cl w') ?_ fun hHeld => ?_
   · exact (HF.o.below bdr).f
   replace HF := iH (HF.o.below bdr);replace HC := iH (HC.o.below bdr);generalize w3.drew = w8 at *;refine ldq 0 108 Tryz.underlying42 (fun w' h => h.e.range 0 d.cl rfl) ?_;refine ldq 1 109 Tryz.underlying52 (fun w' h => h.a.range 0 da.cl rfl) ?_;refine tqB 2 110 ?_;have hmm := mA_of (ET.mk d kid) (AT.mk da kida);have A : Calls Tryz.prog 28 #[.agg da.ar, .pointer (some ⟨g, 0, none⟩)] w8 (ResP w0 w8 g (CM w0.heap.size) (planF n (AT.mk da kida) (pick cs 2).2)) := HPA.o (AT.mk da kida) (pick cs 2).2 g w0 w8 (HBW.o.trans (HF.o.f.p.below HG0.o hw0)) HG0.o (HA0.o.past HF.o.f.p) HWA.o HFA.o (by have := HM.o; omega) HC.o;refine rqA 3 fun K hK => ?_;go_simp;refine A.mono ?_;rintro r w7 ⟨y, rfl, hy, hc, hs, hcm, hp9⟩;have HY7 := iH hy;have HCY7 := iH hc;have HSY := iH hs;have HCM7 := iH hcm;have HPP7 := iH hp9;have HF7 := iH (HF.o.past hp9);clear hy hc hs hcm hp9 hHeld;refine rhK hK HF7.o.f fun hHeld => ?_;clear hK K A hmm;refine rqA 4 fun K hK => ?_;clear hHeld;go_simp;refine rhK hK ((HF7.o.below (bl_a _)).f) fun hHeld => ?_;clear hK K;have hb2 : Bl w7 (w7.alloc (.cells y.d.ar 46)) := bl_a _;have HF9 := iH (HF7.o.below hb2);have HQ := iH (Box.new w7 y.d.ar 46 (0, 0));have HSZ : Hd ((w7.alloc (.cells y.d.ar 46)).heap.size = w7.heap.size + 1) := (show _ = _ by simp);have HY9 := iH (HY7.o.keep (Stay.below hb2 fun q hq => (HCY7.o.i q hq).2));have HCM9 := iH (HCM7.o.below hb2);have HPP9 : Hd (Past g w8 (w7.alloc (.cells y.d.ar 46))) := HPP7.o.trans (Past.of_below hb2);have HS8 : Hd (w8.heap.size ≤ w7.heap.size) := HPP7.o.size;obtain ⟨gq, hgq⟩ : ∃ b, b = w7.heap.size := ⟨_, rfl⟩;rw [← hgq] at HQ HSZ HCY7 HS8 ⊢;generalize w7.alloc (.cells y.d.ar 46) = w9 at *;clear hb2 hgq HF7 HY7 HCM7 HPP7;refine tqB 5 113 (v := .agg (wEA 5 0 d (.slice none 0 0) (.slice none 0 0) (.slice (some ⟨gq, 0, none⟩) 1 1))) ?_;have hst : w9.there (w.heap.size + 2) 0 28 := HF9.o.o.there 0 28 (by simp);have on : ((wEA 5 0 d (.slice none 0 0) (.slice none 0 0) (.slice (some ⟨gq, 0, none⟩) 1 1)) : Array Value).all (·.oneCell') = true := all_oneCell_toArray (cs := (wEL 5 0 d (.slice none 0 0) (.slice none 0 0) (.slice (some ⟨gq, 0, none⟩) 1 1))) (by simp [Value.oneCell']);have hrd : (w9.setCells (w.heap.size + 2) 0 (wEL 5 0 d (.slice none 0 0) (.slice none 0 0) (.slice (some ⟨gq, 0, none⟩) 1 1))).rangeAt (w.heap.size + 2) 0 (wEL 5 0 d (.slice none 0 0) (.slice none 0 0) (.slice (some ⟨gq, 0, none⟩) 1 1)) := World.rangeAt_setCells_same _ _ _ _ hst;have HU := iH (but_sets (w.heap.size + 2) (wEL 5 0 d (.slice none 0 0) (.slice none 0 0) (.slice (some ⟨gq, 0, none⟩) 1 1)) 0 w9);refine rqA 6 fun K hK => ?_;refine step_storeV 46 (w.heap.size + 2) 0 (wEA 5 0 d (.slice none 0 0) (.slice none 0 0) (.slice (some ⟨gq, 0, none⟩) 1 1)) hst on ?_;clear hHeld;refine hK.out _ _ ?_ fun hHeld => ?_
   · exact HF9.o.f.but HU.o nR
   clear hK K hst on hHeld;try simp only [Act.put]
   generalize w9.setCells _ _ _ = W5 at *;refine wpAnyH_done (by kernel_rfl) ?_ _;go_wp2;try simp only [Exit.inBlock, Exit.then]
   refine bodyPost_ret (v := .agg (wEA 5 0 d (.slice none 0 0) (.slice none 0 0) (.slice (some ⟨gq, 0, none⟩) 1 1))) ?_ rfl ?_
   · exact results_cell rfl rfl (run_loadVar_mid (P := Tryz.prog) _ (w.heap.size + 2) 0 46 (wEL 5 0 d (.slice none 0 0) (.slice none 0 0) (.slice (some ⟨gq, 0, none⟩) 1 1)) _ hrd Tryz.underlying46 rfl (by kernel_rfl))
   exact HF.o.end (y := PT1 5 0 PBz (ET.mk d kid) gq y) hw0 (PT1.hang HY9.o (PBz.lies 0 w0) HE0.o HQ.o (by have := HS8.o; have := HF.o.f.s; omega)) (PT1.cp (HCY7.o.mono nR (by have := HSZ.o; omega)) (fun q hq => by have := (HCY7.o.i q hq).2; omega) HS8.o (by have := HSZ.o; omega)) (by rw [planF_late HNE.o]; exact PT1.sameF (ET.same.refl HE0.o) HSY.o) (by rw [planF_late HNE.o]; exact HCM9.o) HPP9.o HU.o
theorem plan_all : ∀ n, PA n ∧ QA n := by
 intro n;induction n with
 | zero =>
  refine ⟨fun a cs g w0 w hb h0 ha hwa hfa hm hc => ?_, fun e a cs g w0 w hb h0 he ha hwe hwa hez hfa hac hm hc => ?_⟩
  · have := mA_one a
    omega
  have := mA_one (filterA e a);omega
 | succ n ih =>
  obtain ⟨hP, hQ⟩ := ih;have hQ1 : QA (n + 1) := fun e a cs g w0 w hb h0 he ha hwe hwa hez hfa hac hm hc => by
   cases e with
   | nil => exact False.elim he
   | mk d kid =>
    cases a with
    | nil => exact False.elim ha
    | mk da kida =>
     by_cases h : (pick cs 2).1 = 1 ∧ (d.k = 2 ∧ d.op = 6)
     · exact filt_and n d kid da kida cs g w0 w hP hQ hb h0 he ha hwe hwa hez hfa hac hm hc h.1 h.2
     exact filt_not n d kid da kida cs g w0 w hP hQ hb h0 he ha hwe hwa hez hfa hac hm hc fun h1 h2 => h ⟨h1, h2⟩
  refine ⟨fun a cs g w0 w hb h0 ha hwa hfa hm hc => ?_, hQ1⟩;cases a with
  | nil => exact False.elim ha
  | mk d kid =>
   have k0 := hwa.1.1;have k7 := hwa.1.2.1;by_cases h0k : d.k = 0
   · exact plan_bgp n hP d kid h0k cs g w0 w hb h0 ha hwa hfa hm hc
   by_cases h7k : d.k = 7
   · exact plan_rows n hP d kid h7k cs g w0 w hb h0 ha hwa hfa hm hc
   by_cases h5k : d.k = 5
   · exact plan_filter n hP hQ1 d kid h5k cs g w0 w hb h0 ha hwa hfa hm hc
   exact plan_kids n hP d kid (by omega) cs g w0 w hb h0 ha hwa hfa hm hc
theorem l7plan_any (a : AT) (cs : List Int) (g : Nat) (w0 w : World) (hb : Bl w0 w) (h0 : w0.heap.size ≤ g) (ha : a.lies 0 w0) (hwa : WA a) (hac : ac a ≤ NN) (hc : CM w0.heap.size w g cs) :
 Calls Tryz.prog 28 #[.agg a.d.cells.toArray, .pointer (some ⟨g, 0, none⟩)] w (ResP w0 w g (CM w0.heap.size) (planF (mA a) a cs)) :=
 (plan_all (mA a)).1 a cs g w0 w hb h0 (ha.hung hb h0) hwa (FA.of hwa hac) nR hc
end Go.Proofs.YtoloadogihbdeaaGreat
