import Derived.Test.YtoloadogihbdeaaGreatMk28
namespace Go.Proofs.YtoloadogihbdeaaGreat
open Go.RowKit Go.Deep
set_option maxHeartbeats 40000000
set_option maxRecDepth 100000
variable {g : Nat} {y : PT} {W5 w w0 w1 wx : World}
theorem askedEarly_any (e : ET) (a : AT) (g : Nat) (w0 w : World) (hb : Bl w0 w) (h0 : w0.heap.size ≤ g) (hgw : g < w.heap.size) (he : e.lies 0 w0) (ha : a.hung w0 g w) (hwe : WE e) (hwa : WA a) (hez : esz e ≤ NN) (hfa : FA NN a) (hac : a.d.k = 5 ∨ ac a ≤ NN) :
 Calls Tryz.prog 123 #[.agg e.d.ar, .agg a.d.ar] w (EarR w0 g e a w) := by
 cases e with
 | nil => exact False.elim he
 | mk d kid =>
  cases a with
  | nil => exact False.elim ha
  | mk da kida =>
   by_cases h : d.k = 2 ∧ d.op = 6
   · exact ear_and d kid da kida g w0 w hb h0 hgw he ha hwe hwa hez hfa hac h
   exact ear_not d kid da kida g w0 w hb h0 hgw he ha hwe hwa hez hfa hac h
theorem ear_one (d : EN) (kid : Nat → ET) (da : AN) (kida : Nat → AT) (g : Nat) (w0 w : World) (hb : Bl w0 w) (h0 : w0.heap.size ≤ g) (hgw : g < w.heap.size) (he : (ET.mk d kid).lies 0 w0) (ha : (AT.mk da kida).hung w0 g w) (hwe : WE (ET.mk d kid)) (hwa : WA (AT.mk da kida)) (hez : esz (ET.mk d kid) ≤ NN) (hfa : FA NN (AT.mk da kida)) (hac : da.k = 5 ∨ ac (AT.mk da kida) ≤ NN) :
 Calls Tryz.prog 123 #[.agg d.ar, .agg da.ar] w (EarR w0 g (ET.mk d kid) (AT.mk da kida) w) := askedEarly_any (ET.mk d kid) (AT.mk da kida) g w0 w hb h0 hgw he ha hwe hwa hez hfa hac
def PI (n : Nat) : Prop := ∀ (a : AT) (cs : List Int) (g : Nat) (w0 w : World), Bl w0 w → w0.heap.size ≤ g → a.hung w0 g w → WA a → FA NN a → mA a ≤ n → CH w0.heap.size w g cs →
 Calls Tryz.prog 37 #[.pointer (some ⟨g, 0, none⟩), .agg #[.int .i64 a.d.k, .slice a.d.pa a.d.pn a.d.pc, .int .i64 a.d.e.d.k, .int .i64 a.d.e.d.op, .slice a.d.e.d.v.a a.d.e.d.v.len a.d.e.d.v.cap, .int .i64 a.d.e.d.t.t.k, .slice a.d.e.d.t.t.a a.d.e.d.t.t.len a.d.e.d.t.t.cap, .int .i64 a.d.e.d.t.t.n, .int .i64 a.d.e.d.t.t.s, .slice a.d.e.d.ka a.d.e.d.n a.d.e.d.kc, .slice a.d.v.a a.d.v.len a.d.v.cap, .slice a.d.ta a.d.tb.length a.d.tc, .slice a.d.ka a.d.n a.d.kc]] w (ResP w0 w g (CH w0.heap.size) (planF n a cs))
def QI (n : Nat) : Prop := ∀ (e : ET) (a : AT) (cs : List Int) (g : Nat) (w0 w : World), Bl w0 w → w0.heap.size ≤ g → e.lies 0 w0 → a.hung w0 g w → WE e → WA a → esz e ≤ NN → FA NN a → (a.d.k = 5 ∨ ac a ≤ NN) → mA (filterA e a) ≤ n → CH w0.heap.size w g cs →
 Calls Tryz.prog 85 #[.pointer (some ⟨g, 0, none⟩), .agg #[.int .i64 e.d.k, .int .i64 e.d.op, .slice e.d.v.a e.d.v.len e.d.v.cap, .int .i64 e.d.t.t.k, .slice e.d.t.t.a e.d.t.t.len e.d.t.t.cap, .int .i64 e.d.t.t.n, .int .i64 e.d.t.t.s, .slice e.d.ka e.d.n e.d.kc], .agg #[.int .i64 a.d.k, .slice a.d.pa a.d.pn a.d.pc, .int .i64 a.d.e.d.k, .int .i64 a.d.e.d.op, .slice a.d.e.d.v.a a.d.e.d.v.len a.d.e.d.v.cap, .int .i64 a.d.e.d.t.t.k, .slice a.d.e.d.t.t.a a.d.e.d.t.t.len a.d.e.d.t.t.cap, .int .i64 a.d.e.d.t.t.n, .int .i64 a.d.e.d.t.t.s, .slice a.d.e.d.ka a.d.e.d.n a.d.e.d.kc, .slice a.d.v.a a.d.v.len a.d.v.cap, .slice a.d.ta a.d.tb.length a.d.tc, .slice a.d.ka a.d.n a.d.kc]] w (ResP w0 w g (CH w0.heap.size) (planF n (filterA e a) cs))
theorem ResP.storeH {ro : Nat} {z : PT × List Int} (hp : Past g w wx) (hr : w.heap.size ≤ ro ∧ ro < wx.heap.size) (hg : g < w.heap.size) (h0 : w0.heap.size ≤ w.heap.size) (h1 : y.hang w0 w1) (h2 : Cp wx.heap.size w1.heap.size y.fr) (h3 : y.same z.1) (h4 : CH w0.heap.size w1 g z.2) (h5 : Past g wx w1) (hu : But ro w1 W5) :
 ResP w0 w g (CH w0.heap.size) z (.returned (.agg y.d.ar)) W5 :=
 ⟨y, rfl, h1.keep (Stay.but hu fun q hq => by have := (h2.i q hq).1; omega), by rw [hu.size]; exact h2.mono hp.size nR, h3, h4.stay (M := ro) (hu.below nR) (by omega) (by omega), (hp.trans h5).but hu hr.1⟩
theorem FB.endH {EC AC : List Value} {z : PT × List Int} (h : FB w g EC AC wx) (h0 : w0.heap.size ≤ w.heap.size) (h1 : y.hang w0 w1) (h2 : Cp wx.heap.size w1.heap.size y.fr) (h3 : y.same z.1) (h4 : CH w0.heap.size w1 g z.2) (h5 : Past g wx w1) (hu : But (w.heap.size + 2) w1 W5) :
 ResP w0 w g (CH w0.heap.size) z (.returned (.agg y.d.ar)) W5 := ResP.storeH h.f.p ⟨by omega, by have := h.f.s; omega⟩ h.f.g h0 h1 h2 h3 h4 h5 hu
theorem filterI (n : Nat) (d : EN) (kid : Nat → ET) (da : AN) (kida : Nat → AT) (cs : List Int) (g : Nat) (w0 w : World) (hPI : PI n) (hb : Bl w0 w) (h0 : w0.heap.size ≤ g) (he : (ET.mk d kid).lies 0 w0) (ha : (AT.mk da kida).hung w0 g w) (hwe : WE (ET.mk d kid)) (hwa : WA (AT.mk da kida)) (hez : esz (ET.mk d kid) ≤ NN) (hfa : FA NN (AT.mk da kida)) (hac : da.k = 5 ∨ ac (AT.mk da kida) ≤ NN) (hm : mA (filterA (ET.mk d kid) (AT.mk da kida)) ≤ n + 1) (hc : CH w0.heap.size w g cs) :
 Calls Tryz.prog 85 #[.pointer (some ⟨g, 0, none⟩), .agg d.ar, .agg da.ar] w (ResP w0 w g (CH w0.heap.size) (planF (n + 1) (filterA (ET.mk d kid) (AT.mk da kida)) cs)) := by
 try unfold AN.ar AN.cl
 try unfold EN.ar EN.cl
 have HPI := iH hPI;have HBW := iH hb;have HG0 := iH h0;have HE0 := iH he;have HA0 := iH ha;have HWE := iH hwe;have HWA := iH hwa;have HEZ := iH hez;have HFA := iH hfa;have HAC := iH hac;have HM := iH hm;have hgw : g < w.heap.size := by obtain ⟨⟨_, _, h, _⟩, _⟩ := hc; exact h.1
 have hw0 := hb.size;have HF : Hd (FB w g d.cl da.cl (((w.alloc (.cells d.ar 42)).alloc (.cells da.ar 52)).alloc (.cells zNa 46))) := ⟨⟨Past.of_below (bl_alloc (bl_alloc (bl_a _) _) _), (show Box _ _ _ by exact ((Box.new w d.ar 42 (0, 0)).below (bl_a _)).below (bl_a _)), (show Box _ _ _ by have h := (Box.new (w.alloc (.cells d.ar 42)) da.ar 52 (0, 0)).below (bl_a (.cells zNa 46)); simpa using h), (show _ ≤ _ by simp), hgw⟩, (show OB _ _ _ by have h := OB.new ((w.alloc (.cells d.ar 42)).alloc (.cells da.ar 52)) zNa 46; simpa using h)⟩;have HC := iH (hc.below (bl_alloc (bl_alloc (bl_a (w := w) (.cells d.ar 42)) (.cells da.ar 52)) (.cells zNa 46)));clear hPI hb h0 he ha hwe hwa hez hfa hac hm hc;go_in;go_upto_region 1 with fail
 generalize (((w.alloc _).alloc _).alloc _) = W1 at *;have A := among_any g 2 cs W1 HC.o (by omega);go_upto_region 1 with fail
 go_wp2_with fail
 refine A.mono ?_;rintro r w1 ⟨kk, rfl, hk, hcm, hbu⟩;have hp := Past.of_but hbu;replace HF := iH (HF.o.past hp);replace HC := iH hcm;obtain ⟨k1, hk1⟩ : ∃ k1 : Nat, k1 = (pick cs 2).1 := ⟨_, rfl⟩;obtain rfl : kk = (k1 : Int) := by rw [hk.o, hk1]
 have HK1 := iH hk1;clear A hcm hk hk1 hp hbu;go_upto_if 11 with fail
 obtain ⟨lb, hlb⟩ : ∃ lb : Bool, lb = ((k1 : Int) == 1) := ⟨_, rfl⟩;rw [← hlb];have HLB : Hd (TQ lb (k1 = 1)) := (show _ ↔ _ by rw [hlb]; simp; omega);clear hlb;go_cut [] from 7 to 21 (fun wx => Hd (FB w g [.int .i64 d.k, .int .i64 d.op, .slice d.v.a d.v.len d.v.cap, .int .i64 d.t.t.k, .slice d.t.t.a d.t.t.len d.t.t.cap, .int .i64 d.t.t.n, .int .i64 d.t.t.s, .slice d.ka d.n d.kc] [.int .i64 da.k, .slice da.pa da.pn da.pc, .int .i64 da.e.d.k, .int .i64 da.e.d.op, .slice da.e.d.v.a da.e.d.v.len da.e.d.v.cap, .int .i64 da.e.d.t.t.k, .slice da.e.d.t.t.a da.e.d.t.t.len da.e.d.t.t.cap, .int .i64 da.e.d.t.t.n, .int .i64 da.e.d.t.t.s, .slice da.e.d.ka da.e.d.n da.e.d.kc, .slice da.v.a da.v.len da.v.cap, .slice da.ta da.tb.length da.tc, .slice da.ka da.n da.kc] wx) ∧ Hd (CH w0.heap.size wx g (pick cs 2).2) ∧ Hd ((pick cs 2).1 = 1 → early (ET.mk d kid) (AT.mk da kida) = none))
 case first =>
  cases lb with
  | true =>
   have le : w1.rangeAt w.heap.size 0 d.cl := HF.o.f.e.range 0 _ rfl;have la : w1.rangeAt (w.heap.size + 1) 0 da.cl := HF.o.f.a.range 0 _ rfl;have HLOW : Hd ((pick cs 2).1 = 1) := (show _ = _ by rw [← HK1.o]; exact HLB.o.yes);have A := ear_one d kid da kida g w0 w1 (HBW.o.trans (HF.o.f.p.below HG0.o hw0)) HG0.o (by have := HF.o.f.s; omega) HE0.o (HA0.o.past HF.o.f.p) HWE.o HWA.o HEZ.o HFA.o HAC.o;go_wp2_with (first | (with_reducible refine wpv_at ?_; refine ldr rfl rfl rfl Tryz.underlying42 le rfl ?_; try simp only [Act.put, sA, zA, cA]) | (with_reducible refine wpv_at ?_; refine ldr rfl rfl rfl Tryz.underlying52 la rfl ?_; try simp only [Act.put, sA, zA, cA]))
   refine A.mono ?_;clear A le la;rintro r w2 (⟨hne, rfl, hb2⟩ | ⟨b, b', hea, rfl, hbh, hbs, hbw, hbf, hbm, hb2⟩)
   · have HNE := iH hne
     replace HF := iH (HF.o.below hb2);replace HC := iH (HC.o.below hb2);clear hne hb2;have hth := (OB.new w2 zGa 52).there 0 13 (by simp);have one1 := all_oneCell_toArray (cs := zGl) (by simp [Value.oneCell']);have HNB := iH ((OB.new w2 zGa 52).put [.int _ 0, .slice _ 0 0, .int _ 0, .int _ 0, .slice _ 0 0, .int _ 0, .slice _ 0 0, .int _ 0, .int _ 0, .slice _ 0 0, .slice _ 0 0, .slice _ 0 0, .slice _ 0 0] 0 zGl (by simp) rfl);have HNW : Hd (Bl w2 ((w2.alloc (.cells zGa 52)).setCells w2.heap.size 0 zGl)) := below_sets (w0 := w2) _ nR _ 0 _ (bl_a _);go_wp2_with (with_reducible refine wpv_at ?_; refine store_stopV 52 (.tmp 7) (.tmp 16) rfl ?_)
     change wpList _ _ _ _ _ _;refine wpList_store_mid rfl 52 _ _ rfl w2.heap.size 0 zGa rfl rfl hth (by kernel_rfl) one1 ?_;try simp only [Act.put]
     generalize (w2.alloc _).setCells _ _ _ = w3 at *;clear hth one1;replace HF := iH (HF.o.below HNW.o);replace HC := iH (HC.o.below HNW.o);go_wp2_with fail
     go_meet;exact ⟨HF, HC, fun _ => HNE.o⟩
   have HEA := iH hea;have HBH := iH hbh;have HBS := iH hbs;have HBWA := iH hbw;have HBF := iH hbf;have HBM := iH hbm;replace HF := iH (HF.o.below hb2);replace HC := iH (HC.o.below hb2);clear hea hbh hbs hbw hbf hbm hb2;have hth := (OB.new w2 zGa 52).there 0 13 (by simp);have one1 := all_oneCell_toArray (cs := b.d.cl) (by simp [Value.oneCell']);have HNB := iH ((OB.new w2 zGa 52).put [.int _ _, .slice _ _ _, .int _ _, .int _ _, .slice _ _ _, .int _ _, .slice _ _ _, .int _ _, .int _ _, .slice _ _ _, .slice _ _ _, .slice _ _ _, .slice _ _ _] 0 b.d.cl (by simp) rfl);have HNW : Hd (Bl w2 ((w2.alloc (.cells zGa 52)).setCells w2.heap.size 0 b.d.cl)) := below_sets (w0 := w2) _ nR _ 0 _ (bl_a _);go_wp2_with (with_reducible refine wpv_at ?_; refine store_stopV 52 (.tmp 7) (.tmp 16) rfl ?_)
   change wpList _ _ _ _ _ _;refine wpList_store_mid rfl 52 _ _ rfl w2.heap.size 0 b.d.ar rfl rfl hth (by kernel_rfl) one1 ?_;try simp only [Act.put]
   generalize (w2.alloc _).setCells _ _ _ = w3 at *;clear hth one1;replace HF := iH (HF.o.below HNW.o);replace HC := iH (HC.o.below HNW.o);obtain ⟨b8, hb8⟩ : ∃ q, q = w2.heap.size := ⟨_, rfl⟩;have HBH3 := iH (HBH.o.past (Past.of_below HNW.o));rw [← hb8] at HNB ⊢;clear hb8 HNW HBH;have lx : w3.rangeAt b8 0 b.d.cl := HNB.o.box.range 0 _ rfl;have hmm := mA_early (e := ET.mk d kid) (a := AT.mk da kida) (b := b') (fun h5 => ?hma) HEA.o
   case hma =>
    by_cases hk : da.k = 1 ∨ da.k = 2 ∨ da.k = 3 ∨ da.k = 4
    · exact .inl (by have h : da.n = kidsA da.k := HWA.o.1.2.2; rw [kidsA_two hk] at h; show 2 ≤ da.n; omega)
    exact .inr hk
   have A := HPI.o b (pick cs 2).2 g w0 w3 (HBW.o.trans (HF.o.f.p.below HG0.o hw0)) HG0.o HBH3.o HBWA.o HBF.o (by have := HM.o; have := HBM.o; omega) HC.o;clear hmm;go_wp2_with (with_reducible refine wpv_at ?_; refine ldr rfl rfl rfl Tryz.underlying52 lx rfl ?_; try simp only [Act.put, sA, zA, cA])
   refine A.mono ?_;intro r w9 hR;have hR := ResP.like hR HBWA.o HBS.o;rw [← planF_early HLOW.o HEA.o] at hR;obtain ⟨y, rfl, hy, hc, hs, hcm, hp9⟩ := hR;have HY := iH hy;have HCY := iH hc;have HSY := iH hs;have HCM9 := iH hcm;have HPP := iH hp9;have HF9 := iH (HF.o.past hp9);clear hy hc hs hcm hp9 A lx;have hst := HF9.o.o.there 0 28 (by simp);have on := all_oneCell_toArray (cs := y.d.cl) (by simp [Value.oneCell']);have hrd : (w9.setCells (w.heap.size + 2) 0 y.d.cl).rangeAt (w.heap.size + 2) 0 y.d.cl := World.rangeAt_setCells_same _ _ _ _ hst;have HU := iH (but_sets (w.heap.size + 2) y.d.cl 0 w9);go_wp2_with (with_reducible refine wpv_at ?_; refine store_stopV 46 (.tmp 6) (.tmp 21) rfl ?_)
   change wpList _ _ _ _ _ _;refine wpList_store_mid rfl 46 _ _ rfl (w.heap.size + 2) 0 y.d.ar rfl rfl hst (by kernel_rfl) on ?_;try simp only [Act.put]
   clear hst on;generalize w9.setCells _ _ _ = W5 at *;go_wp2;try simp only [Exit.inBlock, Exit.then]
   refine bodyPost_ret (v := .agg y.d.ar) ?_ rfl ?_
   · exact results_cell rfl rfl (run_loadVar_mid (P := Tryz.prog) _ (w.heap.size + 2) 0 46 y.d.cl _ hrd Tryz.underlying46 rfl (by kernel_rfl))
   exact HF.o.endH hw0 HY.o HCY.o HSY.o HCM9.o HPP.o HU.o
  | false =>
   go_wp2_with fail
   go_meet;exact ⟨HF, HC, fun h => absurd (HK1.o.trans h) HLB.o.no⟩
 obtain ⟨HFx, HCx, HNE⟩ := hcut;clear HF HC;have HF := HFx;have HC := HCx;clear HFx HCx;obtain ⟨w3, rfl⟩ : ∃ w3, w3 = wc := ⟨_, rfl⟩;go_wp2_with fail
 refine wqd (fun w' => FE w g d.cl da.cl w') ?_ fun hHeld => ?_
 · exact (HF.o.below bdr).f
 replace HF := iH (HF.o.below bdr);replace HC := iH (HC.o.below bdr);generalize w3.drew = w8 at *;refine ldq 0 22 Tryz.underlying42 (fun w' h => h.e.range 0 d.cl rfl) ?_;refine tqB 1 23 ?_;refine ldq 2 24 Tryz.underlying52 (fun w' h => h.a.range 0 da.cl rfl) ?_;have hmm := mA_of (ET.mk d kid) (AT.mk da kida);have A : Calls Tryz.prog 37 #[.pointer (some ⟨g, 0, none⟩), .agg da.ar] w8 (ResP w0 w8 g (CH w0.heap.size) (planF n (AT.mk da kida) (pick cs 2).2)) := HPI.o _ _ g w0 w8 (HBW.o.trans (HF.o.f.p.below HG0.o hw0)) HG0.o (HA0.o.past HF.o.f.p) HWA.o HFA.o (by have := HM.o; omega) HC.o;refine rqA 3 fun K hK => ?_;go_simp;refine A.mono ?_;rintro r w7 ⟨y, rfl, hy, hc, hs, hcm, hp9⟩;have HY7 := iH hy;have HCY7 := iH hc;have HSY := iH hs;have HCM7 := iH hcm;have HPP7 := iH hp9;have HF7 := iH (HF.o.past hp9);clear hy hc hs hcm hp9 hHeld;refine rhK hK HF7.o.f fun hHeld => ?_;clear hK K A hmm;refine rqA 4 fun K hK => ?_;clear hHeld;go_simp;refine rhK hK ((HF7.o.below (bl_a _)).f) fun hHeld => ?_;clear hK K;have hb2 : Bl w7 (w7.alloc (.cells y.d.ar 46)) := bl_a _;have HF9 := iH (HF7.o.below hb2);have HQ := iH (Box.new w7 y.d.ar 46 (0, 0));have HSZ : Hd ((w7.alloc (.cells y.d.ar 46)).heap.size = w7.heap.size + 1) := (show _ = _ by simp);have HY9 := iH (HY7.o.keep (Stay.below hb2 fun q hq => (HCY7.o.i q hq).2));have HCM9 := iH (HCM7.o.below hb2);have HPP9 := iH (HPP7.o.trans (Past.of_below hb2));have HS8 := iH HPP7.o.size;obtain ⟨gq, hgq⟩ : ∃ b, b = w7.heap.size := ⟨_, rfl⟩;rw [← hgq] at HQ HSZ HCY7 HS8 ⊢;generalize w7.alloc (.cells y.d.ar 46) = w9 at *;clear hb2 hgq HF7 HY7 HCM7 HPP7;refine tqB 5 27 (v := .agg (wEA 5 0 d (.slice none 0 0) (.slice none 0 0) (.slice (some ⟨gq, 0, none⟩) 1 1))) ?_;have hst := HF9.o.o.there 0 28 (by simp);have on := all_oneCell_toArray (cs := (wEL 5 0 d (.slice none 0 0) (.slice none 0 0) (.slice (some ⟨gq, 0, none⟩) 1 1))) (by simp [Value.oneCell']);have hrd : (w9.setCells (w.heap.size + 2) 0 (wEL 5 0 d (.slice none 0 0) (.slice none 0 0) (.slice (some ⟨gq, 0, none⟩) 1 1))).rangeAt (w.heap.size + 2) 0 (wEL 5 0 d (.slice none 0 0) (.slice none 0 0) (.slice (some ⟨gq, 0, none⟩) 1 1)) := World.rangeAt_setCells_same _ _ _ _ hst;have HU := iH (but_sets (w.heap.size + 2) (wEL 5 0 d (.slice none 0 0) (.slice none 0 0) (.slice (some ⟨gq, 0, none⟩) 1 1)) 0 w9);refine rqA 6 fun K hK => ?_;refine step_storeV 46 (w.heap.size + 2) 0 (wEA 5 0 d (.slice none 0 0) (.slice none 0 0) (.slice (some ⟨gq, 0, none⟩) 1 1)) hst on ?_;clear hHeld;refine hK.out _ _ ?_ fun hHeld => ?_
 · exact HF9.o.f.but HU.o nR
 clear hK K hst on hHeld;try simp only [Act.put]
 generalize w9.setCells _ _ _ = W5 at *;refine wpAnyH_done (by kernel_rfl) ?_ _;go_wp2;try simp only [Exit.inBlock, Exit.then]
 refine bodyPost_ret (v := .agg (wEA 5 0 d (.slice none 0 0) (.slice none 0 0) (.slice (some ⟨gq, 0, none⟩) 1 1))) ?_ rfl ?_
 · exact results_cell rfl rfl (run_loadVar_mid (P := Tryz.prog) _ (w.heap.size + 2) 0 46 (wEL 5 0 d (.slice none 0 0) (.slice none 0 0) (.slice (some ⟨gq, 0, none⟩) 1 1)) _ hrd Tryz.underlying46 rfl (by kernel_rfl))
 exact HF.o.endH (y := PT1 5 0 PBz (ET.mk d kid) gq y) hw0 (PT1.hang HY9.o (PBz.lies 0 w0) HE0.o HQ.o (by have := HS8.o; have := HF.o.f.s; omega)) (PT1.cp (HCY7.o.mono nR (by have := HSZ.o; omega)) (fun q hq => by have := (HCY7.o.i q hq).2; omega) HS8.o (by have := HSZ.o; omega)) (by rw [planF_late HNE.o]; exact PT1.sameF (ET.same.refl HE0.o) HSY.o) (by rw [planF_late HNE.o]; exact HCM9.o) HPP9.o HU.o
theorem step_loadV {P : Program} {ops : Array Oper} {op : Oper} {a : Act} {K : Act → World → Prop} {Q : Exit → Act → World → Prop} {E : Prop} (ty : TypeId) (x : Operand) (dd b o : Nat) (cs : List Value) {d : TypeDesc} (hu : P.underlying ty = some d) (hc : w.rangeAt b o cs)
 (h : K (a.put (some dd) (.agg cs.toArray)) w) (hdd : op.dst = some dd := by rfl) (hgd : op.guard = none := by rfl) (ho : op.op = .load ty x := by rfl) (hx : a.eval x = .pointer (some ⟨b, o, none⟩) := by rfl) (hd : d.isRow = true := by rfl) (hi : (P.info? ty).map (·.size) = some cs.length := by kernel_rfl) : if Region.wanted op (yielded ops a.tmps) = true then Oper.wp P op a w K Q else E := by
 have hw : Region.wanted op (yielded ops a.tmps) = true := by simp [Region.wanted, hgd]
 rw [if_pos hw];exact wp_load_mid ty x ho b o hx cs d hc hu hd hi (by rw [hdd]; exact h)
theorem reverse2 (x y : PT) (q c : Nat) (w : World) (h : OB w q (x.d.cl ++ y.d.cl)) :
 Calls Tryz.prog 87 #[.slice (some ⟨q, 0, none⟩) 2 c] w fun r w' => r = .returned (.tuple #[]) ∧ Hd (OB w' q (y.d.cl ++ x.d.cl)) ∧ Hd (Past q w w') := by
 have HO := iH h;clear h;go_in;go_wp2_with fail
 go_loopw [2, 3] (fun i j wr => (i = .int .i64 0 ∧ j = .int .i64 1 ∧ Hd (wr = w)) ∨ (i = .int .i64 1 ∧ j = .int .i64 0 ∧ Hd (OB wr q ([.int .i64 y.d.k, .int .i64 y.d.ord, .slice y.d.p.s.v.a y.d.p.s.v.len y.d.p.s.v.cap, .int .i64 y.d.p.s.t.t.k, .slice y.d.p.s.t.t.a y.d.p.s.t.t.len y.d.p.s.t.t.cap, .int .i64 y.d.p.s.t.t.n, .int .i64 y.d.p.s.t.t.s, .slice y.d.p.p.v.a y.d.p.p.v.len y.d.p.p.v.cap, .int .i64 y.d.p.p.t.t.k, .slice y.d.p.p.t.t.a y.d.p.p.t.t.len y.d.p.p.t.t.cap, .int .i64 y.d.p.p.t.t.n, .int .i64 y.d.p.p.t.t.s, .slice y.d.p.o.v.a y.d.p.o.v.len y.d.p.o.v.cap, .int .i64 y.d.p.o.t.t.k, .slice y.d.p.o.t.t.a y.d.p.o.t.t.len y.d.p.o.t.t.cap, .int .i64 y.d.p.o.t.t.n, .int .i64 y.d.p.o.t.t.s, .int .i64 y.d.e.d.k, .int .i64 y.d.e.d.op, .slice y.d.e.d.v.a y.d.e.d.v.len y.d.e.d.v.cap, .int .i64 y.d.e.d.t.t.k, .slice y.d.e.d.t.t.a y.d.e.d.t.t.len y.d.e.d.t.t.cap, .int .i64 y.d.e.d.t.t.n, .int .i64 y.d.e.d.t.t.s, .slice y.d.e.d.ka y.d.e.d.n y.d.e.d.kc, .slice y.d.v.a y.d.v.len y.d.v.cap, .slice y.d.ta y.d.tb.length y.d.tc, .slice y.d.ka y.d.n y.d.kc] ++ [.int .i64 x.d.k, .int .i64 x.d.ord, .slice x.d.p.s.v.a x.d.p.s.v.len x.d.p.s.v.cap, .int .i64 x.d.p.s.t.t.k, .slice x.d.p.s.t.t.a x.d.p.s.t.t.len x.d.p.s.t.t.cap, .int .i64 x.d.p.s.t.t.n, .int .i64 x.d.p.s.t.t.s, .slice x.d.p.p.v.a x.d.p.p.v.len x.d.p.p.v.cap, .int .i64 x.d.p.p.t.t.k, .slice x.d.p.p.t.t.a x.d.p.p.t.t.len x.d.p.p.t.t.cap, .int .i64 x.d.p.p.t.t.n, .int .i64 x.d.p.p.t.t.s, .slice x.d.p.o.v.a x.d.p.o.v.len x.d.p.o.v.cap, .int .i64 x.d.p.o.t.t.k, .slice x.d.p.o.t.t.a x.d.p.o.t.t.len x.d.p.o.t.t.cap, .int .i64 x.d.p.o.t.t.n, .int .i64 x.d.p.o.t.t.s, .int .i64 x.d.e.d.k, .int .i64 x.d.e.d.op, .slice x.d.e.d.v.a x.d.e.d.v.len x.d.e.d.v.cap, .int .i64 x.d.e.d.t.t.k, .slice x.d.e.d.t.t.a x.d.e.d.t.t.len x.d.e.d.t.t.cap, .int .i64 x.d.e.d.t.t.n, .int .i64 x.d.e.d.t.t.s, .slice x.d.e.d.ka x.d.e.d.n x.d.e.d.kc, .slice x.d.v.a x.d.v.len x.d.v.cap, .slice x.d.ta x.d.tb.length x.d.tc, .slice x.d.ka x.d.n x.d.kc])) ∧ Hd (Past q w wr))) (fun i _ _ => 1 - (intOf i).toNat)
 case atStart => exact .inl ⟨rfl, rfl, rfl⟩
 rcases hrel with ⟨rfl, rfl, hw⟩ | ⟨rfl, rfl, HOE, HPE⟩
 · obtain rfl := hw.o
   go_wp2_with fail
   refine wqd (fun w' => Past q wr w') ?_ fun hHeld => ?_
   · exact Past.of_below bdr
   have HO1 := iH (HO.o.below bdr);have HP1 : Hd (Past q wr wr.drew) := Past.of_below bdr;generalize wr.drew = w1 at *;refine tqB 0 14 ?_;refine tqB 1 15 ?_;refine tqB 2 16 ?_;refine tqB 3 17 ?_;refine tqB 4 18 ?_;refine tqB 5 19 ?_;refine tqB 6 20 (v := .pointer (some ⟨q, 28, none⟩)) ?_;refine tqB 8 22 ?_;refine tqB 9 23 ?_;refine tqB 10 24 (v := .pointer (some ⟨q, 0, none⟩)) ?_;repeat' first
    | refine rd2 7 11 ?_ ?_
    | refine rd1 7 ?_
    | refine rd1 11 ?_
    |
     intro tg K hK;have tq : Tg 7 := tg;clear tq tg;clear hHeld;refine step_loadV 46 (.tmp 20) 21 q 28 y.d.cl Tryz.underlying46 (HO1.o.box.range 28 y.d.cl rfl) ?_;refine rhK hK HP1.o fun hHeld => ?_;clear hK K
    |
     intro tg K hK;have tq := tg;clear tq tg;clear hHeld;refine step_loadV 46 (.tmp 24) 25 q 0 x.d.cl Tryz.underlying46 (HO1.o.box.range 0 x.d.cl rfl) ?_;refine rhK hK HP1.o fun hHeld => ?_;clear hK K
    | fail
   all_goals
    refine tqB 12 26 (v := .pointer (some ⟨q, 0, none⟩)) ?_;have hst := HO1.o.there 0 28 (by simp);have on := all_oneCell_toArray (cs := y.d.cl) (by simp [Value.oneCell']);have HO2 : Hd (OB (w1.setCells q 0 y.d.cl) q (y.d.cl ++ y.d.cl)) := (show OB _ _ _ by have h := HO1.o.put y.d.cl 0 _ (by simp) rfl; exact h);have HP2 := iH (HP1.o.but2 (but_sets q y.d.cl 0 w1));refine rqA 13 fun K hK => ?_;refine step_storeV 46 q 0 y.d.ar hst on ?_;clear hHeld;refine hK.out _ _ ?_ fun hHeld => ?_
    · exact HP2.o
    clear hK K hst on;try simp only [Act.put]
    generalize (w1.setCells q 0 y.d.cl) = w2 at *;clear HO1 HP1;refine tqB 14 27 (v := .pointer (some ⟨q, 28, none⟩)) ?_;have hst := HO2.o.there 28 28 (by simp);have on := all_oneCell_toArray (cs := x.d.cl) (by simp [Value.oneCell']);have HO3 : Hd (OB (w2.setCells q 28 x.d.cl) q (y.d.cl ++ x.d.cl)) := (show OB _ _ _ by have h := HO2.o.put x.d.cl 28 _ (by simp) rfl; exact h);have HP3 := iH (HP2.o.but2 (but_sets q x.d.cl 28 w2));refine rqA 15 fun K hK => ?_;refine step_storeV 46 q 28 x.d.ar hst on ?_;clear hHeld;refine hK.out _ _ ?_ fun hHeld => ?_
    · exact HP3.o
    clear hK K hst on;try simp only [Act.put]
    generalize (w2.setCells q 28 x.d.cl) = w3 at *;clear HO2 HP2;clear hHeld;refine wpAnyH_done (by kernel_rfl) ?_ _;go_wp2;go_roundw
    case rel => exact .inr ⟨rfl, rfl, HO3.o, HP3.o⟩
    case measure => simp [intOf]
 go_wp2;go_end0;exact ⟨rfl, HOE.o, HPE.o⟩
end Go.Proofs.YtoloadogihbdeaaGreat
