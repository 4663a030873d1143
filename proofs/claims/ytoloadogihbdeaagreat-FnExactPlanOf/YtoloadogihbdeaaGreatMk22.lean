import Derived.Test.YtoloadogihbdeaaGreatMk21
namespace Go.Proofs.YtoloadogihbdeaaGreat
open Go.RowKit Go.Deep
set_option maxHeartbeats 40000000
set_option maxRecDepth 100000
variable {a b f : AT} {e ex : ET} {k : Int} {c : List Int} {AC EC : List Value} {B g n q : Nat} {y : PT} {P : Prop} {W5 w w' w0 w1 wx wy : World}
def AF (e : ET) (q : Nat) (a : AT) : AT := .mk ⟨5, none, 0, 0, AN0.pat, e, SL0, none, 0, [], some ⟨q, 0, none⟩, 1, 1⟩ (fun _ => a)
def A2X (k : Int) (ex : ET) (q : Nat) (f b : AT) : AT := .mk ⟨k, none, 0, 0, AN0.pat, ex, SL0, none, 0, [], some ⟨q, 0, none⟩, 2, 2⟩ (fun i => if i = 0 then f else b)
theorem AF.hung (ha : a.hung w0 g w) (he : e.lies 0 w0) (hb : Box w q a.d.cells) (hq : q ≠ g) : (AF e q a).hung w0 g w :=
 ⟨.inl rfl, fun i hi => absurd hi nN, nZ, he, (SL0_own 0 w0).1, TRow0 _ _, nZ, (by show 1 ≤ 1048576; omega), .inr ⟨q, 0, rfl, hq, hb.1, fun i hi c u hu => by
  obtain rfl : i = 0 := (by have : i < 1 := hi; omega)
  simpa using hb.2 c u hu⟩, fun _ _ => ha⟩
theorem A2X.hung (hf : f.hung w0 g w) (hb : b.hung w0 g w) (he : ex.lies 0 w0) (hx : Box w q (f.d.cells ++ b.d.cells)) (hq : q ≠ g) : (A2X k ex q f b).hung w0 g w := by
 refine ⟨.inl rfl, fun i hi => absurd hi nN, nZ, he, (SL0_own 0 w0).1, TRow0 _ _, nZ, (by show 2 ≤ 1048576; omega), .inr ⟨q, 0, rfl, hq, hx.1, fun i hi c u hu => ?_⟩, fun i hi => ?_⟩
 · have hi2 : i = 0 ∨ i = 1 := by have : i < 2 := hi; omega
   have ec := (List.getElem?_eq_some_iff.1 hu).1;rcases hi2 with rfl | rfl
   · have ec2 : c < 13 := ec
     have h := hx.2 c u (by rw [List.getElem?_append_left (by rw [AN.cells_len]; exact ec2)]; exact hu);simpa using h
   have h := hx.2 (13 + c) u (by rw [List.getElem?_append_right (by rw [AN.cells_len]; omega), AN.cells_len, Nat.add_sub_cancel_left]; exact hu);simpa using h
 show AT.hung w0 g w (if i = 0 then f else b);split
 · exact hf
 exact hb
theorem A2X.wa (hk : k = 1 ∨ k = 2 ∨ k = 3 ∨ k = 4) (hz : ¬ hasE k → zeroE ex) (he : WE ex) (hf : WA f) (hb : WA b) : WA (A2X k ex q f b) := by
 refine ⟨⟨by show (0 : Int) ≤ k; omega, by show k ≤ 7; omega, (kidsA_two hk).symm⟩, ⟨fun _ => rfl, fun _ => rfl⟩, ⟨hz, fun _ => rfl⟩, he, fun i hi => ?_⟩
 show WA (if i = 0 then f else b);split
 · exact hf
 exact hb
theorem A2X.fa {N : Nat} (hk : k ≠ 5) (hf : FA N f) (hb : FA N b) : FA N (A2X k ex q f b) := by
 refine ⟨fun h => absurd h hk, fun _ i hi => ?_⟩;show FA N (if i = 0 then f else b);split
 · exact hf
 exact hb
theorem A2X.ma (hk : k ≠ 5) : mA (A2X k ex q f b) = 1 + (mA f + mA b) := by
 show (if k = 5 then _ else 1 + sumN 2 _) = _;rw [if_neg hk, sum_two];rfl
theorem AT.refl_lies : a.lies B w → a.same a := by
 induction a with
 | nil => exact fun h => False.elim h
 | mk d kid ih =>
  rintro ⟨_, _, _, h4, _, _, _, _, _, h10⟩;exact ⟨rfl, rfl, fun _ _ => ⟨⟨rfl, rfl⟩, ⟨rfl, rfl⟩, ⟨rfl, rfl⟩⟩, ET.same.refl (ET.lies.base nZ h4), rfl, rfl, rfl, fun i hi => ih i (h10 i hi)⟩
theorem AF.same (he : e.same e) (ha : a.same a) : (AF e q a).same (filterA e a) := ⟨rfl, rfl, fun _ hi => absurd hi nN, he, rfl, rfl, rfl, fun _ _ => ha⟩
theorem A2X.same {kid : Nat → AT} (he : ex.same ex) (hf : f.same (kid 0)) (hb : b.same (kid 1)) : (A2X k ex q f b).same (.mk ⟨k, none, 0, 0, AN0.pat, ex, SL0, none, 0, [], none, 2, 2⟩ kid) := by
 refine ⟨rfl, rfl, fun i hi => absurd hi nN, he, rfl, rfl, rfl, fun i hi => ?_⟩;have hi2 : i = 0 ∨ i = 1 := by have : i < 2 := hi; omega
 show AT.same (if i = 0 then f else b) (kid i);rcases hi2 with rfl | rfl
 · exact hf
 exact hb
theorem planF_early (h1 : (pick c 2).1 = 1) (h2 : early e a = some b) : planF (n + 1) (filterA e a) c = planF n b (pick c 2).2 := by
 show (match (if (pick c 2).1 = 1 then early e a else none) with | some b => _ | none => _) = _;rw [if_pos h1, h2]
theorem planF_late (h : (pick c 2).1 = 1 → early e a = none) : planF (n + 1) (filterA e a) c = (filterP e (planF n a (pick c 2).2).1, (planF n a (pick c 2).2).2) := by
 show (match (if (pick c 2).1 = 1 then early e a else none) with | some b => _ | none => _) = _;by_cases h1 : (pick c 2).1 = 1
 · rw [if_pos h1, h h1]
 rw [if_neg h1]
def NN : Nat := 1000000
def PA (n : Nat) : Prop := ∀ (a : AT) (cs : List Int) (g : Nat) (w0 w : World), Bl w0 w → w0.heap.size ≤ g → a.hung w0 g w → WA a → FA NN a → mA a ≤ n → CM w0.heap.size w g cs →
 Calls Tryz.prog 28 #[.agg #[.int .i64 a.d.k, .slice a.d.pa a.d.pn a.d.pc, .int .i64 a.d.e.d.k, .int .i64 a.d.e.d.op, .slice a.d.e.d.v.a a.d.e.d.v.len a.d.e.d.v.cap, .int .i64 a.d.e.d.t.t.k, .slice a.d.e.d.t.t.a a.d.e.d.t.t.len a.d.e.d.t.t.cap, .int .i64 a.d.e.d.t.t.n, .int .i64 a.d.e.d.t.t.s, .slice a.d.e.d.ka a.d.e.d.n a.d.e.d.kc, .slice a.d.v.a a.d.v.len a.d.v.cap, .slice a.d.ta a.d.tb.length a.d.tc, .slice a.d.ka a.d.n a.d.kc], .pointer (some ⟨g, 0, none⟩)] w (ResP w0 w g (CM w0.heap.size) (planF n a cs))
def QA (n : Nat) : Prop := ∀ (e : ET) (a : AT) (cs : List Int) (g : Nat) (w0 w : World), Bl w0 w → w0.heap.size ≤ g → e.lies 0 w0 → a.hung w0 g w → WE e → WA a → esz e ≤ NN → FA NN a → (a.d.k = 5 ∨ ac a ≤ NN) → mA (filterA e a) ≤ n → CM w0.heap.size w g cs →
 Calls Tryz.prog 73 #[.agg #[.int .i64 e.d.k, .int .i64 e.d.op, .slice e.d.v.a e.d.v.len e.d.v.cap, .int .i64 e.d.t.t.k, .slice e.d.t.t.a e.d.t.t.len e.d.t.t.cap, .int .i64 e.d.t.t.n, .int .i64 e.d.t.t.s, .slice e.d.ka e.d.n e.d.kc], .agg #[.int .i64 a.d.k, .slice a.d.pa a.d.pn a.d.pc, .int .i64 a.d.e.d.k, .int .i64 a.d.e.d.op, .slice a.d.e.d.v.a a.d.e.d.v.len a.d.e.d.v.cap, .int .i64 a.d.e.d.t.t.k, .slice a.d.e.d.t.t.a a.d.e.d.t.t.len a.d.e.d.t.t.cap, .int .i64 a.d.e.d.t.t.n, .int .i64 a.d.e.d.t.t.s, .slice a.d.e.d.ka a.d.e.d.n a.d.e.d.kc, .slice a.d.v.a a.d.v.len a.d.v.cap, .slice a.d.ta a.d.tb.length a.d.tc, .slice a.d.ka a.d.n a.d.kc], .pointer (some ⟨g, 0, none⟩)] w (ResP w0 w g (CM w0.heap.size) (planF n (filterA e a) cs))
theorem ResP.like {C : World → Nat → List Int → Prop} {cs : List Int} {r : Ending} (h : ResP w0 w g C (planF n a cs) r w') (hw : WA a) (hs : a.same b) : ResP w0 w g C (planF n b cs) r w' := by
 obtain ⟨y, h1, h2, h3, h4, h5, h6⟩ := h;have hp := planF_same n cs hw hs;exact ⟨y, h1, h2, h3, PT.same.trans h4 hp.1, by rw [← hp.2]; exact h5, h6⟩
theorem ResP.store {ro : Nat} {z : PT × List Int} (hp : Past g w wx) (hr : w.heap.size ≤ ro ∧ ro < wx.heap.size) (hg : g < w.heap.size) (h0 : w0.heap.size ≤ w.heap.size) (h1 : y.hang w0 w1) (h2 : Cp wx.heap.size w1.heap.size y.fr) (h3 : y.same z.1) (h4 : CM w0.heap.size w1 g z.2) (h5 : Past g wx w1) (hu : But ro w1 W5) :
 ResP w0 w g (CM w0.heap.size) z (.returned (.agg y.d.ar)) W5 :=
 ⟨y, rfl, h1.keep (Stay.but hu fun q hq => by have := (h2.i q hq).1; omega), by rw [hu.size]; exact h2.mono hp.size nR, h3, h4.stay (M := ro) (hu.below nR) (by omega) (by omega), (hp.trans h5).but hu hr.1⟩
def TQ (q : Bool) (P : Prop) : Prop := q = true ↔ P
theorem TQ.yes (h : TQ true P) : P := h.1 rfl
theorem TQ.no (h : TQ false P) : ¬ P := fun k => absurd (h.2 k) (by decide)
theorem TQ.of_yes (h : P) : TQ true P := ⟨fun _ => h, fun _ => rfl⟩
theorem TQ.of_no (h : ¬ P) : TQ false P := ⟨fun k => absurd k (by decide), fun k => absurd k h⟩
theorem early_and (h : e.d.k = 2 ∧ e.d.op = 6) : early e a = some (filterA (e.kid 0) (filterA (e.kid 1) a)) := by
 unfold early;rw [if_pos h]
theorem early_grow (hn : ¬ (e.d.k = 2 ∧ e.d.op = 6)) (hk : a.d.k = 1 ∨ a.d.k = 2 ∨ a.d.k = 4) (hw : ((eV e []).all fun v => sureB v (a.kid 0)) = true) : early e a = some (early1 e a) := by
 unfold early;rw [if_neg hn, if_pos ⟨hk, hw⟩]
theorem early_union (hn : ¬ (e.d.k = 2 ∧ e.d.op = 6)) (hk : a.d.k = 3) : early e a = some (early2 e a) := by
 unfold early;rw [if_neg hn, if_neg (fun h => by rcases h.1 with h | h | h <;> omega), if_pos hk]
theorem early_none (hn : ¬ (e.d.k = 2 ∧ e.d.op = 6)) (hg : ¬ ((a.d.k = 1 ∨ a.d.k = 2 ∨ a.d.k = 4) ∧ ((eV e []).all fun v => sureB v (a.kid 0)) = true)) (hk : ¬ a.d.k = 3) : early e a = none := by
 unfold early;rw [if_neg hn, if_neg hg, if_neg hk]
structure FE (w : World) (g : Nat) (EC AC : List Value) (wx : World) : Prop where
 p : Past g w wx
 e : Box wx w.heap.size EC
 a : Box wx (w.heap.size + 1) AC
 s : w.heap.size + 3 ≤ wx.heap.size
 g : g < w.heap.size
structure FB (w : World) (g : Nat) (EC AC : List Value) (wx : World) : Prop where
 f : FE w g EC AC wx
 o : OB wx (w.heap.size + 2) [.int .i64 0, .int .i64 0, .slice none 0 0, .int .i64 0, .slice none 0 0, .int .i64 0, .int .i64 0, .slice none 0 0, .int .i64 0, .slice none 0 0, .int .i64 0, .int .i64 0, .slice none 0 0, .int .i64 0, .slice none 0 0, .int .i64 0, .int .i64 0, .int .i64 0, .int .i64 0, .slice none 0 0, .int .i64 0, .slice none 0 0, .int .i64 0, .int .i64 0, .slice none 0 0, .slice none 0 0, .slice none 0 0, .slice none 0 0]
theorem FE.past (h : FE w g EC AC wx) (hp : Past g wx wy) : FE w g EC AC wy := by
 have hg := h.g;exact ⟨h.p.trans hp, h.e.past hp (by omega), h.a.past hp (by omega), Nat.le_trans h.s hp.size, hg⟩
theorem FB.past (h : FB w g EC AC wx) (hp : Past g wx wy) : FB w g EC AC wy := by
 have hg := h.f.g;exact ⟨h.f.past hp, h.o.pastP hp (by omega)⟩
theorem FB.below (h : FB w g EC AC wx) (hb : Bl wx wy) : FB w g EC AC wy := h.past (Past.of_below hb)
theorem FE.but (h : FE w g EC AC wx) (hu : But q wx wy) (hq : w.heap.size + 2 ≤ q) : FE w g EC AC wy :=
 ⟨h.p.but hu (by omega), h.e.upper hu (by omega), h.a.upper hu (by omega), by rw [hu.size]; exact h.s, h.g⟩
theorem FB.but (h : FB w g EC AC wx) (hu : But q wx wy) (hq : w.heap.size + 3 ≤ q) : FB w g EC AC wy := ⟨h.f.but hu (by omega), h.o.but hu (by omega)⟩
theorem FB.end {z : PT × List Int} (h : FB w g EC AC wx) (h0 : w0.heap.size ≤ w.heap.size) (h1 : y.hang w0 w1) (h2 : Cp wx.heap.size w1.heap.size y.fr) (h3 : y.same z.1) (h4 : CM w0.heap.size w1 g z.2) (h5 : Past g wx w1) (hu : But (w.heap.size + 2) w1 W5) :
 ResP w0 w g (CM w0.heap.size) z (.returned (.agg y.d.ar)) W5 := ResP.store h.f.p ⟨by omega, by have := h.f.s; omega⟩ h.f.g h0 h1 h2 h3 h4 h5 hu
theorem filt_and (n : Nat) (d : EN) (kid : Nat → ET) (da : AN) (kida : Nat → AT) (cs : List Int) (g : Nat) (w0 w : World) (hPA : PA n) (hQA : QA n) (hb : Bl w0 w) (h0 : w0.heap.size ≤ g) (he : (ET.mk d kid).lies 0 w0) (ha : (AT.mk da kida).hung w0 g w) (hwe : WE (ET.mk d kid)) (hwa : WA (AT.mk da kida)) (hez : esz (ET.mk d kid) ≤ NN) (hfa : FA NN (AT.mk da kida)) (hac : da.k = 5 ∨ ac (AT.mk da kida) ≤ NN) (hm : mA (filterA (ET.mk d kid) (AT.mk da kida)) ≤ n + 1) (hc : CM w0.heap.size w g cs) (hlow : (pick cs 2).1 = 1) (hand : d.k = 2 ∧ d.op = 6) :
 Calls Tryz.prog 73 #[.agg d.ar, .agg da.ar, .pointer (some ⟨g, 0, none⟩)] w (ResP w0 w g (CM w0.heap.size) (planF (n + 1) (filterA (ET.mk d kid) (AT.mk da kida)) cs)) := by
 try unfold AN.ar AN.cl
 try unfold EN.ar EN.cl
 have hn2 := hwe.1 hand.1;have hne : ¬ d.n = 0 := by omega
 have HEA : Hd (early (ET.mk d kid) (AT.mk da kida) = some (filterA (kid 0) (filterA (kid 1) (AT.mk da kida)))) := early_and hand;have HAND := iH hand;have HLOW := iH hlow;have HNN := iH hn2;clear hand hn2 hlow;have HPA := iH hPA;have HQA := iH hQA;have HBW := iH hb;have HG0 := iH h0;have HE0 := iH he;have HA0 := iH ha;have HWE := iH hwe;have HWA := iH hwa;have HEZ := iH hez;have HFA := iH hfa;have HAC := iH hac;have HM := iH hm;have hgw : g < w.heap.size := by obtain ⟨⟨_, _, _, _, h, _⟩, _⟩ := hc; exact h.1
 have hw0 := hb.size;obtain ⟨be, oe, hke, _, hle, hce⟩ := he.2.2.2.2.1.resolve_left hne;have HKE : Hd (∀ i, i < d.n → ∀ W, Past g w W → W.rangeAt be (oe + i * 8) (kid i).d.cells) := fun i hi W hW c u hu => ((hb.trans (hW.below h0 hw0)).cell (p := ⟨be, oe + i * 8 + c, none⟩) hle).trans (hce i hi c u hu);have HF : Hd (FB w g (eL d.k d.op d.v d.t (.slice (some ⟨be, oe, none⟩) d.n d.kc)) da.cl (((w.alloc (.cells d.ar 42)).alloc (.cells da.ar 52)).alloc (.cells zNa 46))) := ⟨⟨Past.of_below (bl_alloc (bl_alloc (bl_a _) _) _), (show Box _ _ _ by rw [← hke]; exact ((Box.new w d.ar 42 (0, 0)).below (bl_a _)).below (bl_a _)), (show Box _ _ _ by have h := (Box.new (w.alloc (.cells d.ar 42)) da.ar 52 (0, 0)).below (bl_a (.cells zNa 46)); simpa using h), (show _ ≤ _ by simp), hgw⟩, (show OB _ _ _ by have h := OB.new ((w.alloc (.cells d.ar 42)).alloc (.cells da.ar 52)) zNa 46; simpa using h)⟩;have HC := iH (hc.below (bl_alloc (bl_alloc (bl_a (w := w) (.cells d.ar 42)) (.cells da.ar 52)) (.cells zNa 46)));clear hPA hQA hb h0 he ha hwe hwa hez hfa hac hm hc hce hke;go_in;go_upto_region 1 with fail
 generalize (((w.alloc _).alloc _).alloc _) = W1 at *;have A := l7pick_any g 2 cs W1 HC.o (by omega);go_wp2_with fail
 refine A.mono ?_;rintro r w1 ⟨kk, rfl, hk, hcm, hp⟩;replace HF := iH (HF.o.past hp);replace HC := iH hcm;obtain ⟨k1, hk1⟩ : ∃ k1 : Nat, k1 = (pick cs 2).1 := ⟨_, rfl⟩;obtain rfl : kk = (k1 : Int) := by rw [hk.o, hk1]
 have HK1 := iH hk1;clear A hcm hk hk1 hp;have hkz : (k1 : Int) = 1 := by have := HLOW.o; have := HK1.o; omega
 have c0 := (by have h := HF.o.f.e.2 0 _ rfl; rwa [HAND.o.1] at h);have c1 := (by have h := HF.o.f.e.2 1 _ rfl; rwa [HAND.o.2] at h);have h1n : (1 : Int) < (d.n : Int) := by have := HNN.o; omega
 have h0n : (0 : Int) < (d.n : Int) := by omega
 go_wp2_with fail
 clear c0 c1;refine wqd (fun w' => FE w g (eL d.k d.op d.v d.t (.slice (some ⟨be, oe, none⟩) d.n d.kc)) da.cl w') ?_ fun hHeld => ?_
 · exact (HF.o.below bdr).f
 replace HF := iH (HF.o.below bdr);replace HC := iH (HC.o.below bdr);generalize w1.drew = w2 at *;refine tqB 0 24 ?_;refine tqB 1 25 (v := .slice (some ⟨be, oe, none⟩) d.n d.kc) (hy := by intro w' hSw; have c0 := hSw.e.2 7 _ rfl; go_simp; (try with_reducible rfl)) ?_;refine tqB 2 26 (v := .pointer (some ⟨be, oe, none⟩)) ?_;have HK00 : Hd (∀ W, Past g w W → W.rangeAt be oe (kid 0).d.cl) := fun W hW => by have h := HKE.o 0 (by have := HNN.o; omega) W hW; rw [Nat.zero_mul, Nat.add_zero] at h; exact h
 have HK01 : Hd (∀ W, Past g w W → W.rangeAt be (oe + 8) (kid 1).d.cl) := fun W hW => by have h := HKE.o 1 (by have := HNN.o; omega) W hW; rw [Nat.one_mul] at h; exact h
 refine ldq 3 27 Tryz.underlying42 (fun w' h => HK00.o w' h.p) ?_;refine tqB 4 28 ?_;refine tqB 5 29 (v := .slice (some ⟨be, oe, none⟩) d.n d.kc) (hy := by intro w' hSw; have c0 := hSw.e.2 7 _ rfl; go_simp; (try with_reducible rfl)) ?_;refine tqB 6 30 (v := .pointer (some ⟨be, oe + 8, none⟩)) ?_;refine ldq 7 31 Tryz.underlying42 (fun w' h => HK01.o w' h.p) ?_;refine ldq 8 32 Tryz.underlying52 (fun w' h => h.a.range 0 da.cl rfl) ?_;refine tqB 11 35 ?_;refine rqA 9 fun K hK => ?_;clear hHeld;go_simp;refine rhK hK ((HF.o.below (bl_a _)).f) fun hHeld => ?_;clear hK K;have hb2 : Bl w2 (w2.alloc (.cells da.ar 52)) := bl_a _;have HFn := iH (HF.o.below hb2);replace HC := iH (HC.o.below hb2);have Bgq := iH (Box.new w2 da.ar 52 (0, 0));obtain ⟨gq, hgq⟩ : ∃ b, b = w2.heap.size := ⟨_, rfl⟩;have Hgq : Hd (w.heap.size + 3 ≤ gq) := (show _ by rw [hgq]; exact HF.o.f.s);rw [← hgq] at Bgq ⊢;clear hgq hb2 ;clear HF;have HF := HFn;clear HFn;generalize w2.alloc (.cells da.ar 52) = w3 at *;refine tqB 10 34 (v := .agg (gVA 5 (.slice none 0 0) ((kid 1).d) (.slice none 0 0) (.slice none 0 0) (.slice (some ⟨gq, 0, none⟩) 1 1))) ?_;have hn2 := HNN.o;have hWK := HWE.o;have hsz : 1 + (esz (kid 0) + esz (kid 1)) ≤ NN := by have h := HEZ.o; have e : esz (ET.mk d kid) = 1 + sumN d.n (fun i => esz (kid i)) := rfl; rw [hn2, sum_two] at e; omega
 have hAH := HA0.o.past HF.o.f.p;have h1w := hWK.2 1 (by omega);have h0w := hWK.2 0 (by omega);have h1l := HE0.o.2.2.2.2.2 1 (by omega);have h0l := HE0.o.2.2.2.2.2 0 (by omega);have hgq : gq ≠ g := by have := Hgq.o; omega
 have hmm := mA_early (e := ET.mk d kid) (a := AT.mk da kida) (b := filterA (kid 0) (filterA (kid 1) (AT.mk da kida))) (fun h5 => ?hma) HEA.o
 case hma =>
  by_cases hk : da.k = 1 ∨ da.k = 2 ∨ da.k = 3 ∨ da.k = 4
  · exact .inl (by have h : da.n = kidsA da.k := HWA.o.1.2.2; rw [kidsA_two hk] at h; show 2 ≤ da.n; omega)
  exact .inr hk
 have A : Calls Tryz.prog 73 #[.agg (kid 0).d.ar, .agg (gVA 5 (.slice none 0 0) ((kid 1).d) (.slice none 0 0) (.slice none 0 0) (.slice (some ⟨gq, 0, none⟩) 1 1)), .pointer (some ⟨g, 0, none⟩)] w3 (ResP w0 w3 g (CM w0.heap.size) (planF n (filterA (kid 0) (AF (kid 1) gq (AT.mk da kida))) (pick cs 2).2)) := HQA.o _ _ _ g w0 w3 (HBW.o.trans (HF.o.f.p.below HG0.o hw0)) HG0.o h0l (AF.hung hAH h1l Bgq.o hgq) h0w (filterA.wa h1w HWA.o) (by omega) (FA.filter (by omega) HFA.o HAC.o) (.inl rfl) (by show mA (filterA (kid 0) (filterA (kid 1) (AT.mk da kida))) ≤ n; have := HM.o; omega) HC.o;refine rqA 12 fun K hK => ?_;go_simp;refine A.mono ?_;intro r w9 hR;have hR := ResP.like hR (filterA.wa h0w (filterA.wa h1w HWA.o)) (filterA.same (ET.same.refl h0l) (AF.same (q := gq) (ET.same.refl h1l) (AT.refl_lies (AT.hung.lies (HBW.o.trans (HF.o.f.p.below HG0.o hw0)) hAH))));rw [← planF_early HLOW.o HEA.o] at hR;obtain ⟨y, rfl, hy, hc, hs, hcm, hp9⟩ := hR;have HY := iH hy;have HCY := iH hc;have HSY := iH hs;have HCM9 := iH hcm;have HPP := iH hp9;have HF9 := iH (HF.o.past hp9);clear hy hc hs hcm hp9;clear hHeld;refine rhK hK HF9.o.f fun hHeld => ?_;clear hK K A hmm;have hst := HF9.o.o.there 0 28 (by simp);have on := all_oneCell_toArray (cs := y.d.cl) (by simp [Value.oneCell']);have hrd : (w9.setCells (w.heap.size + 2) 0 y.d.cl).rangeAt (w.heap.size + 2) 0 y.d.cl := World.rangeAt_setCells_same _ _ _ _ hst;have HU := iH (but_sets (w.heap.size + 2) y.d.cl 0 w9);refine rqA 13 fun K hK => ?_;refine step_storeV 46 (w.heap.size + 2) 0 y.d.ar hst on ?_;clear hHeld;refine hK.out _ _ ?_ fun hHeld => ?_
 · exact HF9.o.f.but HU.o nR
 clear hK K hst on hHeld;try simp only [Act.put]
 generalize w9.setCells _ _ _ = W5 at *;refine wpAnyH_done (by kernel_rfl) ?_ _;go_wp2;try simp only [Exit.inBlock, Exit.then]
 refine bodyPost_ret (v := .agg y.d.ar) ?_ rfl ?_
 · exact results_cell rfl rfl (run_loadVar_mid (P := Tryz.prog) _ (w.heap.size + 2) 0 46 y.d.cl _ hrd Tryz.underlying46 rfl (by kernel_rfl))
 exact HF.o.end hw0 HY.o HCY.o HSY.o HCM9.o HPP.o HU.o
theorem Past.low {M : Nat} (h : Past g w wx) (hb : Below M wx wy) (hM : w.heap.size ≤ M) : Past g w wy := ⟨hb.os.trans h.os, hb.tape.trans h.tape, hb.output.trans h.output, Nat.le_trans h.size hb.size, fun b hl hn => (hb.block b (by omega)).trans (h.block b hl hn)⟩
theorem OwnCC.past {ty : TypeId} {sz : Nat} {v : Value} {C : Nat → List Value} (h : OwnCC ty sz w B v n C) (hp : Past g w w') (hg : g < B) : OwnCC ty sz w' B v n C := by
 obtain ⟨⟨h1, h2⟩, hl, hk⟩ := h;refine ⟨⟨h1, ?_⟩, hl, fun g' hg' => ⟨(hk g' hg').1, Nat.lt_of_lt_of_le (hk g' hg').2 hp.size⟩⟩;rcases h2 with h2 | ⟨g', cap', cur, hv, hB, hh, r⟩
 · exact .inl h2
 refine .inr ⟨g', cap', cur, hv, hB, ?_, r⟩;rw [hp.block g' (Array.getElem?_eq_some_iff.1 hh).1 (by omega)];exact hh
section
variable {α : Type} {c : α → List Value} {fp : α → List Nat} {ok : α → World → Prop} {ty : TypeId} {sz M gz ix g : Nat} {L0 : List Value} {w0 wx W N : World} {v : Value} {j : Nat} {k : Nat → α}
theorem Gath.past (K : ∀ x w w', ok x w → Stay (fp x) w w' → ok x w') (h : Gath c fp ok ty sz M gz ix L0 [] w0 wx W v j k) (hp : Past g W N) (hg : g < gz) (h0 : w0.heap.size ≤ g) : Gath c fp ok ty sz M gz ix L0 [] w0 wx N v j k := by
 have hM := h.gM;exact ⟨h.bel.trans (hp.below h0 h.bel.size), h.box.pastP hp (by omega), h.own.past hp (by omega), h.cp.mono nR hp.size, h.o, fun i hi => K _ _ _ (h.ok i hi) (Stay.past hp fun q hq => ⟨(h.cp.i q (catB_mem (f := fun i => fp (k i)) hi hq)).2, by have := (h.cp.i q (catB_mem (f := fun i => fp (k i)) hi hq)).1; omega⟩), ⟨fun _ hq => absurd hq (List.not_mem_nil), Nat.le_trans h.st.2 hp.size⟩, h.g0, hM, Nat.le_trans h.hM hp.size, fun _ hq => absurd hq (List.not_mem_nil)⟩
theorem Gath.callP (K : ∀ x w w', ok x w → Stay (fp x) w w' → ok x w') (h : Gath c fp ok ty sz M gz ix L0 [] w0 wx W v j k) (hp : Past g W N) (hg : g < gz) (h0 : w0.heap.size ≤ g) {y : α} (hy : ok y N) (hc : Cp W.heap.size N.heap.size (fp y)) : GathY c fp ok ty sz M gz ix L0 [] w0 wx N v j k y := by
 refine ⟨h.past K hp hg h0, hy, h.cp.app hc h.hM hp.size, fun g hg hm => ?_⟩;rcases List.mem_append.1 hm with hm | hm
 · exact h.o g hg hm
 have := (hc.i g hm).1;have := (h.own.blk g hg).2;omega
end
theorem plan_bgp (n : Nat) (hPA : PA n) (d : AN) (kid : Nat → AT) (hk : d.k = 0) (cs : List Int) (g : Nat) (w0 w : World) (hb : Bl w0 w) (h0 : w0.heap.size ≤ g) (ha : (AT.mk d kid).hung w0 g w) (hwa : WA (AT.mk d kid)) (hfa : FA NN (AT.mk d kid)) (hm : mA (AT.mk d kid) ≤ n + 1) (hc : CM w0.heap.size w g cs) :
 Calls Tryz.prog 28 #[.agg d.ar, .pointer (some ⟨g, 0, none⟩)] w (ResP w0 w g (CM w0.heap.size) (planF (n + 1) (AT.mk d kid) cs)) := by
 have hk0 := hk;clear hk;have HK := iH hk0;clear hk0;have HPA := iH hPA;have HBW := iH hb;have HG0 := iH h0;have HA0 := iH ha;have HWA := iH hwa;have HFA := iH hfa;have HM := iH hm;have hgw : g < w.heap.size := by obtain ⟨⟨_, _, _, _, h, _⟩, _⟩ := hc; exact h.1
 have hw0 := hb.size;have HX := iH ((Box.new w d.ar 52 (0, 0)).below (bl_a (.cells zNa 46)));have HO := iH (show OB _ _ _ by have h := OB.new (w.alloc (.cells d.ar 52)) zNa 46; simpa using h);have HP : Hd (Past g w ((w.alloc (.cells d.ar 52)).alloc (.cells zNa 46))) := Past.of_below (bl_alloc (bl_a _) _);have HC := iH (hc.below (bl_alloc (bl_a (w := w) (.cells d.ar 52)) (.cells zNa 46)));have HS : Hd (((w.alloc (.cells d.ar 52)).alloc (.cells zNa 46)).heap.size = w.heap.size + 2) := (show _ = _ by simp);clear hPA hb h0 ha hwa hfa hm hc;have lr : ∀ W, Box W w.heap.size d.cl → W.rangeAt w.heap.size 0 d.cl := fun W h => h.range 0 _ rfl;have HLR := iH lr;clear lr;go_in;go_upto_region 1 with fail
 generalize ((w.alloc _).alloc _) = W1 at *;have c0 := (by have h := HX.o.2 0 _ rfl; rwa [HK.o] at h);have lx := HLR.o W1 HX.o;have A : Calls Tryz.prog 72 #[.agg d.ar, .pointer (some ⟨g, 0, none⟩)] W1 (ResP w0 W1 g (CM w0.heap.size) (bgpF d.pn ((List.range d.pn).map d.pat) cs unitP)) := l7bgp_any (AT.mk d kid) cs g w0 W1 (HBW.o.trans (HP.o.below HG0.o hw0)) HG0.o (PRow.of_k HA0.o.1) (fun x hx => by obtain ⟨i, hi, rfl⟩ := List.mem_map.1 hx; exact HA0.o.2.1 i (List.mem_range.1 hi)) HA0.o.2.2.1 HC.o;go_wp2_with (with_reducible refine wpv_at ?_; refine ldr rfl rfl rfl Tryz.underlying52 lx rfl ?_; try simp only [Act.put, sA, zA, cA])
 refine A.mono ?_;intro r w9 hR;have HZ : Hd (planF (n + 1) (AT.mk d kid) cs = bgpF d.pn ((List.range d.pn).map d.pat) cs unitP) := (show (if d.k = 0 then _ else _) = _ from if_pos HK.o);rw [← HZ.o] at hR;obtain ⟨y, rfl, hy, hc, hs, hcm, hp9⟩ := hR;have HY := iH hy;have HCY := iH hc;have HSY := iH hs;have HCM9 := iH hcm;have HPP := iH hp9;have HO9 := iH (HO.o.pastP hp9 (by omega));clear hy hc hs hcm hp9;clear A lx c0;have hst := HO9.o.there 0 28 (by simp);have on := all_oneCell_toArray (cs := y.d.cl) (by simp [Value.oneCell']);have hrd : (w9.setCells (w.heap.size + 1) 0 y.d.cl).rangeAt (w.heap.size + 1) 0 y.d.cl := World.rangeAt_setCells_same _ _ _ _ hst;have HU := iH (but_sets (w.heap.size + 1) y.d.cl 0 w9);go_wp2_with (with_reducible refine wpv_at ?_; refine store_stopV 46 (.tmp 4) (.tmp 13) rfl ?_)
 change wpList _ _ _ _ _ _;refine wpList_store_mid rfl 46 _ _ rfl (w.heap.size + 1) 0 y.d.ar rfl rfl hst (by kernel_rfl) on ?_;try simp only [Act.put]
 clear hst on;generalize w9.setCells _ _ _ = W5 at *;go_wp2;try simp only [Exit.inBlock, Exit.then]
 refine bodyPost_ret (v := .agg y.d.ar) ?_ rfl ?_
 · exact results_cell rfl rfl (run_loadVar_mid (P := Tryz.prog) _ (w.heap.size + 1) 0 46 y.d.cl _ hrd Tryz.underlying46 rfl (by kernel_rfl))
 exact ResP.store HP.o ⟨by omega, by have := HS.o; omega⟩ hgw hw0 HY.o HCY.o HSY.o HCM9.o HPP.o HU.o
theorem plan_rows (n : Nat) (hPA : PA n) (d : AN) (kid : Nat → AT) (hk : d.k = 7) (cs : List Int) (g : Nat) (w0 w : World) (hb : Bl w0 w) (h0 : w0.heap.size ≤ g) (ha : (AT.mk d kid).hung w0 g w) (hwa : WA (AT.mk d kid)) (hfa : FA NN (AT.mk d kid)) (hm : mA (AT.mk d kid) ≤ n + 1) (hc : CM w0.heap.size w g cs) :
 Calls Tryz.prog 28 #[.agg d.ar, .pointer (some ⟨g, 0, none⟩)] w (ResP w0 w g (CM w0.heap.size) (planF (n + 1) (AT.mk d kid) cs)) := by
 have HK := iH hk;clear hk;have HPA := iH hPA;have HBW := iH hb;have HG0 := iH h0;have HA0 := iH ha;have HWA := iH hwa;have HFA := iH hfa;have HM := iH hm;have hgw : g < w.heap.size := by obtain ⟨⟨_, _, _, _, h, _⟩, _⟩ := hc; exact h.1
 have hw0 := hb.size;have HX := iH ((Box.new w d.ar 52 (0, 0)).below (bl_a (.cells zNa 46)));have HO := iH (show OB _ _ _ by have h := OB.new (w.alloc (.cells d.ar 52)) zNa 46; simpa using h);have HP : Hd (Past g w ((w.alloc (.cells d.ar 52)).alloc (.cells zNa 46))) := Past.of_below (bl_alloc (bl_a _) _);have HC := iH (hc.below (bl_alloc (bl_a (w := w) (.cells d.ar 52)) (.cells zNa 46)));have HS : Hd (((w.alloc (.cells d.ar 52)).alloc (.cells zNa 46)).heap.size = w.heap.size + 2) := (show _ = _ by simp);clear hPA hb h0 ha hwa hfa hm hc;go_in;go_upto_region 1 with fail
 generalize ((w.alloc _).alloc _) = W1 at *;have c0 := (by have h := HX.o.2 0 _ rfl; rwa [HK.o] at h);have c10 := HX.o.2 10 _ rfl;have c11 := HX.o.2 11 _ rfl;have HZ : Hd (planF (n + 1) (AT.mk d kid) cs = (PT.mk ⟨d.k, 0, PBz, d.e, d.v, d.ta, d.tc, d.tb, none, d.n, d.n⟩ (fun _ => PT.nil), cs)) := (show _ = _ by have hn : d.n = 0 := (by have h : d.n = kidsA d.k := HWA.o.1.2.2; rw [HK.o] at h; exact h); have hkk := HK.o; simp only [planF, hkk, hn, kidsF]; simp);have hst := HO.o.there 0 28 (by simp);have on := all_oneCell_toArray (cs := (wZL 7 0 (.slice d.v.a d.v.len d.v.cap) (.slice d.ta d.tb.length d.tc) (.slice none 0 0))) (by simp [Value.oneCell']);have hrd : (W1.setCells (w.heap.size + 1) 0 (wZL 7 0 (.slice d.v.a d.v.len d.v.cap) (.slice d.ta d.tb.length d.tc) (.slice none 0 0))).rangeAt (w.heap.size + 1) 0 (wZL 7 0 (.slice d.v.a d.v.len d.v.cap) (.slice d.ta d.tb.length d.tc) (.slice none 0 0)) := World.rangeAt_setCells_same _ _ _ _ hst;have HU := iH (but_sets (w.heap.size + 1) (wZL 7 0 (.slice d.v.a d.v.len d.v.cap) (.slice d.ta d.tb.length d.tc) (.slice none 0 0)) 0 W1);go_wp2_with (with_reducible refine wpv_at ?_; refine store_stopV 46 (.tmp 4) (.tmp 20) rfl ?_)
 change wpList _ _ _ _ _ _;refine wpList_store_mid rfl 46 _ _ rfl (w.heap.size + 1) 0 (wZA 7 0 (.slice d.v.a d.v.len d.v.cap) (.slice d.ta d.tb.length d.tc) (.slice none 0 0)) rfl rfl hst (by kernel_rfl) on ?_;try simp only [Act.put]
 clear hst on;generalize W1.setCells _ _ _ = W5 at *;go_wp2;try simp only [Exit.inBlock, Exit.then]
 refine bodyPost_ret (v := .agg (wZA 7 0 (.slice d.v.a d.v.len d.v.cap) (.slice d.ta d.tb.length d.tc) (.slice none 0 0))) ?_ rfl ?_
 · exact results_cell rfl rfl (run_loadVar_mid (P := Tryz.prog) _ (w.heap.size + 1) 0 46 (wZL 7 0 (.slice d.v.a d.v.len d.v.cap) (.slice d.ta d.tb.length d.tc) (.slice none 0 0)) _ hrd Tryz.underlying46 rfl (by kernel_rfl))
 have hE := HWA.o.2.2.1.1 (by rw [HK.o]; unfold hasE; decide);have hn : d.n = 0 := by have h : d.n = kidsA d.k := HWA.o.1.2.2; rw [HK.o] at h; exact h
 have hel := HA0.o.2.2.2.1.ne;refine ResP.store (y := PT.mk ⟨7, 0, PBz, ET0, d.v, d.ta, d.tc, d.tb, none, 0, 0⟩ (fun _ => .nil)) HP.o ⟨by omega, by have := HS.o; omega⟩ hgw hw0 ⟨PBz.lies _ _, (ET0_ow 0 w0).l, HA0.o.2.2.2.2.1, HA0.o.2.2.2.2.2.1, HA0.o.2.2.2.2.2.2.1, nZ, .inl rfl, fun i hi => absurd hi nN⟩ (Cp.nil _ _) ?_ ?_ (Past.refl g W1) HU.o
 · rw [HZ.o]
   exact ⟨HK.o.symm, rfl, PBz.refl, zeroE_two (fun h => by cases h) hel ET0_zero hE, rfl, rfl, hn.symm, fun i hi => absurd hi nN⟩
 rw [HZ.o];exact HC.o
theorem plan_filter (n : Nat) (hPA : PA n) (hQA : QA (n + 1)) (d : AN) (kid : Nat → AT) (hk : d.k = 5) (cs : List Int) (g : Nat) (w0 w : World) (hb : Bl w0 w) (h0 : w0.heap.size ≤ g) (ha : (AT.mk d kid).hung w0 g w) (hwa : WA (AT.mk d kid)) (hfa : FA NN (AT.mk d kid)) (hm : mA (AT.mk d kid) ≤ n + 1) (hc : CM w0.heap.size w g cs) :
 Calls Tryz.prog 28 #[.agg d.ar, .pointer (some ⟨g, 0, none⟩)] w (ResP w0 w g (CM w0.heap.size) (planF (n + 1) (AT.mk d kid) cs)) := by
 have HK := iH hk;have hn1 : d.n = 1 := by have h : d.n = kidsA d.k := hwa.1.2.2; rw [hk] at h; exact h
 obtain ⟨b, off, hka, hng, hla, hca⟩ := ha.2.2.2.2.2.2.2.2.1.resolve_left (by show ¬ d.n = 0; omega);have HK0 : Hd (∀ W, Past g w W → W.rangeAt b off (kid 0).d.cl) := fun W hW c u hu => (hW.cell (p := ⟨b, off + c, none⟩) hla hng).trans (by have h := hca 0 (by omega) c u hu; rwa [Nat.zero_mul, Nat.add_zero] at h);have HQA := iH hQA;have hnz : ¬ d.n = 0 := by omega
 have HN1 := iH hn1;clear hk hca hla hng hQA hn1;have HPA := iH hPA;have HBW := iH hb;have HG0 := iH h0;have HA0 := iH ha;have HWA := iH hwa;have HFA := iH hfa;have HM := iH hm;have hgw : g < w.heap.size := by obtain ⟨⟨_, _, _, _, h, _⟩, _⟩ := hc; exact h.1
 have hw0 := hb.size;have HX : Hd (Box ((w.alloc (.cells d.ar 52)).alloc (.cells zNa 46)) w.heap.size (gL d.k (.slice d.pa d.pn d.pc) d.e.d d.v (.slice d.ta d.tb.length d.tc) (.slice (some ⟨b, off, none⟩) d.n d.kc))) := (show Box _ _ _ by rw [← hka]; exact (Box.new w _ 52 _).below (bl_a _));have HO := iH (show OB _ _ _ by have h := OB.new (w.alloc (.cells d.ar 52)) zNa 46; simpa using h);have HP : Hd (Past g w ((w.alloc (.cells d.ar 52)).alloc (.cells zNa 46))) := Past.of_below (bl_alloc (bl_a _) _);have HC := iH (hc.below (bl_alloc (bl_a (w := w) (.cells d.ar 52)) (.cells zNa 46)));have HS : Hd (((w.alloc (.cells d.ar 52)).alloc (.cells zNa 46)).heap.size = w.heap.size + 2) := (show _ = _ by simp);clear hPA hb h0 ha hwa hfa hm hc;clear hka;go_in;go_upto_region 1 with fail
 generalize ((w.alloc _).alloc _) = W1 at *;have c0 := (by have h := HX.o.2 0 _ rfl; rwa [HK.o] at h);go_wp2_with fail
 clear c0;refine wqd (fun w' => Past g w w' ∧ Box w' w.heap.size (gL d.k (.slice d.pa d.pn d.pc) d.e.d d.v (.slice d.ta d.tb.length d.tc) (.slice (some ⟨b, off, none⟩) d.n d.kc))) ?_ fun hHeld => ?_
 · exact ⟨HP.o.trans (Past.of_below bdr), HX.o.below bdr⟩
 replace HP := iH (HP.o.trans (Past.of_below bdr));replace HO := iH (HO.o.below bdr);replace HC := iH (HC.o.below bdr);replace HX := iH (HX.o.below bdr);replace HS : Hd (W1.drew.heap.size = w.heap.size + 2) := HS.o;generalize W1.drew = w2 at *;refine tqB 0 23 ?_;refine ldq 1 24 Tryz.underlying42 (fun w' h => h.2.range 2 d.e.d.cl rfl) ?_;refine tqB 2 25 ?_;refine tqB 3 26 (v := .slice (some ⟨b, off, none⟩) d.n d.kc) (hy := by intro w' hSw; have c0 := hSw.2.2 12 _ rfl; go_simp; (try with_reducible rfl)) ?_;refine tqB 4 27 (v := .pointer (some ⟨b, off, none⟩)) ?_;refine ldq 5 28 Tryz.underlying52 (fun w' h => HK0.o w' h.1) ?_;refine tqB 6 29 ?_;have HZ : Hd (∀ m, planF (m + 1) (AT.mk d kid) cs = planF (m + 1) (filterA d.e (kid 0)) cs) := fun m => by have hkk := HK.o; simp only [planF, filterA, hkk]; simp
 have A := HQA.o d.e _ cs g w0 w2 (HBW.o.trans (HP.o.below HG0.o hw0)) HG0.o HA0.o.2.2.2.1 ((HA0.o.2.2.2.2.2.2.2.2.2 0 (by have := HN1.o; omega)).past HP.o) HWA.o.2.2.2.1 (HWA.o.2.2.2.2 0 (by have := HN1.o; omega)) (HFA.o.1 HK.o).1 (HFA.o.1 HK.o).2.1 (HFA.o.1 HK.o).2.2 (by rw [mA_filter]; have h := HM.o; have e : mA (AT.mk d kid) = cE d.e * mA (kid 0) := if_pos HK.o; omega) HC.o;refine rqA 7 fun K hK => ?_;go_simp;refine A.mono ?_;intro r w9 hR;rw [← HZ.o n] at hR;obtain ⟨y, rfl, hy, hc, hs, hcm, hp9⟩ := hR;have HY := iH hy;have HCY := iH hc;have HSY := iH hs;have HCM9 := iH hcm;have HPP := iH hp9;have HO9 := iH (HO.o.pastP hp9 (by omega));have HP9 := iH (HP.o.trans hp9);have HX9 := iH (HX.o.past hp9 (by omega));clear hy hc hs hcm hp9 hHeld;refine rhK hK ⟨HP9.o, HX9.o⟩ fun hHeld => ?_;clear hK K A;have hst := HO9.o.there 0 28 (by simp);have on := all_oneCell_toArray (cs := y.d.cl) (by simp [Value.oneCell']);have hrd : (w9.setCells (w.heap.size + 1) 0 y.d.cl).rangeAt (w.heap.size + 1) 0 y.d.cl := World.rangeAt_setCells_same _ _ _ _ hst;have HU := iH (but_sets (w.heap.size + 1) y.d.cl 0 w9);refine rqA 8 fun K hK => ?_;refine step_storeV 46 (w.heap.size + 1) 0 y.d.ar hst on ?_;clear hHeld;refine hK.out _ _ ?_ fun hHeld => ?_
 · exact ⟨HP9.o.but HU.o (by omega), HX9.o.upper HU.o (by omega)⟩
 clear hK K hst on hHeld;try simp only [Act.put]
 generalize w9.setCells _ _ _ = W5 at *;refine wpAnyH_done (by kernel_rfl) ?_ _;go_wp2;try simp only [Exit.inBlock, Exit.then]
 refine bodyPost_ret (v := .agg y.d.ar) ?_ rfl ?_
 · exact results_cell rfl rfl (run_loadVar_mid (P := Tryz.prog) _ (w.heap.size + 1) 0 46 y.d.cl _ hrd Tryz.underlying46 rfl (by kernel_rfl))
 exact ResP.store HP.o ⟨by omega, by have := HS.o; omega⟩ hgw hw0 HY.o HCY.o HSY.o HCM9.o HPP.o HU.o
end Go.Proofs.YtoloadogihbdeaaGreat
