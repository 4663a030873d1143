import Derived.Test.YtoloadogihbdeaaGreatMk05
namespace Go.Proofs.YtoloadogihbdeaaGreat
open Go.RowKit Go.Deep
set_option maxHeartbeats 40000000
set_option maxRecDepth 100000
variable {a b : List Int} {cs : List Value} {B n : Nat} {o : Obj} {v' v0 : Value} {W W' W'' w w' w0 : World}
theorem l5alg_x (d : AN) (kid : Nat → AT) (hkv : 0 ≤ d.k ∧ d.k ≤ 7) (deep L : Int) (g : Nat) (w0 w : World) (hl : (AT.mk d kid).lies 0 w0) (hw : Bl w0 w) (hg : w0.heap.size ≤ g) (hc : Ctr w g L) (hd0 : 0 ≤ deep) (hd1 : deep ≤ 100000) (hL0 : 0 ≤ L) (hL1 : L ≤ 100000)
 (IH : ∀ i, i < d.n → ∀ (L' : Int) (W : World), Bl w0 W → Ctr W g L' → 0 ≤ L' → L' ≤ 100000 → deep ≤ 240 → Calls Tryz.prog 70 #[.agg (kid i).d.ar, .int .i64 (deep + 1), .pointer (some ⟨g, 0, none⟩)] W (CtrAns (aOk (kid i) (deep + 1)) (asz (kid i)) g L' W)) :
 Calls Tryz.prog 70 #[.agg d.ar, .int .i64 deep, .pointer (some ⟨g, 0, none⟩)] w (CtrAns (aOk (.mk d kid) deep) (asz (.mk d kid)) g L w) := by
 try unfold AN.ar AN.cl
 obtain ⟨hp, hpl, hpn, he, hv, ht, htn, hn, hR, hk⟩ := hl;have hgw : g < w.heap.size := hc.lt;have hsz : w0.heap.size ≤ w.heap.size := hw.size;have HK8 := iH hkv;obtain ⟨nt, hnt⟩ : ∃ nt, nt = d.tb.length := ⟨_, rfl⟩;have HNT : Hd (nt = d.tb.length) := hnt;obtain ⟨es, hes⟩ : ∃ es, es = if d.k = 2 ∨ d.k = 5 ∨ d.k = 6 then esz d.e else 0 := ⟨_, rfl⟩;have HES := iH hes;have HLV : Hd (d.v.b = [] ↔ d.v.len = 0) := nil_len hv.1.1;have HVR := iH fun W (hb : Bl w0 W) => l4var_any d.v W (hv.upper (uB hb));have HZE := iH fun W (hb : Bl w0 W) => l4zeroExpr_any d.e W (ET.lies.upper (uB hb) he);have HEF := iH fun W L' (hb : Bl w0 W) (hc' : Ctr W g L') h0 h1 => l5fits_any d.e 1 L' g w0 W he hb hg hc' (by omega) (by omega) h0 h1;have HPT := iH fun i (hi : i < d.pn) W (hb : Bl w0 W) => l4pat_any (d.pat i) W ((hpl i hi).upper (uB hb));have HTM : Hd (∀ x ∈ d.tb, ∀ W, Bl w0 W → Cl 110 #[.agg #[.int .i64 x.t.k, .slice x.t.a x.t.len x.t.cap, .int .i64 x.t.n, .int .i64 x.t.s]] W (Tells (x.td.ok = true) W)) := fun x hx W hb => (specTermOk_any x.t.k x.t.n x.t.s x.t.a x.t.len x.t.cap x.b W ((ht.2.2 x hx).1.upper (uB hb)).1 (ht.2.2 x hx).2.1 (ht.2.2 x hx).2.2.1).mono fun e w' ⟨h1, o, h2⟩ => by
  subst h1 h2;exact Tells.of Iff.rfl (bl_a _)
 have HIH := iH IH;have HPR := iH hp;have HTR := iH ht.1;have HKR := iH hR;have HSZ : Hd (asz (.mk d kid) = 1 + es + d.pn + sumN d.n (fun i => asz (kid i))) := (show _ = _ by rw [hes]; rfl);have HCS := iH (CS.new hw hg hc (gA d.k (.slice d.pa d.pn d.pc) d.e.d d.v (.slice d.ta nt d.tc) (.slice d.ka d.n d.kc)) 52 (L - 1));have c0 := fun o => ((bl_a (w := w) o).cell (p := ⟨g, 0, none⟩) hgw).trans hc.cell;have f0 := fun o => ((bl_a (w := w) o).frozen (p := ⟨g, 0, none⟩) hgw).trans hc.fr;have hwr : IntKind.i64.wrap (L - 1) = L - 1 := by rw [IntKind.wrap_i64]; omega
 rw [← hnt];clear hp hpl hpn he hv ht htn hR hk hw hc IH hkv hnt hes;go_enter Tryz.func70, Tryz.ntmps70;go_upto_region 2 with fail
 generalize (w.setCell _ _).alloc _ = W1 at *;clear c0 f0 hwr;have hW1 : w0.heap.size ≤ W1.heap.size := HCS.o.bl.size;have cg := HCS.o.ct.cell;have x0 := HCS.o.bx.2 0 _ rfl;by_cases hLz : L - 1 < 0
 · have HNO : Hd (¬ (aOk (.mk d kid) deep ∧ ((asz (.mk d kid) : Nat) : Int) ≤ L)) := fun hh => by
    have h := hh.2;have h2 := HSZ.o;omega
   go_wp2;go_ret;exact CtrAns.no HNO.o HCS.o.ct HCS.o.pa
 by_cases hdz : deep > 240
 · have HNO : Hd (¬ (aOk (.mk d kid) deep ∧ ((asz (.mk d kid) : Nat) : Int) ≤ L)) := fun hh => by
    have h := hh.1.1;omega
   go_wp2;go_ret;exact CtrAns.no HNO.o HCS.o.ct HCS.o.pa
 have hd10 : deep ≤ 240 := by omega
 have HCq := iH fun o => HCS.o.below hW1 (bl_a o);have HND : Hd ((∀ i, i < d.pn → ptOk (d.pat i)) → (∀ x ∈ d.tb, x.td.ok = true) → d.n = kidsA d.k → (d.k ≠ 0 → d.pn = 0) → d.pn ≤ 120 → (d.k ≠ 7 → d.tb = []) → d.tb.length ≤ 8 → (hasE d.k → eOk 120 d.e 1) → (¬ hasE d.k → zeroE d.e) → (hasV d.k → nameOk d.v.b = true) → (¬ hasV d.k → d.v.b = []) → NodeA d) := fun h1 h2 h3 h4 h5 h6 h7 h8 h9 h10 h11 => ⟨HK8.o.1, HK8.o.2, h3, h4, h5, h6, h7, h8, h9, h10, h11, h1, h2⟩;rcases (show d.k = 0 ∨ d.k = 1 ∨ d.k = 2 ∨ d.k = 3 ∨ d.k = 4 ∨ d.k = 5 ∨ d.k = 6 ∨ d.k = 7 by have h := HK8.o; omega) with h | h | h | h | h | h | h | h;all_goals
  have HKV := iH h;clear h;rw [HKV.o] at x0;have y0 := fun o => (HCq.o o).bx.2 0 _ rfl;simp only [HKV.o] at y0;have y1 := fun o => (HCq.o o).bx.2 1 _ rfl;have y2 := fun o => (HCq.o o).bx.2 2 _ rfl;have y3 := fun o => (HCq.o o).bx.2 3 _ rfl;have y4 := fun o => (HCq.o o).bx.2 4 _ rfl;have y5 := fun o => (HCq.o o).bx.2 5 _ rfl;have y6 := fun o => (HCq.o o).bx.2 6 _ rfl;have y7 := fun o => (HCq.o o).bx.2 7 _ rfl;have y8 := fun o => (HCq.o o).bx.2 8 _ rfl;have y9 := fun o => (HCq.o o).bx.2 9 _ rfl;have y10 := fun o => (HCq.o o).bx.2 10 _ rfl;have y11 := fun o => (HCq.o o).bx.2 11 _ rfl;have y12 := fun o => (HCq.o o).bx.2 12 _ rfl;by_cases hn1 : d.n = kidsA d.k;rotate_left
  · have HNO : Hd (¬ NodeA d) := fun hh => hn1 hh.n
    have hx : ∀ c : Int, c = (kidsA d.k : Nat) → (c == (d.n : Int)) = false ∧ (c != (d.n : Int)) = true := fun c h => by subst h; constructor <;> simp <;> omega
    first | have hz := hx 2 (by rw [HKV.o]; rfl) | have hz := hx 1 (by rw [HKV.o]; rfl) | have hz := hx 0 (by rw [HKV.o]; rfl)
    obtain ⟨hne, hnf⟩ := hz;clear hn1 hx;go_wp2;go_ret;exact CtrAns.no (aOk_no HNO.o) (HCq.o _).ct (HCq.o _).pa
  have HNK := iH hn1;first | have HN : Hd (d.n = 2) := hn1.trans (by rw [HKV.o]; rfl) | have HN : Hd (d.n = 1) := hn1.trans (by rw [HKV.o]; rfl) | have HN : Hd (d.n = 0) := hn1.trans (by rw [HKV.o]; rfl)
  have hx : ∀ c : Int, c = (kidsA d.k : Nat) → (c == (d.n : Int)) = true ∧ (c != (d.n : Int)) = false := fun c h => by subst h; constructor <;> simp <;> omega
  first | have hz := hx 2 (by rw [HKV.o]; rfl) | have hz := hx 1 (by rw [HKV.o]; rfl) | have hz := hx 0 (by rw [HKV.o]; rfl)
  obtain ⟨hne, hnf⟩ := hz;clear hn1 hx;first
  | have HK0 : Hd (d.k = 0) := HKV
    by_cases hp1 : d.pn ≤ 120;rotate_left
    · have HNO : Hd (¬ NodeA d) := fun hh => hp1 hh.pn
      have hpz2 : (120 : Int) < (d.pn : Int) := by omega
      clear hp1;go_wp2;go_ret;exact CtrAns.no (aOk_no HNO.o) (HCq.o _).ct (HCq.o _).pa
    have HPa : Hd (d.k ≠ 0 → d.pn = 0) := fun h => absurd HK0.o h;have HPb := iH hp1;have hpz2 : ¬ (120 : Int) < (d.pn : Int) := by omega
    clear hp1
  | by_cases hp1 : d.pn = 0
    rotate_left
    · have HNO : Hd (¬ NodeA d) := fun hh => hp1 (hh.p0 (by rw [HKV.o]; decide))
      have hpz : (0 : Int) < (d.pn : Int) := by omega
      clear hp1;go_wp2;go_ret;exact CtrAns.no (aOk_no HNO.o) (HCq.o _).ct (HCq.o _).pa
    have HP0 := iH hp1;have HPa : Hd (d.k ≠ 0 → d.pn = 0) := fun _ => hp1;have HPb : Hd (d.pn ≤ 120) := (show d.pn ≤ 120 by omega);have hpz : ¬ (0 : Int) < (d.pn : Int) := by omega
    have hpz2 : ¬ (120 : Int) < (d.pn : Int) := by omega
    clear hp1
  first
  | have HK7 : Hd (d.k = 7) := HKV
    by_cases ht1 : nt ≤ 8;rotate_left
    · have HNO : Hd (¬ NodeA d) := fun hh => ht1 (by rw [HNT.o]; exact hh.tn)
      have htz2 : (8 : Int) < (nt : Int) := by omega
      clear ht1;go_wp2;go_ret;exact CtrAns.no (aOk_no HNO.o) (HCq.o _).ct (HCq.o _).pa
    have HTa : Hd (d.k ≠ 7 → d.tb = []) := fun h => absurd HK7.o h;have HTb : Hd (d.tb.length ≤ 8) := (show d.tb.length ≤ 8 by rw [← HNT.o]; exact ht1);have htz2 : ¬ (8 : Int) < (nt : Int) := by omega
  | by_cases ht1 : nt = 0
    rotate_left
    · have HNO : Hd (¬ NodeA d) := fun hh => ht1 (by rw [HNT.o]; exact tb_nil.1 (hh.t0 (by rw [HKV.o]; decide)))
      have htz : (0 : Int) < (nt : Int) := by omega
      clear ht1;go_wp2;go_ret;exact CtrAns.no (aOk_no HNO.o) (HCq.o _).ct (HCq.o _).pa
    have HT0 : Hd (d.tb.length = 0) := (show d.tb.length = 0 by rw [← HNT.o]; exact ht1);have HTa : Hd (d.k ≠ 7 → d.tb = []) := fun _ => tb_nil.2 HT0.o;have HTb : Hd (d.tb.length ≤ 8) := (show d.tb.length ≤ 8 by rw [HT0.o]; omega);have htz : ¬ (0 : Int) < (nt : Int) := by omega
    have htz2 : ¬ (8 : Int) < (nt : Int) := by omega
    clear ht1
  first
  | have hE : hasE d.k := by rw [HKV.o]; unfold hasE; omega
    have he2 : es = esz d.e := by rw [HES.o, HKV.o]; rfl
    have HE2 := iH he2;clear he2;have EF := fun o => HEF.o (W1.alloc o) (L - 1) (HCq.o o).bl (HCq.o o).ct (by omega) (by omega);have HE := iH hE;clear hE;go_wp2_with fail
    refine (EF _).mono ?_;rintro e w3 ⟨q3, L3, rfl, hq3, hL3, hc3, hp3⟩;have HC3 := iH ((HCq.o _).past hg hgw hp3 hc3);clear EF hc3 hp3 HCq y0 y1 y2 y3 y4 y5 y6 y7 y8 y9 y10 y11 y12;cases q3
    · have HNO : Hd (¬ (aOk (.mk d kid) deep ∧ ((asz (.mk d kid) : Nat) : Int) ≤ L)) := fun hh => by
       have h1 := hh.1.2.1.e1 HE.o;have h2 := HSZ.o;have h3 := hh.2;have h5 := HE2.o;have h4 := hq3.2 ⟨h1, by omega⟩
       cases h4
      clear hq3 hL3;go_wp2;go_ret;exact CtrAns.no HNO.o HC3.o.ct HC3.o.pa
    obtain ⟨h31, h32⟩ := hq3.1 rfl;have h33 := hL3 rfl;have HE1 : Hd (hasE d.k → eOk 120 d.e 1) := fun _ => h31;have HE0 : Hd (¬ hasE d.k → zeroE d.e) := fun h => absurd HE.o h;have h34 := HE2.o;have HL3 : Hd (L3 = L - (1 + es : Nat)) := (show L3 = _ by omega);have hL30 : 0 ≤ L3 := by omega
    have hL31 : L3 ≤ 100000 := by omega
    clear h31 h32 h33 h34 hq3 hL3
  | have hE : ¬ hasE d.k := by rw [HKV.o]; unfold hasE; omega
    have he2 : es = 0 := by rw [HES.o, HKV.o]; rfl
    have HE := iH hE;have HE2 := iH he2;clear hE he2;have ZE := fun o => HZE.o (W1.alloc o) (HCq.o o).bl;go_wp2_with fail
    refine (ZE _).mono ?_;rintro e w3 ⟨q3, rfl, hq3, hb3⟩;have HC3 := iH ((HCq.o _).below (HCq.o _).bl.size hb3);clear ZE hb3 HCq y0 y1 y2 y3 y4 y5 y6 y7 y8 y9 y10 y11 y12;cases q3
    · have HNO : Hd (¬ NodeA d) := fun hh => by
       have h4 := hq3.2 (hh.e0 HE.o);cases h4
      clear hq3;go_wp2;go_ret;exact CtrAns.no (aOk_no HNO.o) HC3.o.ct HC3.o.pa
    have HE0 : Hd (¬ hasE d.k → zeroE d.e) := fun _ => hq3.1 rfl;have HE1 : Hd (hasE d.k → eOk 120 d.e 1) := fun h => absurd h HE.o;obtain ⟨L3, hL3e⟩ : ∃ L3, L3 = L - 1 := ⟨_, rfl⟩;have h34 := HE2.o;have HL3 : Hd (L3 = L - (1 + es : Nat)) := (show L3 = _ by omega);have hL30 : 0 ≤ L3 := by omega
    have hL31 : L3 ≤ 100000 := by omega
    rw [← hL3e] at HC3;clear hq3 hL3e h34
  have x10 := HC3.o.bx.2 10 _ rfl;first
  | have hV : hasV d.k := by rw [HKV.o]; unfold hasV; omega
    have HV := iH hV;clear hV;by_cases hv1 : d.v.len = 0
    · have HNO : Hd (¬ NodeA d) := fun hh => name_pos (hh.v1 HV.o) (HLV.o.2 hv1)
      have hvz : ¬ (0 : Int) < (d.v.len : Int) := by omega
      clear hv1;go_wp2;go_ret;exact CtrAns.no (aOk_no HNO.o) HC3.o.ct HC3.o.pa
    have hvz : (0 : Int) < (d.v.len : Int) := by omega
    clear hv1;have VR := HVR.o w3 HC3.o.bl;go_wp2_with fail
    refine VR.mono ?_;rintro e w4 ⟨q4, rfl, hq4, hb4⟩;have HC3 := iH (HC3.o.below HC3.o.bl.size hb4);clear VR hb4 x10;cases q4
    · have HNO : Hd (¬ NodeA d) := fun hh => by
       have h4 := hq4.2 (hh.v1 HV.o);cases h4
      clear hq4;go_wp2;go_ret;exact CtrAns.no (aOk_no HNO.o) HC3.o.ct HC3.o.pa
    have HV1 : Hd (hasV d.k → nameOk d.v.b = true) := fun _ => hq4.1 rfl;have HV0 : Hd (¬ hasV d.k → d.v.b = []) := fun h => absurd HV.o h;have x10 := HC3.o.bx.2 10 _ rfl;clear hq4
  | have hV : ¬ hasV d.k := by rw [HKV.o]; unfold hasV; omega
    have HV := iH hV;clear hV;by_cases hv1 : d.v.len = 0;rotate_left
    · have HNO : Hd (¬ NodeA d) := fun hh => hv1 (HLV.o.1 (hh.v0 HV.o))
      have hvz : (0 : Int) < (d.v.len : Int) := by omega
      clear hv1;go_wp2;go_ret;exact CtrAns.no (aOk_no HNO.o) HC3.o.ct HC3.o.pa
    have HV1 : Hd (hasV d.k → nameOk d.v.b = true) := fun h => absurd h HV.o;have HV0 : Hd (¬ hasV d.k → d.v.b = []) := fun _ => HLV.o.2 hv1;have hvz : ¬ (0 : Int) < (d.v.len : Int) := by omega
    clear hv1
  have x1 := HC3.o.bx.2 1 _ rfl;have x11 := HC3.o.bx.2 11 _ rfl;have x12 := HC3.o.bx.2 12 _ rfl;first
  | have HK0 : Hd (d.k = 0) := HKV
    have HTO : Hd (∀ x ∈ d.tb, x.td.ok = true) := fun x hx => absurd hx (by rw [tb_nil.2 HT0.o]; exact List.not_mem_nil);have hnz : ¬ (0 : Int) < (d.n : Int) := by have h := HN.o; omega
    go_wp2_with fail
    clear x1 x11 x12 x10;go_loopw [10] (fun i wr => ∃ (k : Nat) (Lr : Int), k ≤ d.pn ∧ i = .int .i64 k ∧ 0 ≤ Lr ∧ Lr ≤ 100000 ∧ Hd (Lr = L3 - (k : Nat)) ∧ Hd (∀ j, j < k → ptOk (d.pat j)) ∧ Hd (CS w0 w wr g Lr [.int .i64 d.k, .slice d.pa d.pn d.pc, .int .i64 d.e.d.k, .int .i64 d.e.d.op, .slice d.e.d.v.a d.e.d.v.len d.e.d.v.cap, .int .i64 d.e.d.t.t.k, .slice d.e.d.t.t.a d.e.d.t.t.len d.e.d.t.t.cap, .int .i64 d.e.d.t.t.n, .int .i64 d.e.d.t.t.s, .slice d.e.d.ka d.e.d.n d.e.d.kc, .slice d.v.a d.v.len d.v.cap, .slice d.ta nt d.tc, .slice d.ka d.n d.kc])) (fun i _ => d.pn - (intOf i).toNat)
    case atStart => exact ⟨0, L3, nZ, rfl, by omega, by omega, (show L3 = L3 - ((0 : Nat) : Int) by omega), fun j hj => absurd hj nN, HC3⟩
    clear HC3;obtain ⟨k, Lr, hk, rfl, hLr0, hLr1, HLR, HOKS, HCr⟩ := hrel;have x1 := HCr.o.bx.2 1 _ rfl;have x11 := HCr.o.bx.2 11 _ rfl;have x12 := HCr.o.bx.2 12 _ rfl;by_cases hlk : k < d.pn
    · have hlkz : (k : Int) < (d.pn : Int) := by omega
      obtain ⟨b, off, eP, _, hbp, hcp⟩ := HPR.o.resolve_left (by omega);have HCP := iH hcp;have hbp' : b < w0.heap.size := hbp;have HEP := iH eP;clear eP hcp hbp;have cg := HCr.o.ct.cell;have fg := HCr.o.ct.fr;have hwr : IntKind.i64.wrap (Lr - 1) = Lr - 1 := by rw [IntKind.wrap_i64]; omega
      have HC5 := iH (HCr.o.past hg hgw ((Past.refl g wr).set 0 (.int .i64 (Lr - 1))) (HCr.o.ct.set _));go_upto_region 15 with fail
      generalize wr.setCell _ _ = W5 at *;clear cg fg hwr x1 x11 x12 HCr;have cg := HC5.o.ct.cell;by_cases hLz5 : Lr - 1 < 0
      · have HNO : Hd (¬ (aOk (.mk d kid) deep ∧ ((asz (.mk d kid) : Nat) : Int) ≤ L)) := fun hh => by
         have h2 := HSZ.o;have h4 := HLR.o;have h6 := hh.2;have h8 := HL3.o;omega
        go_wp2;go_ret;exact CtrAns.no HNO.o HC5.o.ct HC5.o.pa
      have x1 := HC5.o.bx.2 1 _ rfl;rw [HEP.o] at x1;have hcx : ∀ c u, ((d.pat k).cells)[c]? = some u → W5.cell? ⟨b, off + k * 15 + c, none⟩ = some u := fun c u hu => (HC5.o.bl.cell (p := ⟨b, off + k * 15 + c, none⟩) hbp').trans (HCP.o k hlk c u hu);have p0 := hcx 0 _ rfl;have p1 := hcx 1 _ rfl;have p2 := hcx 2 _ rfl;have p3 := hcx 3 _ rfl;have p4 := hcx 4 _ rfl;have p5 := hcx 5 _ rfl;have p6 := hcx 6 _ rfl;have p7 := hcx 7 _ rfl;have p8 := hcx 8 _ rfl;have p9 := hcx 9 _ rfl;have p10 := hcx 10 _ rfl;have p11 := hcx 11 _ rfl;have p12 := hcx 12 _ rfl;have p13 := hcx 13 _ rfl;have p14 := hcx 14 _ rfl;simp only [Nat.add_zero] at p0;clear hcx;have Z := HPT.o k hlk W5 HC5.o.bl;go_wp2_with fail
      refine Z.mono ?_;rintro e w6 ⟨q6, rfl, hq6, hb6⟩;have HC6 := iH (HC5.o.below HC5.o.bl.size hb6);clear Z hb6 cg x1 HC5 p0 p1 p2 p3 p4 p5 p6 p7 p8 p9 p10 p11 p12 p13 p14;cases q6
      · have HNO : Hd (¬ NodeA d) := fun hh => by
         have h7 := hq6.2 (hh.pt k hlk);cases h7
        clear hq6;go_wp2;go_ret;exact CtrAns.no (aOk_no HNO.o) HC6.o.ct HC6.o.pa
      have HN5 : Hd (ptOk (d.pat k)) := hq6.1 rfl;clear hq6;have HL5 : Hd (Lr - 1 = L3 - ((k + 1 : Nat) : Int)) := (show Lr - 1 = _ by have h2 := HLR.o; omega);go_wp2;go_roundw
      case rel =>
       refine ⟨k + 1, Lr - 1, by omega, by go_num, by omega, by omega, HL5, fun j hj => ?_, HC6⟩
       by_cases e : j = k
       · subst e
         exact HN5.o
       exact HOKS.o j (by omega)
      case measure => simp [intOf]; omega
    obtain rfl : k = d.pn := by omega
    have hlkz : ¬ (d.pn : Int) < (d.pn : Int) := by omega
    have HPO : Hd (∀ i, i < d.pn → ptOk (d.pat i)) := HOKS;have HLe : Hd (Lr = L - (1 + es + d.pn : Nat)) := (show Lr = _ by have h1 := HL3.o; have h2 := HLR.o; omega);go_wp2_with fail
    refine wl1 ?_;go_wp2_with fail
    refine wl1 ?_;go_wp2_with fail
    have HND := iH (HND.o HPO.o HTO.o HNK.o HPa.o HPb.o HTa.o HTb.o HE1.o HE0.o HV1.o HV0.o);go_ret;exact CtrAns.yes ⟨hd10, HND.o, fun i hi => absurd hi (by rw [HN.o]; exact nN)⟩ (by have h := HSZ.o; rw [HN.o] at h; have h2 : sumN 0 (fun i => asz (kid i)) = 0 := rfl; have h3 := HLe.o; omega) (by have h := HSZ.o; rw [HN.o] at h; have h2 : sumN 0 (fun i => asz (kid i)) = 0 := rfl; have h3 := HLe.o; omega) HCr.o.ct HCr.o.pa
  | have HK7 : Hd (d.k = 7) := HKV
    have HPO : Hd (∀ i, i < d.pn → ptOk (d.pat i)) := fun i hi => absurd hi (by rw [HP0.o]; exact nN);have hnz : ¬ (0 : Int) < (d.n : Int) := by have h := HN.o; omega
    have HLe : Hd (L3 = L - (1 + es + d.pn : Nat)) := (show L3 = _ by have h1 := HL3.o; have h2 := HP0.o; omega);go_wp2_with fail
    refine wl1 ?_;go_wp2_with fail
    clear x1 x11 x12 x10;go_loopw [11] (fun i wr => ∃ (k : Nat), k ≤ nt ∧ i = .int .i64 k ∧ Hd (∀ j x, j < k → d.tb[j]? = some x → x.td.ok = true) ∧ Hd (CS w0 w wr g L3 [.int .i64 d.k, .slice d.pa d.pn d.pc, .int .i64 d.e.d.k, .int .i64 d.e.d.op, .slice d.e.d.v.a d.e.d.v.len d.e.d.v.cap, .int .i64 d.e.d.t.t.k, .slice d.e.d.t.t.a d.e.d.t.t.len d.e.d.t.t.cap, .int .i64 d.e.d.t.t.n, .int .i64 d.e.d.t.t.s, .slice d.e.d.ka d.e.d.n d.e.d.kc, .slice d.v.a d.v.len d.v.cap, .slice d.ta nt d.tc, .slice d.ka d.n d.kc])) (fun i _ => nt - (intOf i).toNat)
    case atStart => exact ⟨0, nZ, rfl, fun j x hj => absurd hj nN, HC3⟩
    clear HC3;obtain ⟨k, hk, rfl, HOKS, HCr⟩ := hrel;have x11 := HCr.o.bx.2 11 _ rfl;have x12 := HCr.o.bx.2 12 _ rfl;by_cases hlk : k < nt
    · have hlkz : (k : Int) < (nt : Int) := by omega
      obtain ⟨x, hx⟩ : ∃ x, d.tb[k]? = some x := ⟨_, List.getElem?_eq_getElem (by rw [← HNT.o]; exact hlk)⟩;obtain ⟨hk2, hxe⟩ := List.getElem?_eq_some_iff.1 hx;obtain ⟨b, off, eT, hbt, hct⟩ := HTR.o.resolve_left (fun e => by rw [e] at hk2; exact absurd hk2 nN);have hcx := TRow.at (l := d.tb) (b := b) (off := off) (w := wr) (fun j u hu => (HCr.o.bl.cell (p := ⟨b, off + j, none⟩) hbt).trans (hct j u hu)) k hk2;rw [hxe] at hcx;obtain ⟨z0, z1, z2, z3⟩ := hcx;rw [eT] at x11;have HX := iH hx;have Z := HTM.o x (List.mem_of_getElem? hx) wr HCr.o.bl;clear hx hxe hk2 hct eT hbt;go_wp2_with fail
      refine Z.mono ?_;rintro e w5 ⟨q5, rfl, hq5, hb5⟩;have HC5 := iH (HCr.o.below HCr.o.bl.size hb5);clear Z z0 z1 z2 z3 hb5 x11 x12 HCr;cases q5
      · have HNO : Hd (¬ NodeA d) := fun hh => by
         have h7 := hq5.2 (hh.tm x (List.mem_of_getElem? HX.o));cases h7
        clear hq5;go_wp2;go_ret;exact CtrAns.no (aOk_no HNO.o) HC5.o.ct HC5.o.pa
      have HN5 : Hd (x.td.ok = true) := hq5.1 rfl;clear hq5;go_wp2;go_roundw
      case rel =>
       refine ⟨k + 1, by omega, by go_num, fun j y hj hy => ?_, HC5⟩
       by_cases e : j = k
       · subst e
         rw [HX.o] at hy;cases hy;exact HN5.o
       exact HOKS.o j y (by omega) hy
      case measure => simp [intOf]; omega
    obtain rfl : k = nt := by omega
    have hlkz : ¬ (k : Int) < (k : Int) := by omega
    have HTO : Hd (∀ x ∈ d.tb, x.td.ok = true) := fun x hx => by
     obtain ⟨j, hj, rfl⟩ := List.mem_iff_getElem.1 hx;exact HOKS.o j _ (by rw [HNT.o]; exact hj) (List.getElem?_eq_getElem hj)
    go_wp2_with fail
    refine wl1 ?_;go_wp2_with fail
    have HND := iH (HND.o HPO.o HTO.o HNK.o HPa.o HPb.o HTa.o HTb.o HE1.o HE0.o HV1.o HV0.o);go_ret;exact CtrAns.yes ⟨hd10, HND.o, fun i hi => absurd hi (by rw [HN.o]; exact nN)⟩ (by have h := HSZ.o; rw [HN.o] at h; have h2 : sumN 0 (fun i => asz (kid i)) = 0 := rfl; have h3 := HLe.o; omega) (by have h := HSZ.o; rw [HN.o] at h; have h2 : sumN 0 (fun i => asz (kid i)) = 0 := rfl; have h3 := HLe.o; omega) HCr.o.ct HCr.o.pa
  | have hn2 : 0 < d.n ∧ d.n ≤ 2 := by rw [HN.o]; decide
    have HN2 := iH hn2;clear hn2;have HPO : Hd (∀ i, i < d.pn → ptOk (d.pat i)) := fun i hi => absurd hi (by rw [HP0.o]; exact nN);have HTO : Hd (∀ x ∈ d.tb, x.td.ok = true) := fun x hx => absurd hx (by rw [tb_nil.2 HT0.o]; exact List.not_mem_nil);have HLe : Hd (L3 = L - (1 + es + d.pn : Nat)) := (show L3 = _ by have h1 := HL3.o; have h2 := HP0.o; omega);obtain ⟨b, off, eK, _, hbk, hck⟩ := HKR.o.resolve_left (Nat.ne_of_gt HN2.o.1);have HCK := iH hck;have hbk' : b < w0.heap.size := hbk;have HEK := iH eK;clear eK hck hbk;go_wp2_with fail
    refine wl1 ?_;go_wp2_with fail
    refine wl1 ?_;go_wp2_with fail
    clear x1 x11 x12 x10;go_loopw [12] (fun i wr => ∃ (k : Nat) (Lr : Int), k ≤ d.n ∧ i = .int .i64 k ∧ 0 ≤ Lr ∧ Lr ≤ 100000 ∧ Hd (Lr = L3 - (sumN k (fun i => asz (kid i)) : Nat)) ∧ Hd (∀ j, j < k → aOk (kid j) (deep + 1)) ∧ Hd (CS w0 w wr g Lr [.int .i64 d.k, .slice d.pa d.pn d.pc, .int .i64 d.e.d.k, .int .i64 d.e.d.op, .slice d.e.d.v.a d.e.d.v.len d.e.d.v.cap, .int .i64 d.e.d.t.t.k, .slice d.e.d.t.t.a d.e.d.t.t.len d.e.d.t.t.cap, .int .i64 d.e.d.t.t.n, .int .i64 d.e.d.t.t.s, .slice d.e.d.ka d.e.d.n d.e.d.kc, .slice d.v.a d.v.len d.v.cap, .slice d.ta nt d.tc, .slice d.ka d.n d.kc])) (fun i _ => d.n - (intOf i).toNat)
    case atStart => exact ⟨0, L3, nZ, rfl, by omega, by omega, (show L3 = L3 - ((0 : Nat) : Int) by omega), fun j hj => absurd hj nN, HC3⟩
    clear HC3;obtain ⟨k, Lr, hk, rfl, hLr0, hLr1, HLR, HOKS, HCr⟩ := hrel;have x12 := HCr.o.bx.2 12 _ rfl;have hn2 : d.n ≤ 2 := HN2.o.2;by_cases hlk : k < d.n
    · have hlkz : (k : Int) < (d.n : Int) := by omega
      rw [HEK.o] at x12;have hcx : wr.rangeAt b (off + k * 13) (kid k).d.cl := fun c u hu => (HCr.o.bl.cell (p := ⟨b, off + k * 13 + c, none⟩) hbk').trans (HCK.o k hlk c u hu);have Z := HIH.o k hlk Lr wr HCr.o.bl HCr.o.ct hLr0 hLr1 hd10;have hdw : IntKind.i64.wrap (deep + 1) = deep + 1 := by rw [IntKind.wrap_i64]; omega
      go_wp2_with (refine wpList_load_mid rfl 52 _ rfl b (off + k * 13) rfl (kid k).d.cl _ hcx Tryz.underlying52 rfl (by kernel_rfl) ?_; try simp only [Act.put, sA, zA, cA])
      refine Z.mono ?_;rintro e w5 ⟨q5, L5, rfl, hq5, hL5, hc5, hp5⟩;have HC5 := iH (HCr.o.past hg hgw hp5 hc5);clear Z hcx hc5 hp5 x12 HCr hdw;have HS : Hd (sumN (k + 1) (fun i => asz (kid i)) = sumN k (fun i => asz (kid i)) + asz (kid k)) := rfl;cases q5
      · have HNO : Hd (¬ (aOk (.mk d kid) deep ∧ ((asz (.mk d kid) : Nat) : Int) ≤ L)) := fun hh => by
         have h1 := hh.1.2.2 k hlk;have h2 := HSZ.o;have h3 := sumN_mono (f := fun i => asz (kid i)) (show k + 1 ≤ d.n by omega);have h4 := HLR.o;have h5 := HS.o;have h6 := hh.2;have h8 := HLe.o;have h7 := hq5.2 ⟨h1, by omega⟩
         cases h7
        clear hq5 hL5;go_wp2;go_ret;exact CtrAns.no HNO.o HC5.o.ct HC5.o.pa
      obtain ⟨h51, h52⟩ := hq5.1 rfl;have h53 := hL5 rfl;have HN5 := iH h51;have HL5 : Hd (L5 = L3 - (sumN (k + 1) (fun i => asz (kid i)) : Nat)) := (show L5 = _ by have h1 := HS.o; have h2 := HLR.o; omega);have hL50 : 0 ≤ L5 := by omega
      have hL51 : L5 ≤ 100000 := by omega
      clear h51 h52 h53 hq5 hL5;go_wp2;go_roundw
      case rel =>
       refine ⟨k + 1, L5, by omega, by go_num, hL50, hL51, HL5, fun j hj => ?_, HC5⟩
       by_cases e : j = k
       · subst e
         exact HN5.o
       exact HOKS.o j (by omega)
      case measure => simp [intOf]; omega
    obtain rfl : k = d.n := by omega
    have hlkz : ¬ (d.n : Int) < (d.n : Int) := by omega
    go_wp2_with fail
    have HND := iH (HND.o HPO.o HTO.o HNK.o HPa.o HPb.o HTa.o HTb.o HE1.o HE0.o HV1.o HV0.o);go_ret;have h2 := HSZ.o;have h4 := HLR.o;have h8 := HLe.o;exact CtrAns.yes ⟨hd10, HND.o, fun i hi => HOKS.o i hi⟩ (by omega) (by omega) HCr.o.ct HCr.o.pa
theorem l5alg_out (d : AN) (kid : Nat → AT) (hkv : d.k < 0 ∨ 7 < d.k) (deep L : Int) (g : Nat) (w0 w : World) (hw : Bl w0 w) (hg : w0.heap.size ≤ g) (hc : Ctr w g L) (hL0 : 0 ≤ L) (hL1 : L ≤ 100000) :
 Calls Tryz.prog 70 #[.agg d.ar, .int .i64 deep, .pointer (some ⟨g, 0, none⟩)] w (CtrAns (aOk (.mk d kid) deep) (asz (.mk d kid)) g L w) := by
 have hgw : g < w.heap.size := hc.lt;have HNO : Hd (¬ NodeA d) := fun hh => by
  have h1 := hh.k0;have h2 := hh.k7;omega
 have HCS : Hd (CS w0 w ((w.setCell ⟨g, 0, none⟩ (.int .i64 (L - 1))).alloc (.cells d.ar 52)) g (L - 1) d.cl) := CS.new hw hg hc d.ar 52 (L - 1);have c0 := fun o => ((bl_a (w := w) o).cell (p := ⟨g, 0, none⟩) hgw).trans hc.cell;have f0 := fun o => ((bl_a (w := w) o).frozen (p := ⟨g, 0, none⟩) hgw).trans hc.fr;have hwr : IntKind.i64.wrap (L - 1) = L - 1 := by rw [IntKind.wrap_i64]; omega
 clear hw hc;go_enter Tryz.func70, Tryz.ntmps70;go_upto_region 2 with fail
 generalize (w.setCell _ _).alloc _ = W1 at *;clear c0 f0 hwr;have cg := HCS.o.ct.cell;have x0 := HCS.o.bx.2 0 _ rfl;by_cases hLz : L - 1 < 0
 · clear hkv
   go_wp2;go_ret;exact CtrAns.no (aOk_no HNO.o) HCS.o.ct HCS.o.pa
 by_cases hdz : deep > 240
 · clear hkv
   go_wp2;go_ret;exact CtrAns.no (aOk_no HNO.o) HCS.o.ct HCS.o.pa
 by_cases hk0 : d.k < 0
 · clear hkv
   go_wp2;go_ret;exact CtrAns.no (aOk_no HNO.o) HCS.o.ct HCS.o.pa
 have hk7 : d.k > 7 := by omega
 clear hkv;go_wp2;go_ret;exact CtrAns.no (aOk_no HNO.o) HCS.o.ct HCS.o.pa
theorem l5alg_any (e : AT) : ∀ (deep L : Int) (g : Nat) (w0 w : World), e.lies 0 w0 → Bl w0 w → w0.heap.size ≤ g → Ctr w g L → 0 ≤ deep → deep ≤ 100000 → 0 ≤ L → L ≤ 100000 →
 Calls Tryz.prog 70 #[.agg e.d.ar, .int .i64 deep, .pointer (some ⟨g, 0, none⟩)] w (CtrAns (aOk e deep) (asz e) g L w) := by
 induction e with
 | nil => exact fun _ _ _ _ _ h => False.elim h
 | mk d kid ih =>
  intro deep L g w0 w hl hw hg hc hd0 hd1 hL0 hL1;have hk := hl.2.2.2.2.2.2.2.2.2;have IH : ∀ i, i < d.n → ∀ (L' : Int) (W : World), Bl w0 W → Ctr W g L' → 0 ≤ L' → L' ≤ 100000 → deep ≤ 240 → Calls Tryz.prog 70 #[.agg (kid i).d.ar, .int .i64 (deep + 1), .pointer (some ⟨g, 0, none⟩)] W (CtrAns (aOk (kid i) (deep + 1)) (asz (kid i)) g L' W) := fun i hi L' W hb hc' h0 h1 h10 => ih i (deep + 1) L' g w0 W (hk i hi) hb hg hc' (by omega) (by omega) h0 h1;by_cases hout : d.k < 0 ∨ 7 < d.k
  · exact l5alg_out d kid hout deep L g w0 w hw hg hc hL0 hL1
  exact l5alg_x d kid (by omega) deep L g w0 w hl hw hg hc hd0 hd1 hL0 hL1 IH
def SL.v (x : SL) : Value := .slice x.a x.len x.cap
structure VL (w0 w : World) (B : Nat) (v : Value) (L : List SL) : Prop where
 own : w.ownsRow B 23 1 v L.length (L.map SL.v)
 lo : ∀ g, v.ownBlock = some g → B ≤ g ∧ g < w.heap.size
 txt : ∀ x ∈ L, BsF 0 w0 x
theorem VL.nil (w0 w : World) (B : Nat) : VL w0 w B (.slice none 0 0) [] := ⟨World.ownsRow_nil _ _ _ _, fun g h => (by cases h), fun x hx => (by cases hx)⟩
theorem VL.keep {v : Value} {L : List SL} (h : VL w0 w B v L) (hs : w.heap.size ≤ w'.heap.size) (hb : ∀ g, v.ownBlock = some g → w'.heap[g]? = w.heap[g]?) : VL w0 w' B v L := by
 obtain ⟨⟨h1, h2⟩, hl, ht⟩ := h;refine ⟨⟨h1, ?_⟩, fun c hc => ⟨(hl c hc).1, Nat.lt_of_lt_of_le (hl c hc).2 hs⟩, ht⟩;rcases h2 with h2 | ⟨g', cap', cur, hv, hB, hh, r⟩
 · exact .inl h2
 refine .inr ⟨g', cap', cur, hv, hB, ?_, r⟩;rw [hb g' (by rw [hv]; rfl)];exact hh
theorem VL.below {v : Value} {L : List SL} (h : VL w0 w B v L) (hb : Bl w w') : VL w0 w' B v L := h.keep hb.size fun g hg => hb.block g (h.lo g hg).2
theorem VL.form {v : Value} {L : List SL} (h : VL w0 w B v L) : ∃ a cap, v = .slice a L.length cap ∧ (L = [] ∨ ∃ g, a = some ⟨g, 0, none⟩ ∧ B ≤ g ∧ g < w.heap.size ∧ ∀ i x, L[i]? = some x → w.cell? ⟨g, i, none⟩ = some (.slice x.a x.len x.cap)) := by
 rcases h.own.2 with ⟨hv, h0⟩ | ⟨g, cap, cur, hv, hB, hh, hle, _, hsz, htk⟩
 · have := List.eq_nil_of_length_eq_zero h0
   subst this;exact ⟨none, 0, hv, .inl rfl⟩
 refine ⟨some ⟨g, 0, none⟩, cap, hv, .inr ⟨g, rfl, hB, (h.lo g (by rw [hv]; rfl)).2, fun i x hx => ?_⟩⟩;have hi := (List.getElem?_eq_some_iff.1 hx).1;have hu : (L.map SL.v)[i]? = some (.slice x.a x.len x.cap) := by rw [List.getElem?_map, hx]; rfl
 rw [← htk, List.getElem?_take, if_pos (by omega)] at hu;simp only [World.cell?, hh];simpa using hu
def InL (b : List Int) (L : List SL) : Prop := b ∈ L.map SL.b
def addV (l : List (List Int)) (v : List Int) : List (List Int) := if v = [] ∨ v ∈ l then l else l ++ [v]
theorem addV_len (l : List (List Int)) (v : List Int) : (addV l v).length ≤ l.length + 1 := by
 unfold addV;split <;> simp
structure Kp (v : Value) (w : World) (v' : Value) (w' : World) : Prop where
 os : w'.os = w.os
 tape : w'.tape = w.tape
 output : w'.output = w.output
 size : w.heap.size ≤ w'.heap.size
 block : ∀ b, b < w.heap.size → v.ownBlock ≠ some b → w'.heap[b]? = w.heap[b]?
 blk : ∀ g, v'.ownBlock = some g → v.ownBlock = some g ∨ w.heap.size ≤ g
theorem Kp.of_below {v : Value} (h : Bl w w') : Kp v w v w' := ⟨h.os, h.tape, h.output, h.size, fun b hb _ => h.block b hb, fun _ hg => .inl hg⟩
theorem Kp.trans {v v'' : Value} {w'' : World} (h : Kp v w v' w') (k : Kp v' w' v'' w'') : Kp v w v'' w'' :=
 ⟨k.os.trans h.os, k.tape.trans h.tape, k.output.trans h.output, Nat.le_trans h.size k.size, fun b hb hn => (k.block b (Nat.lt_of_lt_of_le hb h.size) (fun e => by
  rcases h.blk b e with e' | e'
  · exact hn e'
  · omega)).trans (h.block b hb hn), fun g hg => by
  rcases k.blk g hg with e | e
  · exact h.blk g e
  exact .inr (Nat.le_trans h.size e)⟩
theorem Kp.box {v : Value} {b : Nat} {L : List Value} (h : Kp v w v' w') (hx : Box w b L) (hn : v.ownBlock ≠ some b) : Box w' b L := ⟨Nat.lt_of_lt_of_le hx.1 h.size, fun c u hu => (World.cell?_of_block (w := w) (a := ⟨b, c, none⟩) (h.block b hx.1 hn)).trans (hx.2 c u hu)⟩
theorem Kp.low {v : Value} (h : Kp v w v' w') (hv : ∀ g, v.ownBlock = some g → B ≤ g) (hB : B ≤ w.heap.size) : Below B w w' := ⟨h.os, h.tape, h.output, h.size, fun b hb => h.block b (by omega) (fun e => by have := hv b e; omega)⟩
theorem Kp.pre {v : Value} {w1 : World} (h : Bl w w1) (k : Kp v w1 v' w') : Kp v w v' w' := (Kp.of_below h).trans k
def AddAns (w0 : World) (B : Nat) (v : Value) (R : List (List Int)) (w : World) (e : Ending) (w' : World) : Prop := ∃ v' L', e = .returned v' ∧ VL w0 w' B v' L' ∧ L'.map SL.b = R ∧ Kp v w v' w'
theorem str_ne (ha : Byt a) (hb : Byt b) (h : a ≠ b) : strOfNums a ≠ strOfNums b := fun e => h (by rw [← numsOf_nums ha, ← numsOf_nums hb, e])
theorem str_ne2 (ha : Byt a) (hb : Byt b) (h : a ≠ b) : (strOfNums a).toList ≠ (strOfNums b).toList := fun e => h (by
 rw [Lib.strOfNums_toList, Lib.strOfNums_toList] at e
 rw [← numsOf_nums ha, ← numsOf_nums hb]
 show (a.map fun n => UInt8.ofNat n.toNat).map _ = (b.map fun n => UInt8.ofNat n.toNat).map _
 exact congrArg _ e)
theorem l4has_any (v : Value) (L : List SL) (x : SL) (B : Nat) (w0 w : World) (h : VL w0 w B v L) (hw : Bl w0 w) (hx : BsF 0 w0 x) (hn : L.length ≤ 1048576) :
 Calls Tryz.prog 138 #[v, .slice x.a x.len x.cap] w (Tells (InL x.b L) w) := by
 obtain ⟨a, cap, rfl, hf⟩ := h.form;obtain ⟨n, hnn⟩ : ∃ n, n = L.length := ⟨_, rfl⟩;have HN := iH hnn;have HT := iH h.txt;have HX := iH hx;have HW := iH hw;have HG := iH hf;rw [← hnn] at hn ⊢;clear h hw hx hf hnn;go_in;go_wp2_with fail
 go_loopw [5] (fun i wr => ∃ k : Nat, k ≤ n ∧ i = .int .i64 k ∧ Hd (∀ j y, j < k → L[j]? = some y → y.b ≠ x.b) ∧ Hd (Bl w wr)) (fun i _ => n - (intOf i).toNat)
 case atStart => exact ⟨0, nZ, rfl, fun j y hj => absurd hj nN, Below.refl _ _⟩
 obtain ⟨k, hk, rfl, HNE, HB⟩ := hrel;by_cases hlk : k < n
 · have hlkz : (k : Int) < (n : Int) := by omega
   obtain ⟨y, hy⟩ : ∃ y, L[k]? = some y := ⟨_, List.getElem?_eq_getElem (by rw [← HN.o]; exact hlk)⟩;obtain ⟨g, ea, _, hg, hc⟩ := HG.o.resolve_left (fun e => by rw [e] at hy; cases hy);have hty := HT.o y (List.mem_of_getElem? hy);have HY := iH hy;have HF : Hd (∀ w', Bl wr w' → w'.cell? ⟨g, k, none⟩ = some (.slice y.a y.len y.cap) ∧ (convert 23 9 (.slice y.a y.len y.cap)).run Tryz.prog w' = .ok (.string (strOfNums y.b)) w' ∧ (convert 23 9 (.slice x.a x.len x.cap)).run Tryz.prog w' = .ok (.string (strOfNums x.b)) w') := fun w' hb => ⟨((bl_trans HB.o hb).cell (p := ⟨g, k, none⟩) hg).trans (hc k y hy), (hty.1.below (bl_trans HW.o (bl_trans HB.o hb))).str, (HX.o.1.below (bl_trans HW.o (bl_trans HB.o hb))).str⟩;subst ea;clear hc hy;by_cases hyx : y.b = x.b
   · have HIN : Hd (InL x.b L) := (show x.b ∈ L.map SL.b by rw [← hyx]; exact List.mem_map_of_mem (f := SL.b) (List.mem_of_getElem? HY.o))
     rw [hyx] at HF;clear hyx hty;go_wp2_with fail
     refine whd (fun w' => Bl wr w') ?_ fun hHeld => ?_
     · exact Below.drew brf
     refine tkB 0 12 ?_;refine tkB 1 13 ?_;refine tkB 2 14 ?_;refine tkA 3 15 (v := ?v4) ?y4 ?_
     case y4 => (intro w' hSw; obtain ⟨q1, q2, q3⟩ := HF.o w' hSw; go_simp; (try with_reducible rfl))
     refine tkA 4 16 (v := ?v5) ?y5 ?_
     case y5 => (intro w' hSw; obtain ⟨q1, q2, q3⟩ := HF.o w' hSw; go_simp; (try with_reducible rfl))
     refine tkB 5 17 ?_;refine tkA 6 18 (v := ?v7) ?y7 ?_
     case y7 => (intro w' hSw; obtain ⟨q1, q2, q3⟩ := HF.o w' hSw; go_simp; (try with_reducible rfl))
     refine tkB 7 19 ?_;refine wpAnyH_done (by kernel_rfl) ?_ _;have HBq := iH (Below.drew HB.o);clear hHeld HF;go_wp2;go_ret;exact Tells.yes HIN.o HBq.o
   have hs := str_ne hty.1.byt HX.o.1.byt hyx;have hs0 := str_ne2 hty.1.byt HX.o.1.byt hyx;have hs1 := beq_false_of_ne hs0;have hs2 := decide_eq_false hs;have HYX := iH hyx;clear hyx hty;go_wp2_with fail
   refine whd (fun w' => Bl wr w') ?_ fun hHeld => ?_
   · exact Below.drew brf
   refine tkB 0 12 ?_;refine tkB 1 13 ?_;refine tkB 2 14 ?_;refine tkA 3 15 (v := ?v104) ?y104 ?_
   case y104 => (intro w' hSw; obtain ⟨q1, q2, q3⟩ := HF.o w' hSw; go_simp; (try with_reducible rfl))
   refine tkA 4 16 (v := ?v105) ?y105 ?_
   case y105 => (intro w' hSw; obtain ⟨q1, q2, q3⟩ := HF.o w' hSw; go_simp; (try with_reducible rfl))
   refine tkB 5 17 ?_;refine tkA 6 18 (v := ?v107) ?y107 ?_
   case y107 => (intro w' hSw; obtain ⟨q1, q2, q3⟩ := HF.o w' hSw; go_simp; (try with_reducible rfl))
   refine tkB 7 19 ?_;refine wpAnyH_done (by kernel_rfl) ?_ _;have HBq := iH (Below.drew HB.o);clear hHeld HF;clear hs hs0 hs1 hs2;generalize wr.drew = wq at *;go_wp2;go_roundw
   case rel =>
    refine ⟨k + 1, by omega, by go_num, fun j z hj hz => ?_, HBq⟩
    by_cases e : j = k
    · subst e
      rw [HY.o] at hz;cases hz;exact HYX.o
    exact HNE.o j z (by omega) hz
   case measure => simp [intOf]; omega
 obtain rfl : k = n := by omega
 have hlkz : ¬ (k : Int) < (k : Int) := by omega
 have HNI : Hd (¬ InL x.b L) := fun hm => by
  obtain ⟨y, hy, e⟩ := List.mem_map.1 hm;obtain ⟨j, hj, rfl⟩ := List.mem_iff_getElem.1 hy;exact HNE.o j _ (by rw [HN.o]; exact hj) (List.getElem?_eq_getElem hj) e
 go_wp2;go_ret;exact Tells.no HNI.o HB.o
theorem Tryz.infoB23 : (Tryz.prog.info? 23).map (fun i => (i.zero, i.size, i.bytes)) = some (some (.slice none 0 0), 1, 24) := by kernel_rfl
theorem appL {ops : Array Oper} {rest : List Oper} {o : Oper} {a : Act} {Q : Exit → Act → World → Prop} (hgd : o.guard = none) (s x : Operand)
 (ho : o.op = .call { callee := .builtin .append, args := #[s, x], argTypes := #[119, 119] })
 (w0 : World) (B : Nat) (v : Value) (L : List SL) (hs : a.eval s = v) (HO : Hd (VL w0 w B v L)) (y : SL) (hy : BsF 0 w0 y)
 (ad : Addr) (c : Nat) (hx : a.eval x = .slice (some ad) 1 c) (HN : Hd (∀ j u, ([y.v] : List Value)[j]? = some u → w.cell? (ad.add j) = some u)) (hle : L.length ≤ 1048576) (hB : B ≤ w.heap.size)
 (h : ∀ g cap w', Hd (VL w0 w' B (.slice (some ⟨g, 0, none⟩) (L.length + 1) cap) (L ++ [y])) → Hd (Kp v w (.slice (some ⟨g, 0, none⟩) (L.length + 1) cap) w') → wpList Tryz.prog ops Q rest (a.put o.dst (.slice (some ⟨g, 0, none⟩) (L.length + 1) cap)) w') :
 wpList Tryz.prog ops Q (o :: rest) a w := by
 obtain ⟨i0, hi0, hzz⟩ := Option.map_eq_some_iff.1 Tryz.infoB23;simp only [Prod.mk.injEq] at hzz;obtain ⟨hi2, hi1, hi3⟩ := hzz;refine wpList_append_lies _ hgd s x 119 ho B 23 i0 (.slice none 0 0) 1 24 Tryz.underlying119 hi0 hi2 hi1 hi3 rfl (by omega) v L.length (L.map SL.v) hs HO.o.own ad 1 c [y.v] hx rfl HN.o (fun u hu => by simp only [List.mem_cons, List.not_mem_nil, or_false] at hu; rw [hu]; rfl) (by omega) (by unfold maxLen; omega) (by omega) hB _ rfl ?_;intro g cap w' hown hgr hat hlt;refine h g cap w' ⟨?_, fun g' hg' => ?_, fun z hz => ?_⟩ ⟨hgr.os, hgr.tape, hgr.output, hgr.size, fun b hb hn => hgr.block b hb (fun e => hn e.symm), fun g' hg' => ?_⟩
 · rw [List.map_append, List.length_append]
   exact hown
 · have : g = g' := by simpa [Value.ownBlock] using hg'
   subst this;rcases hown.2 with ⟨hv, _⟩ | ⟨g0, c0, cur, hv, hb, _⟩
   · cases hv
   cases hv; exact ⟨hb, hlt⟩
 · rcases List.mem_append.1 hz with hz | hz
   · exact HO.o.txt z hz
   rw [List.mem_singleton.1 hz];exact hy
 have : g = g' := by simpa [Value.ownBlock] using hg'
 subst this;rcases hat with e | e
 · exact .inl e
 exact .inr (by rw [e]; exact nR)
theorem l4add_any (v : Value) (L : List SL) (x : SL) (B : Nat) (w0 w : World) (h : VL w0 w B v L) (hw : Bl w0 w) (hx : BsF 0 w0 x) (hn : L.length ≤ 1000000) (hB : B ≤ w.heap.size) :
 Calls Tryz.prog 111 #[v, .slice x.a x.len x.cap] w (AddAns w0 B v (addV (L.map SL.b) x.b) w) := by
 have HLX := iH (nil_len hx.1.1);have HV := iH h;have HX := iH hx;have HAS := l4has_any v L x B w0 w h hw hx (by omega);obtain ⟨a, cap, rfl, _⟩ := h.form;obtain ⟨n, hnn⟩ : ∃ n, n = L.length := ⟨_, rfl⟩;have HN := iH hnn;rw [← hnn] at HAS HV ⊢;clear h hw hx hnn;by_cases h0 : x.len = 0
 · have HR : Hd (addV (L.map SL.b) x.b = L.map SL.b) := (show addV _ _ = _ by unfold addV; rw [if_pos (.inl (HLX.o.2 h0))])
   go_in;go_wp2;go_ret;exact ⟨_, L, rfl, HV.o, HR.o.symm, Kp.of_below brf⟩
 have h0b : ((x.len : Int) == 0) = false := by simp; omega
 have H0 : Hd (¬ x.b = []) := fun e => h0 (HLX.o.1 e);clear h0;go_in;go_wp2_with fail
 refine HAS.mono ?_;rintro e w1 ⟨q, rfl, hq, hb1⟩;have HB1 := iH hb1;clear HAS hb1;cases q with
 | true =>
  have HR := iH (show addV _ _ = _ by unfold addV; rw [if_pos (.inr (hq.1 rfl))]);clear hq;go_wp2;go_ret;exact ⟨_, L, rfl, HV.o.below HB1.o, HR.o.symm, Kp.of_below HB1.o⟩
 | false =>
  have HR : Hd (addV (L.map SL.b) x.b = (L ++ [x]).map SL.b) := (show addV _ _ = _ by
   unfold addV
   rw [if_neg (fun hh => by
    rcases hh with hh | hh
    · exact H0.o hh
    have := hq.2 hh
    cases this), List.map_append]
   rfl)
  clear hq;have HO1 := iH (fun o => (HV.o.below HB1.o).below (bl_a o));have HNW : Hd (∀ j u, ([x.v] : List Value)[j]? = some u → (w1.alloc (.cells #[.slice x.a x.len x.cap] 23)).cell? ((⟨w1.heap.size, 0, none⟩ : Addr).add j) = some u) := by
   intro j u hu;have h1 : (w1.alloc (.cells #[.slice x.a x.len x.cap] 23)).heap[w1.heap.size]? = some (.cells #[.slice x.a x.len x.cap] 23) := by
    show (w1.heap.push _)[w1.heap.size]? = _;rw [Array.getElem?_push];simp
   exact World.news_of_block h1 j u hu
  have hle1 : L.length ≤ 1048576 := by have := HN.o; omega
  have hB1 := fun o => Nat.le_trans hB (Nat.le_trans HB1.o.size (bl_a (w := w1) o).size);go_wp2_with (refine appL rfl (.tmp 14) (.tmp 16) rfl w0 B (.slice a n cap) L rfl (HO1.o _) x HX.o ⟨w1.heap.size, 0, none⟩ 1 rfl HNW hle1 (hB1 _) ?_; intro g9 c9 w9 HO9 HK9)
  go_ret;exact ⟨_, _, rfl, HO9.o, HR.o.symm, Kp.pre (bl_trans HB1.o (bl_a _)) HK9.o⟩
def foldN {α : Type} : Nat → (Nat → α → α) → α → α
 | 0, _, a => a
 | n + 1, f, a => f n (foldN n f a)
def eV : ET → List (List Int) → List (List Int)
 | .nil, l => l
 | .mk d kid, l => foldN d.n (fun i acc => eV (kid i) acc) (addV l d.v.b)
def ptV (p : PB) (l : List (List Int)) : List (List Int) := addV (addV (addV l p.s.v.b) p.p.v.b) p.o.v.b
def aV : AT → List (List Int) → List (List Int)
 | .nil, l => l
 | .mk d kid, l => foldN d.n (fun i acc => aV (kid i) acc) (addV (eV d.e (foldN d.pn (fun i acc => ptV (d.pat i) acc) l)) d.v.b)
def ac : AT → Nat
 | .nil => 0
 | .mk d kid => 3 * d.pn + esz d.e + 1 + sumN d.n (fun i => ac (kid i))
theorem foldN_congr {α : Type} {f g : Nat → α → α} (h : ∀ i, i < n → ∀ a, f i a = g i a) (a : α) : foldN n f a = foldN n g a := by
 induction n with
 | zero => rfl
 | succ n ih =>
  show f n (foldN n f a) = g n (foldN n g a);rw [ih (fun i hi => h i (by omega)), h n (by omega)]
theorem foldN_len {f : Nat → List (List Int) → List (List Int)} {c : Nat → Nat} (h : ∀ i l, i < n → (f i l).length ≤ l.length + c i) (l : List (List Int)) : (foldN n f l).length ≤ l.length + sumN n c := by
 induction n with
 | zero => exact nR
 | succ n ih =>
  have h1 := ih (fun i l hi => h i l (by omega));have h2 := h n (foldN n f l) (by omega);show (f n (foldN n f l)).length ≤ l.length + (sumN n c + c n);omega
theorem eV_len (e : ET) : ∀ l, (eV e l).length ≤ l.length + esz e := by
 induction e with
 | nil => exact fun l => nR
 | mk d kid ih =>
  intro l;have h1 := addV_len l d.v.b;have h2 := foldN_len (f := fun i acc => eV (kid i) acc) (c := fun i => esz (kid i)) (n := d.n) (fun i l _ => ih i l) (addV l d.v.b);show (foldN d.n (fun i acc => eV (kid i) acc) (addV l d.v.b)).length ≤ l.length + (1 + sumN d.n (fun i => esz (kid i)));omega
theorem ptV_len (p : PB) (l : List (List Int)) : (ptV p l).length ≤ l.length + 3 := by
 have h1 := addV_len l p.s.v.b;have h2 := addV_len (addV l p.s.v.b) p.p.v.b;have h3 := addV_len (addV (addV l p.s.v.b) p.p.v.b) p.o.v.b;unfold ptV;omega
theorem sum3 (n : Nat) : sumN n (fun _ => 3) = 3 * n := by
 induction n with
 | zero => rfl
 | succ n ih =>
  show sumN n _ + 3 = _;omega
theorem aV_len (e : AT) : ∀ l, (aV e l).length ≤ l.length + ac e := by
 induction e with
 | nil => exact fun l => nR
 | mk d kid ih =>
  intro l;have h0 := foldN_len (f := fun i acc => ptV (d.pat i) acc) (c := fun _ => 3) (n := d.pn) (fun i l _ => ptV_len (d.pat i) l) l;rw [sum3] at h0;have h1 := eV_len d.e (foldN d.pn (fun i acc => ptV (d.pat i) acc) l);have h2 := addV_len (eV d.e (foldN d.pn (fun i acc => ptV (d.pat i) acc) l)) d.v.b;have h3 := foldN_len (f := fun i acc => aV (kid i) acc) (c := fun i => ac (kid i)) (n := d.n) (fun i l _ => ih i l) (addV (eV d.e (foldN d.pn (fun i acc => ptV (d.pat i) acc) l)) d.v.b);show (foldN d.n (fun i acc => aV (kid i) acc) (addV (eV d.e (foldN d.pn (fun i acc => ptV (d.pat i) acc) l)) d.v.b)).length ≤ l.length + (3 * d.pn + esz d.e + 1 + sumN d.n (fun i => ac (kid i)));omega
theorem eV_same {e : ET} : ∀ {e' : ET} {l : List (List Int)}, e.same e' → eV e l = eV e' l := by
 induction e with
 | nil => exact fun h => False.elim h
 | mk d kid ih =>
  intro e' l h;cases e' with
  | nil => exact False.elim h
  | mk d' kid' =>
  obtain ⟨_, _, h2, _, h4, h5⟩ := h;show foldN d.n _ (addV l d.v.b) = foldN d'.n _ (addV l d'.v.b);rw [← h4, ← h2];exact foldN_congr (fun i hi a => ih i (h5 i hi)) _
theorem ac_le {e : AT} : ∀ {deep : Int}, aOk e deep → ac e ≤ 4 * asz e := by
 induction e with
 | nil => exact fun h => False.elim h
 | mk d kid ih =>
  intro deep h;obtain ⟨_, hn, hk⟩ := h;have h1 : ∀ m, m ≤ d.n → sumN m (fun i => ac (kid i)) ≤ 4 * sumN m (fun i => asz (kid i)) := by
   intro m;induction m with
   | zero => exact fun _ => nR
   | succ m ihm =>
    intro hm;have h2 := ihm (by omega);have h3 := ih m (hk m (by omega));show sumN m (fun i => ac (kid i)) + ac (kid m) ≤ 4 * (sumN m (fun i => asz (kid i)) + asz (kid m));omega
  have h2 := h1 d.n nR;show 3 * d.pn + esz d.e + 1 + sumN d.n (fun i => ac (kid i)) ≤ 4 * (ownA d + sumN d.n (fun i => asz (kid i)));unfold ownA;split
  · omega
  rename_i hE;have h3 := hn.e0 hE;have h4 : esz d.e ≤ 1 := by
   cases he : d.e with
   | nil => exact nZ
   | mk d2 k2 =>
    rw [he] at h3;have h5 : d2.n = 0 := h3.2.2.2.2;show 1 + sumN d2.n _ ≤ 1;rw [h5];exact nR
  omega
theorem VL.ne {v : Value} {L : List SL} (h : VL w0 w B v L) : v.ownBlock ≠ some w.heap.size := fun e => by have := (h.lo _ e).2; omega
theorem Kp.ne {v : Value} {wr : World} (h : Kp v W v' wr) (hW : W = w.alloc o) (hv : v.ownBlock ≠ some w.heap.size) : v'.ownBlock ≠ some w.heap.size := fun e => by
 rcases h.blk _ e with e' | e'
 · exact hv e'
 rw [hW] at e'
 have : (w.alloc o).heap.size = w.heap.size + 1 := by simp
 omega
theorem l4exprVars_any (e : ET) : ∀ (v : Value) (L : List SL) (B : Nat) (w0 w : World), e.lies 0 w0 → VL w0 w B v L → Bl w0 w → L.length + esz e ≤ 1000000 → B ≤ w.heap.size → w0.heap.size ≤ B →
 Calls Tryz.prog 112 #[v, .agg e.d.ar] w (AddAns w0 B v (eV e (L.map SL.b)) w) := by
 try unfold EN.ar EN.cl
 induction e with
 | nil => exact fun _ _ _ _ _ h => False.elim h
 | mk d kid ih =>
  intro v L B w0 w hl hV hw hn hB hwB;show Calls Tryz.prog 112 #[v, .agg d.ar] w (AddAns w0 B v (foldN d.n (fun i acc => eV (kid i) acc) (addV (L.map SL.b) d.v.b)) w);obtain ⟨hv, _, _, hn20, hR, hk⟩ := hl;have hsum : esz (.mk d kid) = 1 + sumN d.n (fun i => esz (kid i)) := rfl;obtain ⟨W, hW⟩ : ∃ W, W = w.alloc (.cells d.ar 42) := ⟨_, rfl⟩;have hbW : Bl w W := by rw [hW]; exact bl_a _
  have HX0 : Hd (Box W w.heap.size d.cl) := (show Box _ _ _ by rw [hW]; exact Box.new w _ 42 _);have HNV := iH hV.ne;have HLV := iH (fun g (hg : v.ownBlock = some g) => (hV.lo g hg).1);have AD := l4add_any v L d.v B w0 W (hV.below hbW) (hw.trans (hbW.mono hw.size)) hv (by omega) (Nat.le_trans hB hbW.size);have HBW : Hd (Bl w W ∧ B ≤ W.heap.size ∧ Bl w0 W) := ⟨hbW, Nat.le_trans hB hbW.size, hw.trans (hbW.mono hw.size)⟩;have HWE := iH hW;have HKR := iH hR;have HIH := iH (fun i (hi : i < d.n) (v' : Value) (L' : List SL) (W' : World) (h1 : VL w0 W' B v' L') (h2 : Bl w0 W') (h3 : L'.length + esz (kid i) ≤ 1000000) (h4 : B ≤ W'.heap.size) => ih i v' L' B w0 W' (hk i hi) h1 h2 h3 h4 hwB);have HLEN : Hd (∀ k, k < d.n → (foldN k (fun i acc => eV (kid i) acc) (addV (L.map SL.b) d.v.b)).length + esz (kid k) ≤ 1000000) := fun k hk => by
   have h1 := foldN_len (f := fun i acc => eV (kid i) acc) (c := fun i => esz (kid i)) (n := k) (fun i l _ => eV_len (kid i) l) (addV (L.map SL.b) d.v.b);have h2 := addV_len (L.map SL.b) d.v.b;rw [List.length_map] at h2;have h3 := sumN_mono (f := fun i => esz (kid i)) (show k + 1 ≤ d.n by omega);have h4 : sumN (k + 1) (fun i => esz (kid i)) = sumN k (fun i => esz (kid i)) + esz (kid k) := rfl;omega
  clear hR hk ih hv hV hw hn hB hbW hsum;go_in;go_upto_region 1 with fail
  rw [← hW];clear hW;have c2 := HX0.o.2 2 _ rfl;go_wp2_with fail
  refine AD.mono ?_;rintro e w1 ⟨v1, L1, rfl, hV1, hR1, hK1⟩;have HV1 := iH hV1;have HR1 : Hd (L1.map SL.b = foldN 0 (fun i acc => eV (kid i) acc) (addV (L.map SL.b) d.v.b)) := hR1;have HK1 := iH hK1;clear AD hV1 hR1 hK1 c2;go_wp2_with fail
  go_loopw [0, 5] (fun lv i wr => ∃ (k : Nat) (v' : Value) (L' : List SL), k ≤ d.n ∧ v' = lv ∧ i = .int .i64 k ∧ Hd (VL w0 wr B v' L') ∧ Hd (L'.map SL.b = foldN k (fun i acc => eV (kid i) acc) (addV (L.map SL.b) d.v.b)) ∧ Hd (Kp v W v' wr)) (fun _ i _ => d.n - (intOf i).toNat)
  case atStart => exact ⟨0, v1, L1, nZ, rfl, rfl, HV1, HR1, HK1⟩
  clear HV1 HR1 HK1;obtain ⟨k, v', L', hk, rfl, rfl, HVr, HRr, HKr⟩ := hrel;have x7 := (HKr.o.box HX0.o HNV.o).2 7 _ rfl;by_cases hlk : k < d.n
  · have hlkz : (k : Int) < (d.n : Int) := by omega
    obtain ⟨b, off, eK, _, hbk, hck⟩ := HKR.o.resolve_left (by omega);have hbr := HBW.o.2.2.trans ((HKr.o.low HLV.o HBW.o.2.1).mono hwB);have hcx : wr.rangeAt b (off + k * 8) (kid k).d.cl := fun c u hu => (hbr.cell (p := ⟨b, off + k * 8 + c, none⟩) hbk).trans (hck k hlk c u hu);have hll : L'.length = (foldN k (fun i acc => eV (kid i) acc) (addV (L.map SL.b) d.v.b)).length := by rw [← HRr.o, List.length_map]
    have Z := HIH.o k hlk v' L' wr HVr.o hbr (by rw [hll]; exact HLEN.o k hlk) (Nat.le_trans HBW.o.2.1 HKr.o.size);rw [HRr.o] at Z;have HS : Hd (foldN (k + 1) (fun i acc => eV (kid i) acc) (addV (L.map SL.b) d.v.b) = eV (kid k) (foldN k (fun i acc => eV (kid i) acc) (addV (L.map SL.b) d.v.b))) := rfl;rw [eK] at x7;clear eK hck hbr hll;go_wp2_with (refine wpList_load_mid rfl 42 _ rfl b (off + k * 8) rfl (kid k).d.cl _ hcx Tryz.underlying42 rfl (by kernel_rfl) ?_; try simp only [Act.put, sA, zA, cA])
    refine Z.mono ?_;rintro e w5 ⟨v5, L5, rfl, hV5, hR5, hK5⟩;have HN1 := iH hV5;have HN2 : Hd (L5.map SL.b = foldN (k + 1) (fun i acc => eV (kid i) acc) (addV (L.map SL.b) d.v.b)) := (show _ = _ by rw [HS.o]; exact hR5);have HN3 := iH (HKr.o.trans hK5);clear Z hcx hV5 hR5 hK5 x7 HVr HRr HKr;go_wp2;go_roundw
    case rel => exact ⟨k + 1, v5, L5, by omega, rfl, by go_num, HN1, HN2, HN3⟩
    case measure => simp [intOf]; omega
  obtain rfl : k = d.n := by omega
  have hlkz : ¬ (d.n : Int) < (d.n : Int) := by omega
  go_wp2;go_ret;exact ⟨_, L', rfl, HVr.o, HRr.o, Kp.pre HBW.o.1 HKr.o⟩
structure LS (w0 w W : World) (B : Nat) (v0 v : Value) (L : List SL) (cs : List Value) (W' : World) : Prop where
 vl : VL w0 W' B v L
 kp : Kp v0 W v W'
 bx : Box W' w.heap.size cs
 bl : Bl w0 W'
 lo : B ≤ W'.heap.size
 ne : v.ownBlock ≠ some w.heap.size
theorem LS.step {v : Value} {L L' : List SL} (h : LS w0 w W B v0 v L cs W') (hW : W = w.alloc o) (hv0 : v0.ownBlock ≠ some w.heap.size) (hwB : w0.heap.size ≤ B) (hV : VL w0 W'' B v' L') (hK : Kp v W' v' W'') : LS w0 w W B v0 v' L' cs W'' :=
 ⟨hV, h.kp.trans hK, hK.box h.bx h.ne, h.bl.trans ((hK.low (fun g hg => (h.vl.lo g hg).1) h.lo).mono hwB), Nat.le_trans h.lo hK.size, (h.kp.trans hK).ne hW hv0⟩
theorem LS.below {v : Value} {L : List SL} (h : LS w0 w W B v0 v L cs W') (hb : Below W'.heap.size W' W'') : LS w0 w W B v0 v L cs W'' :=
 ⟨h.vl.below hb, h.kp.trans (Kp.of_below hb), h.bx.below hb, h.bl.trans (hb.mono h.bl.size), Nat.le_trans h.lo hb.size, h.ne⟩
theorem l5vars_any (e : AT) : ∀ (v : Value) (L : List SL) (B : Nat) (w0 w : World), e.lies 0 w0 → VL w0 w B v L → Bl w0 w → L.length + ac e ≤ 1000000 → B ≤ w.heap.size → w0.heap.size ≤ B →
 Calls Tryz.prog 71 #[v, .agg e.d.ar] w (AddAns w0 B v (aV e (L.map SL.b)) w) := by
 try unfold AN.ar AN.cl
 induction e with
 | nil => exact fun _ _ _ _ _ h => False.elim h
 | mk d kid ih =>
  intro v L B w0 w hl hV hw hn hB hwB;show Calls Tryz.prog 71 #[v, .agg d.ar] w (AddAns w0 B v (foldN d.n (fun i acc => aV (kid i) acc) (addV (eV d.e (foldN d.pn (fun i acc => ptV (d.pat i) acc) (L.map SL.b))) d.v.b)) w);obtain ⟨hp, hpl, hpn, he, hv, _, _, hn20, hR, hk⟩ := hl;have hac : ac (.mk d kid) = 3 * d.pn + esz d.e + 1 + sumN d.n (fun i => ac (kid i)) := rfl;obtain ⟨W, hW⟩ : ∃ W, W = w.alloc (.cells d.ar 52) := ⟨_, rfl⟩;have hbW : Bl w W := by rw [hW]; exact bl_a _
  have HWE : Hd (W = w.alloc (.cells d.ar 52)) := hW;have HNV : Hd (v.ownBlock ≠ some w.heap.size) := hV.ne;have HLS : Hd (LS w0 w W B v v L d.cl W) := ⟨hV.below hbW, Kp.of_below brf, (show Box _ _ _ by rw [hW]; exact Box.new w d.ar 52 _), hw.trans (hbW.mono hw.size), Nat.le_trans hB hbW.size, hV.ne⟩;have HBW : Hd (Bl w W) := hbW;have HPR : Hd (KRow 0 w0 15 d.pa d.pn (fun i => (d.pat i).cells)) := hp;have HPL : Hd (∀ i, i < d.pn → (d.pat i).lies 0 w0) := hpl;have HEL : Hd (d.e.lies 0 w0) := he;have HVX : Hd (BsF 0 w0 d.v) := hv;have HKR : Hd (KRow 0 w0 13 d.ka d.n (fun i => (kid i).d.cells)) := hR;have HIH : Hd (∀ i, i < d.n → ∀ (v' : Value) (L' : List SL) (W' : World), VL w0 W' B v' L' → Bl w0 W' → L'.length + ac (kid i) ≤ 1000000 → B ≤ W'.heap.size → Cl 71 #[v', .agg (kid i).d.ar] W' (AddAns w0 B v' (aV (kid i) (L'.map SL.b)) W')) := fun i hi v' L' W' h1 h2 h3 h4 => ih i v' L' B w0 W' (hk i hi) h1 h2 h3 h4 hwB;have HLP : Hd (∀ k, k ≤ d.pn → (foldN k (fun i acc => ptV (d.pat i) acc) (L.map SL.b)).length ≤ L.length + 3 * k) := fun k _ => by
   have h1 := foldN_len (f := (fun i acc => ptV (d.pat i) acc)) (c := fun _ => 3) (n := k) (fun i l _ => ptV_len (d.pat i) l) (L.map SL.b);rw [sum3, List.length_map] at h1;exact h1
  have HLA : Hd (L.length + 3 * d.pn + esz d.e + 1 + sumN d.n (fun i => ac (kid i)) ≤ 1000000) := (show _ ≤ 1000000 by omega);have HLK : Hd (∀ k, k < d.n → (foldN k (fun i acc => aV (kid i) acc) (addV (eV d.e (foldN d.pn (fun i acc => ptV (d.pat i) acc) (L.map SL.b))) d.v.b)).length + ac (kid k) ≤ 1000000) := fun k hk => by
   have h1 := foldN_len (f := (fun i acc => aV (kid i) acc)) (c := fun i => ac (kid i)) (n := k) (fun i l _ => aV_len (kid i) l) (addV (eV d.e (foldN d.pn (fun i acc => ptV (d.pat i) acc) (L.map SL.b))) d.v.b);have h2 := addV_len (eV d.e (foldN d.pn (fun i acc => ptV (d.pat i) acc) (L.map SL.b))) d.v.b;have h5 := eV_len d.e (foldN d.pn (fun i acc => ptV (d.pat i) acc) (L.map SL.b));have h6 := HLP.o d.pn nR;have h3 := sumN_mono (f := fun i => ac (kid i)) (show k + 1 ≤ d.n by omega);have h4 : sumN (k + 1) (fun i => ac (kid i)) = sumN k (fun i => ac (kid i)) + ac (kid k) := rfl;omega
  have HLE : Hd ((foldN d.pn (fun i acc => ptV (d.pat i) acc) (L.map SL.b)).length + esz d.e ≤ 1000000 ∧ (eV d.e (foldN d.pn (fun i acc => ptV (d.pat i) acc) (L.map SL.b))).length ≤ 1000000) := by
   have h5 := eV_len d.e (foldN d.pn (fun i acc => ptV (d.pat i) acc) (L.map SL.b));have h6 := HLP.o d.pn nR;have h7 := HLA.o;exact ⟨by omega, by omega⟩
  clear hR hk ih hv hV hw hn hB hbW hac hp hpl he;go_enter Tryz.func71, Tryz.ntmps71;go_upto_region 1 with fail
  rw [← hW];clear hW;go_wp2_with fail
  go_loopw [0, 5] (fun lv i wr => ∃ (k : Nat) (v' : Value) (L' : List SL), k ≤ d.pn ∧ v' = lv ∧ i = .int .i64 k ∧ Hd (LS w0 w W B v v' L' [.int .i64 d.k, .slice d.pa d.pn d.pc, .int .i64 d.e.d.k, .int .i64 d.e.d.op, .slice d.e.d.v.a d.e.d.v.len d.e.d.v.cap, .int .i64 d.e.d.t.t.k, .slice d.e.d.t.t.a d.e.d.t.t.len d.e.d.t.t.cap, .int .i64 d.e.d.t.t.n, .int .i64 d.e.d.t.t.s, .slice d.e.d.ka d.e.d.n d.e.d.kc, .slice d.v.a d.v.len d.v.cap, .slice d.ta d.tb.length d.tc, .slice d.ka d.n d.kc] wr) ∧ Hd (L'.map SL.b = foldN k (fun i acc => ptV (d.pat i) acc) (L.map SL.b))) (fun _ i _ => d.pn - (intOf i).toNat)
  case atStart => exact ⟨0, v, L, nZ, rfl, rfl, HLS, (show L.map SL.b = L.map SL.b from rfl)⟩
  clear HLS;obtain ⟨k, v', L', hk, rfl, rfl, HSr, HRr⟩ := hrel;have x1 := HSr.o.bx.2 1 _ rfl;by_cases hlk : k < d.pn
  · have hlkz : (k : Int) < (d.pn : Int) := by omega
    obtain ⟨b, off, eP, _, hbp, hcp⟩ := HPR.o.resolve_left (by omega);have HF : Hd (∀ w', (Bl w0 w' ∧ Box w' w.heap.size d.cl) → w'.cell? ⟨w.heap.size, 1, none⟩ = some (.slice (some ⟨b, off, none⟩) d.pn d.pc) ∧ w'.cell? ⟨b, off + k * 15, none⟩ = some (.slice (d.pat k).s.v.a (d.pat k).s.v.len (d.pat k).s.v.cap) ∧ w'.cell? ⟨b, off + k * 15 + 5, none⟩ = some (.slice (d.pat k).p.v.a (d.pat k).p.v.len (d.pat k).p.v.cap) ∧ w'.cell? ⟨b, off + k * 15 + 10, none⟩ = some (.slice (d.pat k).o.v.a (d.pat k).o.v.len (d.pat k).o.v.cap)) := fun w' hw' => ⟨by rw [← eP]; exact hw'.2.2 1 _ rfl, (hw'.1.cell (p := ⟨b, off + k * 15 + 0, none⟩) hbp).trans (hcp k hlk 0 _ rfl), (hw'.1.cell (p := ⟨b, off + k * 15 + 5, none⟩) hbp).trans (hcp k hlk 5 _ rfl), (hw'.1.cell (p := ⟨b, off + k * 15 + 10, none⟩) hbp).trans (hcp k hlk 10 _ rfl)⟩
    have HPT : Hd (BsF 0 w0 (d.pat k).s.v ∧ BsF 0 w0 (d.pat k).p.v ∧ BsF 0 w0 (d.pat k).o.v) := ⟨(HPL.o k hlk).1.1, (HPL.o k hlk).2.1.1, (HPL.o k hlk).2.2.1⟩;have HBr : Hd (Bl w0 wr) := HSr.o.bl;have HXr : Hd (Box wr w.heap.size d.cl) := HSr.o.bx;have HS0 : Hd (LS w0 w W B v v' L' d.cl wr.drew) := HSr.o.below bdr;have HE0 : Hd (L'.map SL.b = foldN k (fun i acc => ptV (d.pat i) acc) (L.map SL.b)) := HRr;have HLNA : Hd (∀ n, n = 1 ∨ n = 2 → (if n = 1 then addV (foldN k (fun i acc => ptV (d.pat i) acc) (L.map SL.b)) (d.pat k).s.v.b else addV (addV (foldN k (fun i acc => ptV (d.pat i) acc) (L.map SL.b)) (d.pat k).s.v.b) (d.pat k).p.v.b).length ≤ 1000000) := fun n hn => by
     have h1 := HLP.o k (by omega);have h2 := addV_len (foldN k (fun i acc => ptV (d.pat i) acc) (L.map SL.b)) (d.pat k).s.v.b;have h3 := addV_len (addV (foldN k (fun i acc => ptV (d.pat i) acc) (L.map SL.b)) (d.pat k).s.v.b) (d.pat k).p.v.b;have h4 := HLA.o;rcases hn with rfl | rfl
     · rw [if_pos rfl]; omega
     rw [if_neg (by decide)]; omega
    have HLN1 : Hd (L'.length ≤ 1000000) := (show L'.length ≤ 1000000 by have h1 := congrArg List.length HE0.o; rw [List.length_map] at h1; have h2 := HLP.o k (by omega); have h3 := HLA.o; omega);rw [eP] at x1;clear eP hcp;go_wp2_with fail
    refine whd (fun w' => Bl w0 w' ∧ Box w' w.heap.size d.cl) ?_ fun hHeld => ?_
    · exact ⟨Below.drew HBr.o, HXr.o.below bdr⟩
    refine tkB 0 14 ?_;refine tkB 1 15 ?_;refine tkA 2 16 (v := ?v3) ?y3 ?_
    case y3 => (intro w' hSw; obtain ⟨q1, q2, q3, q4⟩ := HF.o w' hSw; go_simp; (try with_reducible rfl))
    refine tkB 3 17 ?_;refine tkB 4 18 ?_;refine tkB 5 19 ?_;refine tkB 6 20 ?_;refine tkA 7 21 (v := ?v8) ?y8 ?_
    case y8 => (intro w' hSw; obtain ⟨q1, q2, q3, q4⟩ := HF.o w' hSw; go_simp; (try with_reducible rfl))
    refine tkB 9 23 ?_;refine tkA 10 24 (v := ?v10) ?y10 ?_
    case y10 => (intro w' hSw; obtain ⟨q1, q2, q3, q4⟩ := HF.o w' hSw; go_simp; (try with_reducible rfl))
    refine tkB 11 25 ?_;refine tkB 12 26 ?_;refine tkB 13 27 ?_;refine tkB 14 28 ?_;refine tkA 15 29 (v := ?v15) ?y15 ?_
    case y15 => (intro w' hSw; obtain ⟨q1, q2, q3, q4⟩ := HF.o w' hSw; go_simp; (try with_reducible rfl))
    refine tkB 17 31 ?_;refine tkA 18 32 (v := ?v17) ?y17 ?_
    case y17 => (intro w' hSw; obtain ⟨q1, q2, q3, q4⟩ := HF.o w' hSw; go_simp; (try with_reducible rfl))
    refine tkB 19 33 ?_;refine tkB 20 34 ?_;refine tkB 21 35 ?_;refine tkB 22 36 ?_;refine tkA 23 37 (v := ?v22) ?y22 ?_
    case y22 => (intro w' hSw; obtain ⟨q1, q2, q3, q4⟩ := HF.o w' hSw; go_simp; (try with_reducible rfl))
    try simp only [Act.put, sA, zA, cA]
    refine rdA 8 fun K hK => ?_;go_simp;refine (l4add_any v' L' (d.pat k).s.v B w0 _ HS0.o.vl HS0.o.bl HPT.o.1 HLN1.o HS0.o.lo).mono ?_;rintro e z1 ⟨v1, M1, rfl, hV1, hR1, hK1⟩;have HS1 : Hd (LS w0 w W B v v1 M1 d.cl z1) := HS0.o.step HWE.o HNV.o hwB hV1 hK1;have HE1 : Hd (M1.map SL.b = addV (foldN k (fun i acc => ptV (d.pat i) acc) (L.map SL.b)) (d.pat k).s.v.b) := (show _ = _ by rw [hR1, HE0.o]);clear hV1 hR1 hK1;have HLN2 : Hd (M1.length ≤ 1000000) := (show M1.length ≤ 1000000 by have h1 := congrArg List.length HE1.o; rw [List.length_map] at h1; rw [h1]; exact (by have h9 := HLNA.o 1 (.inl rfl); rwa [if_pos rfl] at h9));go_wp2_with fail
    refine rhK hK ⟨HS1.o.bl, HS1.o.bx⟩ fun hHeld => ?_;clear hK K;refine rdA 16 fun K hK => ?_;go_simp;refine (l4add_any v1 M1 (d.pat k).p.v B w0 _ HS1.o.vl HS1.o.bl HPT.o.2.1 HLN2.o HS1.o.lo).mono ?_;rintro e z2 ⟨v2, M2, rfl, hV2, hR2, hK2⟩;have HS2 : Hd (LS w0 w W B v v2 M2 d.cl z2) := HS1.o.step HWE.o HNV.o hwB hV2 hK2;have HE2 : Hd (M2.map SL.b = addV (addV (foldN k (fun i acc => ptV (d.pat i) acc) (L.map SL.b)) (d.pat k).s.v.b) (d.pat k).p.v.b) := (show _ = _ by rw [hR2, HE1.o]);clear hV2 hR2 hK2;have HLN3 : Hd (M2.length ≤ 1000000) := (show M2.length ≤ 1000000 by have h1 := congrArg List.length HE2.o; rw [List.length_map] at h1; rw [h1]; exact (by have h9 := HLNA.o 2 (.inr rfl); rwa [if_neg (by decide)] at h9));go_wp2_with fail
    refine rhK hK ⟨HS2.o.bl, HS2.o.bx⟩ fun hHeld => ?_;clear hK K;refine rdA 24 fun K hK => ?_;go_simp;refine (l4add_any v2 M2 (d.pat k).o.v B w0 _ HS2.o.vl HS2.o.bl HPT.o.2.2 HLN3.o HS2.o.lo).mono ?_;rintro e z3 ⟨v3, M3, rfl, hV3, hR3, hK3⟩;have HS3 : Hd (LS w0 w W B v v3 M3 d.cl z3) := HS2.o.step HWE.o HNV.o hwB hV3 hK3;have HE3 : Hd (M3.map SL.b = addV (addV (addV (foldN k (fun i acc => ptV (d.pat i) acc) (L.map SL.b)) (d.pat k).s.v.b) (d.pat k).p.v.b) (d.pat k).o.v.b) := (show _ = _ by rw [hR3, HE2.o]);clear hV3 hR3 hK3;go_wp2_with fail
    refine hK.out _ _ ?_ fun hHeld => ?_
    · exact ⟨HS3.o.bl, HS3.o.bx⟩
    clear hK K;refine tkB 25 0 ?_;refine wpAnyH_done (by kernel_rfl) ?_ _;have HNR : Hd (M3.map SL.b = foldN (k + 1) (fun i acc => ptV (d.pat i) acc) (L.map SL.b)) := HE3;clear hHeld HF HS0 HS1 HS2 HE0 HE1 HE2 HE3 HLN1 HLN2 HLN3 HLNA HBr HXr x1 HSr HRr;go_wp2;go_roundw
    case rel => exact ⟨k + 1, v3, M3, by omega, rfl, by go_num, HS3, HNR⟩
    case measure => simp [intOf]; omega
  obtain rfl : k = d.pn := by omega
  have hlkz : ¬ (d.pn : Int) < (d.pn : Int) := by omega
  have HS0 : Hd (LS w0 w W B v v' L' d.cl wr.drew) := HSr.o.below bdr;have HF5 : Hd (∀ w', (Bl w0 w' ∧ Box w' w.heap.size d.cl) → w'.cell? ⟨w.heap.size, 10, none⟩ = some (.slice d.v.a d.v.len d.v.cap) ∧ True) := fun w' hw' => ⟨hw'.2.2 10 _ rfl, trivial⟩;have HLN1 : Hd (L'.length + esz d.e ≤ 1000000) := (show _ ≤ 1000000 by have h1 := congrArg List.length HRr.o; rw [List.length_map] at h1; rw [h1]; exact HLE.o.1);go_wp2_with fail
  refine whd (fun w' => Bl w0 w' ∧ Box w' w.heap.size d.cl) ?_ fun hHeld => ?_
  · exact ⟨Below.drew HSr.o.bl, HSr.o.bx.below bdr⟩
  refine tkB 0 39 ?_;refine tkB 1 40 ?_;refine takeq (i := 2) 41 (v := .agg d.e.d.ar) rfl rfl (by kernel_rfl) (by kernel_rfl) (by kernel_rfl) (fun _ _ _ h => h) (yieldsIf_load_mid (by rfl) 42 _ rfl w.heap.size 2 rfl d.e.d.cl _ (fun w' hw' => hw'.2.range 2 _ rfl) Tryz.underlying42 rfl (by kernel_rfl)) hHeld ?_;refine tkB 4 43 ?_;refine tkA 5 44 (v := ?v27) ?y27 ?_
  case y27 => (intro w' hSw; obtain ⟨q1, q2⟩ := HF5.o w' hSw; go_simp; (try with_reducible rfl))
  try simp only [Act.put, sA, zA, cA]
  refine rdA 3 fun K hK => ?_;go_simp;refine (l4exprVars_any d.e v' L' B w0 _ HEL.o HS0.o.vl HS0.o.bl HLN1.o HS0.o.lo hwB).mono ?_;rintro e z1 ⟨v1, M1, rfl, hV1, hR1, hK1⟩;have HS1 : Hd (LS w0 w W B v v1 M1 d.cl z1) := HS0.o.step HWE.o HNV.o hwB hV1 hK1;have HE1 : Hd (M1.map SL.b = eV d.e (foldN d.pn (fun i acc => ptV (d.pat i) acc) (L.map SL.b))) := (show _ = _ by rw [hR1, HRr.o]);have HLN2 : Hd (M1.length ≤ 1000000) := (show M1.length ≤ 1000000 by have h1 := congrArg List.length HE1.o; rw [List.length_map] at h1; rw [h1]; exact HLE.o.2);clear hV1 hR1 hK1;go_wp2_with fail
  refine rhK hK ⟨HS1.o.bl, HS1.o.bx⟩ fun hHeld => ?_;clear hK K;refine rdA 6 fun K hK => ?_;go_simp;refine (l4add_any v1 M1 d.v B w0 _ HS1.o.vl HS1.o.bl HVX.o HLN2.o HS1.o.lo).mono ?_;rintro e z2 ⟨v2, M2, rfl, hV2, hR2, hK2⟩;have HS2 : Hd (LS w0 w W B v v2 M2 d.cl z2) := HS1.o.step HWE.o HNV.o hwB hV2 hK2;have HE2 : Hd (M2.map SL.b = foldN 0 (fun i acc => aV (kid i) acc) (addV (eV d.e (foldN d.pn (fun i acc => ptV (d.pat i) acc) (L.map SL.b))) d.v.b)) := (show M2.map SL.b = addV (eV d.e (foldN d.pn (fun i acc => ptV (d.pat i) acc) (L.map SL.b))) d.v.b by rw [hR2, HE1.o])
  clear hV2 hR2 hK2;go_wp2_with fail
  refine hK.out _ _ ?_ fun hHeld => ?_
  · exact ⟨HS2.o.bl, HS2.o.bx⟩
  clear hK K;refine tkB 7 0 ?_;refine wpAnyH_done (by kernel_rfl) ?_ _;clear hHeld HF5 HS0 HS1 HE1 HLN1 HLN2 HSr HRr x1;go_wp2_with fail
  go_loopw [0, 6] (fun lv i wr => ∃ (k : Nat) (v' : Value) (L' : List SL), k ≤ d.n ∧ v' = lv ∧ i = .int .i64 k ∧ Hd (LS w0 w W B v v' L' [.int .i64 d.k, .slice d.pa d.pn d.pc, .int .i64 d.e.d.k, .int .i64 d.e.d.op, .slice d.e.d.v.a d.e.d.v.len d.e.d.v.cap, .int .i64 d.e.d.t.t.k, .slice d.e.d.t.t.a d.e.d.t.t.len d.e.d.t.t.cap, .int .i64 d.e.d.t.t.n, .int .i64 d.e.d.t.t.s, .slice d.e.d.ka d.e.d.n d.e.d.kc, .slice d.v.a d.v.len d.v.cap, .slice d.ta d.tb.length d.tc, .slice d.ka d.n d.kc] wr) ∧ Hd (L'.map SL.b = foldN k (fun i acc => aV (kid i) acc) (addV (eV d.e (foldN d.pn (fun i acc => ptV (d.pat i) acc) (L.map SL.b))) d.v.b))) (fun _ i _ => d.n - (intOf i).toNat)
  case atStart => exact ⟨0, v2, M2, nZ, rfl, rfl, HS2, HE2⟩
  clear HS2 HE2;obtain ⟨k, v', L', hk, rfl, rfl, HSr, HRr⟩ := hrel;have x12 := HSr.o.bx.2 12 _ rfl;by_cases hlk : k < d.n
  · have hlkz : (k : Int) < (d.n : Int) := by omega
    obtain ⟨b, off, eK, _, hbk, hck⟩ := HKR.o.resolve_left (by omega);have hcx : wr.rangeAt b (off + k * 13) (kid k).d.cl := fun c u hu => (HSr.o.bl.cell (p := ⟨b, off + k * 13 + c, none⟩) hbk).trans (hck k hlk c u hu);have hll : L'.length = (foldN k (fun i acc => aV (kid i) acc) (addV (eV d.e (foldN d.pn (fun i acc => ptV (d.pat i) acc) (L.map SL.b))) d.v.b)).length := by rw [← HRr.o, List.length_map]
    have Z := HIH.o k hlk v' L' wr HSr.o.vl HSr.o.bl (by rw [hll]; exact HLK.o k hlk) HSr.o.lo;rw [HRr.o] at Z;have HS : Hd (foldN (k + 1) (fun i acc => aV (kid i) acc) (addV (eV d.e (foldN d.pn (fun i acc => ptV (d.pat i) acc) (L.map SL.b))) d.v.b) = aV (kid k) (foldN k (fun i acc => aV (kid i) acc) (addV (eV d.e (foldN d.pn (fun i acc => ptV (d.pat i) acc) (L.map SL.b))) d.v.b))) := rfl;rw [eK] at x12;clear eK hck hll;go_wp2_with (refine wpList_load_mid rfl 52 _ rfl b (off + k * 13) rfl (kid k).d.cl _ hcx Tryz.underlying52 rfl (by kernel_rfl) ?_; try simp only [Act.put, sA, zA, cA])
    refine Z.mono ?_;rintro e w5 ⟨v5, L5, rfl, hV5, hR5, hK5⟩;have HN1 : Hd (LS w0 w W B v v5 L5 d.cl w5) := HSr.o.step HWE.o HNV.o hwB hV5 hK5;have HN2 : Hd (L5.map SL.b = foldN (k + 1) (fun i acc => aV (kid i) acc) (addV (eV d.e (foldN d.pn (fun i acc => ptV (d.pat i) acc) (L.map SL.b))) d.v.b)) := (show _ = _ by rw [HS.o]; exact hR5);clear Z hcx hV5 hR5 hK5 x12 HSr HRr;go_wp2;go_roundw
    case rel => exact ⟨k + 1, v5, L5, by omega, rfl, by go_num, HN1, HN2⟩
    case measure => simp [intOf]; omega
  obtain rfl : k = d.n := by omega
  have hlkz : ¬ (d.n : Int) < (d.n : Int) := by omega
  go_wp2;go_ret;exact ⟨_, L', rfl, HSr.o.vl, HRr.o, Kp.pre HBW.o HSr.o.kp⟩
end Go.Proofs.YtoloadogihbdeaaGreat
