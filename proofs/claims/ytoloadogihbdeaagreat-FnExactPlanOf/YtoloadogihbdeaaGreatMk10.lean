import Derived.Test.YtoloadogihbdeaaGreatMk09
namespace Go.Proofs.YtoloadogihbdeaaGreat
open Go.RowKit Go.Deep
set_option maxHeartbeats 40000000
set_option maxRecDepth 100000
variable {e : AT} {l : List TB} {B : Nat} {x y : PB} {w : World}
theorem l7planOk_x (d : PN) (kid : Nat → PT) (hkv : 0 ≤ d.k ∧ d.k ≤ 8) (deep L : Int) (g : Nat) (w0 w : World) (hl : (PT.mk d kid).lies 0 w0) (hw : Bl w0 w) (hg : w0.heap.size ≤ g) (hc : Ctr w g L) (hd0 : 0 ≤ deep) (hd1 : deep ≤ 100000) (hL0 : 0 ≤ L) (hL1 : L ≤ 100000)
 (IH : ∀ i, i < d.n → ∀ (L' : Int) (W : World), Bl w0 W → Ctr W g L' → 0 ≤ L' → L' ≤ 100000 → deep ≤ 480 → Calls Tryz.prog 75 #[.agg (kid i).d.ar, .int .i64 (deep + 1), .pointer (some ⟨g, 0, none⟩)] W (CtrAns (pOk (kid i) (deep + 1)) (psz (kid i)) g L' W)) :
 Calls Tryz.prog 75 #[.agg d.ar, .int .i64 deep, .pointer (some ⟨g, 0, none⟩)] w (CtrAns (pOk (.mk d kid) deep) (psz (.mk d kid)) g L w) := by
 try unfold PN.ar PN.cl
 obtain ⟨hp, he, hv, ht, htn, hn, hR, hk⟩ := hl;have hgw : g < w.heap.size := hc.lt;have hsz : w0.heap.size ≤ w.heap.size := hw.size;have HK8 := iH hkv;obtain ⟨nt, hnt⟩ : ∃ nt, nt = d.tb.length := ⟨_, rfl⟩;have HNT := iH hnt;obtain ⟨es, hes⟩ : ∃ es, es = if d.k = 2 ∨ d.k = 5 ∨ d.k = 6 then esz d.e else 0 := ⟨_, rfl⟩;have HES := iH hes;have HLV : Hd (d.v.b = [] ↔ d.v.len = 0) := nil_len hv.1.1;have HVR := iH fun W (hb : Bl w0 W) => l4var_any d.v W (hv.upper (uB hb));have HZE := iH fun W (hb : Bl w0 W) => l4zeroExpr_any d.e W (ET.lies.upper (uB hb) he);have HEF := iH fun W L' (hb : Bl w0 W) (hc' : Ctr W g L') h0 h1 => l5fits_any d.e 1 L' g w0 W he hb hg hc' (by omega) (by omega) h0 h1;have HPT := iH fun W (hb : Bl w0 W) => l4pat_any d.p W (hp.upper (uB hb));have HZP := iH fun W (hb : Bl w0 W) => l4zeroPat_any d.p W (hp.upper (uB hb));have HTM : Hd (∀ x ∈ d.tb, ∀ W, Bl w0 W → Cl 110 #[.agg #[.int .i64 x.t.k, .slice x.t.a x.t.len x.t.cap, .int .i64 x.t.n, .int .i64 x.t.s]] W (Tells (x.td.ok = true) W)) := fun x hx W hb => (specTermOk_any x.t.k x.t.n x.t.s x.t.a x.t.len x.t.cap x.b W ((ht.2.2 x hx).1.upper (uB hb)).1 (ht.2.2 x hx).2.1 (ht.2.2 x hx).2.2.1).mono fun e w' ⟨h1, o, h2⟩ => by
  subst h1 h2;exact Tells.of Iff.rfl (bl_a _)
 have HIH := iH IH;have HTR := iH ht.1;have HKR := iH hR;have HSZ : Hd (psz (.mk d kid) = 1 + es + sumN d.n (fun i => psz (kid i))) := (show _ = _ by rw [hes]; rfl);have HCS : Hd (CS w0 w _ g (L - 1) (cellsT d d.k nt)) := CS.new hw hg hc (wA d.k d.ord d.p d.e.d d.v (.slice d.ta nt d.tc) (.slice d.ka d.n d.kc)) 46 (L - 1);have c0 := fun o => ((bl_a (w := w) o).cell (p := ⟨g, 0, none⟩) hgw).trans hc.cell;have f0 := fun o => ((bl_a (w := w) o).frozen (p := ⟨g, 0, none⟩) hgw).trans hc.fr;have hwr : IntKind.i64.wrap (L - 1) = L - 1 := by rw [IntKind.wrap_i64]; omega
 rw [← hnt];clear hp he hv ht htn hn hR hk hw hc IH hkv hnt hes;go_enter Tryz.func75, Tryz.ntmps75;go_upto_region 2 with fail
 generalize (w.setCell _ _).alloc _ = W1 at *;clear c0 f0 hwr;have hW1 : w0.heap.size ≤ W1.heap.size := HCS.o.bl.size;have cg := HCS.o.ct.cell;have x0 := HCS.o.bx.2 0 _ rfl;have x1 := HCS.o.bx.2 1 _ rfl;by_cases hLz : L - 1 < 0
 · have HNO : Hd (¬ (pOk (.mk d kid) deep ∧ ((psz (.mk d kid) : Nat) : Int) ≤ L)) := fun hh => by
    have h := hh.2;have h2 := HSZ.o;omega
   go_wp2;go_ret;exact CtrAns.no HNO.o HCS.o.ct HCS.o.pa
 by_cases hdz : deep > 480
 · have HNO : Hd (¬ (pOk (.mk d kid) deep ∧ ((psz (.mk d kid) : Nat) : Int) ≤ L)) := fun hh => by
    have h := hh.1.1;omega
   go_wp2;go_ret;exact CtrAns.no HNO.o HCS.o.ct HCS.o.pa
 have hd10 : deep ≤ 480 := by omega
 have HCq := iH fun o => HCS.o.below hW1 (bl_a o);rcases (show d.k = 0 ∨ d.k = 1 ∨ d.k = 2 ∨ d.k = 3 ∨ d.k = 4 ∨ d.k = 5 ∨ d.k = 6 ∨ d.k = 7 ∨ d.k = 8 by have h := HK8.o; omega) with h | h | h | h | h | h | h | h | h;all_goals
  have HKV := iH h;clear h;rw [HKV.o] at x0;by_cases ho0 : d.ord < 0
  · have HNO : Hd (¬ NodeP d) := fun hh => by
     have h := hh.o0;omega
    go_wp2;go_ret;exact CtrAns.no (pOk_no HNO.o) HCS.o.ct HCS.o.pa
  by_cases ho5 : d.ord > 5
  · have HNO : Hd (¬ NodeP d) := fun hh => by
     have h := hh.o5;omega
    go_wp2;go_ret;exact CtrAns.no (pOk_no HNO.o) HCS.o.ct HCS.o.pa
  have HO0 : Hd (0 ≤ d.ord) := (show 0 ≤ d.ord by omega);have HO5 : Hd (d.ord ≤ 5) := (show d.ord ≤ 5 by omega);have y0 := fun o => (HCq.o o).bx.2 0 _ rfl;simp only [HKV.o] at y0;have y26 := fun o => (HCq.o o).bx.2 26 _ rfl;have y27 := fun o => (HCq.o o).bx.2 27 _ rfl;have y1 := fun o => (HCq.o o).bx.2 1 _ rfl;have y2 := fun o => (HCq.o o).bx.2 2 _ rfl;have y3 := fun o => (HCq.o o).bx.2 3 _ rfl;have y4 := fun o => (HCq.o o).bx.2 4 _ rfl;have y5 := fun o => (HCq.o o).bx.2 5 _ rfl;have y6 := fun o => (HCq.o o).bx.2 6 _ rfl;have y7 := fun o => (HCq.o o).bx.2 7 _ rfl;have y8 := fun o => (HCq.o o).bx.2 8 _ rfl;have y9 := fun o => (HCq.o o).bx.2 9 _ rfl;have y10 := fun o => (HCq.o o).bx.2 10 _ rfl;have y11 := fun o => (HCq.o o).bx.2 11 _ rfl;have y12 := fun o => (HCq.o o).bx.2 12 _ rfl;have y13 := fun o => (HCq.o o).bx.2 13 _ rfl;have y14 := fun o => (HCq.o o).bx.2 14 _ rfl;have y15 := fun o => (HCq.o o).bx.2 15 _ rfl;have y16 := fun o => (HCq.o o).bx.2 16 _ rfl;by_cases hn1 : d.n = kidsP d.k;rotate_left
  · have HNO : Hd (¬ NodeP d) := fun hh => hn1 hh.n
    have hx : ∀ c : Int, c = (kidsP d.k : Nat) → (c == (d.n : Int)) = false ∧ (c != (d.n : Int)) = true := fun c h => by subst h; constructor <;> simp <;> omega
    first | have hz := hx 2 (by rw [HKV.o]; rfl) | have hz := hx 1 (by rw [HKV.o]; rfl) | have hz := hx 0 (by rw [HKV.o]; rfl)
    obtain ⟨hne, hnf⟩ := hz;clear hn1 hx;go_wp2;go_ret;exact CtrAns.no (pOk_no HNO.o) (HCq.o _).ct (HCq.o _).pa
  have HNK := iH hn1;first | have HN : Hd (d.n = 2) := hn1.trans (by rw [HKV.o]; rfl) | have HN : Hd (d.n = 1) := hn1.trans (by rw [HKV.o]; rfl) | have HN : Hd (d.n = 0) := hn1.trans (by rw [HKV.o]; rfl)
  have hx : ∀ c : Int, c = (kidsP d.k : Nat) → (c == (d.n : Int)) = true ∧ (c != (d.n : Int)) = false := fun c h => by subst h; constructor <;> simp <;> omega
  first | have hz := hx 2 (by rw [HKV.o]; rfl) | have hz := hx 1 (by rw [HKV.o]; rfl) | have hz := hx 0 (by rw [HKV.o]; rfl)
  obtain ⟨hne, hnf⟩ := hz;clear hn1 hx;first
  | have HK0 : Hd (d.k = 0) := HKV
    have ZP := fun o => HPT.o (W1.alloc o) (HCq.o o).bl;go_wp2_with fail
    refine (ZP _).mono ?_;rintro e w2 ⟨q2, rfl, hq2, hb2⟩;have HC2 := iH ((HCq.o _).below (HCq.o _).bl.size hb2);clear ZP hb2 HCq y0 y26 y27 y1 y2 y3 y4 y5 y6 y7 y8 y9 y10 y11 y12 y13 y14 y15 y16 x0 x1 cg;cases q2
    · have HNO : Hd (¬ NodeP d) := fun hh => by
       have h4 := hq2.2 (hh.p1 HKV.o);cases h4
      clear hq2;go_wp2;go_ret;exact CtrAns.no (pOk_no HNO.o) HC2.o.ct HC2.o.pa
    have HP1 : Hd (d.k = 0 → ptOk d.p) := fun _ => hq2.1 rfl;have HP0 : Hd (d.k ≠ 0 → zeroP d.p) := fun h => absurd HKV.o h;have HOZ : Hd (d.k ≠ 0 → d.ord = 0) := fun h => absurd HKV.o h;clear hq2;have y0 := HC2.o.bx.2 0 _ rfl;rw [HKV.o] at y0;have y1 := HC2.o.bx.2 1 _ rfl;have y26 := HC2.o.bx.2 26 _ rfl;have y27 := HC2.o.bx.2 27 _ rfl
  | have ZP := fun o => HZP.o (W1.alloc o) (HCq.o o).bl
    go_wp2_with fail
    refine (ZP _).mono ?_;rintro e w2 ⟨q2, rfl, hq2, hb2⟩;have HC2 := iH ((HCq.o _).below (HCq.o _).bl.size hb2);clear ZP hb2 HCq y0 y26 y27 y1 y2 y3 y4 y5 y6 y7 y8 y9 y10 y11 y12 y13 y14 y15 y16 x0 x1 cg;cases q2
    · have HNO : Hd (¬ NodeP d) := fun hh => by
       have h4 := hq2.2 (hh.p0 (by rw [HKV.o]; decide));cases h4
      clear hq2;go_wp2;go_ret;exact CtrAns.no (pOk_no HNO.o) HC2.o.ct HC2.o.pa
    have HP0 : Hd (d.k ≠ 0 → zeroP d.p) := fun _ => hq2.1 rfl;have HP1 : Hd (d.k = 0 → ptOk d.p) := fun h => absurd h (by rw [HKV.o]; decide);clear hq2;have y0 := HC2.o.bx.2 0 _ rfl;rw [HKV.o] at y0;have y1 := HC2.o.bx.2 1 _ rfl;have y26 := HC2.o.bx.2 26 _ rfl;have y27 := HC2.o.bx.2 27 _ rfl;by_cases hoz : d.ord = 0;rotate_left
    · have HNO : Hd (¬ NodeP d) := fun hh => hoz (hh.oz (by rw [HKV.o]; decide))
      have hoe : (d.ord == (0 : Int)) = false := by simp; omega
      have hof : (d.ord != (0 : Int)) = true := by simp; omega
      clear hoz;go_wp2;go_ret;exact CtrAns.no (pOk_no HNO.o) HC2.o.ct HC2.o.pa
    have HOZ : Hd (d.k ≠ 0 → d.ord = 0) := fun _ => hoz;have hoe : (d.ord == (0 : Int)) = true := by simp; omega
    have hof : (d.ord != (0 : Int)) = false := by simp; omega
    clear hoz
  first
  | have HK7 : Hd (d.k = 7) := HKV
    by_cases ht1 : nt ≤ 8;rotate_left
    · have HNO : Hd (¬ NodeP d) := fun hh => ht1 (by rw [HNT.o]; exact hh.tn)
      have htz2 : (8 : Int) < (nt : Int) := by omega
      clear ht1;go_wp2;go_ret;exact CtrAns.no (pOk_no HNO.o) HC2.o.ct HC2.o.pa
    have HTa : Hd (d.k ≠ 7 → d.tb = []) := fun h => absurd HK7.o h;have HTb : Hd (d.tb.length ≤ 8) := (show d.tb.length ≤ 8 by rw [← HNT.o]; exact ht1);have htz2 : ¬ (8 : Int) < (nt : Int) := by omega
  | by_cases ht1 : nt = 0
    rotate_left
    · have HNO : Hd (¬ NodeP d) := fun hh => ht1 (by rw [HNT.o]; exact tb_nil.1 (hh.t0 (by rw [HKV.o]; decide)))
      have htz : (0 : Int) < (nt : Int) := by omega
      clear ht1;go_wp2;go_ret;exact CtrAns.no (pOk_no HNO.o) HC2.o.ct HC2.o.pa
    have HT0 : Hd (d.tb.length = 0) := (show d.tb.length = 0 by rw [← HNT.o]; exact ht1);have HTa : Hd (d.k ≠ 7 → d.tb = []) := fun _ => tb_nil.2 HT0.o;have HTb : Hd (d.tb.length ≤ 8) := (show d.tb.length ≤ 8 by rw [HT0.o]; omega);have htz : ¬ (0 : Int) < (nt : Int) := by omega
    have htz2 : ¬ (8 : Int) < (nt : Int) := by omega
    clear ht1
  have y17 := HC2.o.bx.2 17 _ rfl;have y18 := HC2.o.bx.2 18 _ rfl;have y19 := HC2.o.bx.2 19 _ rfl;have y20 := HC2.o.bx.2 20 _ rfl;have y21 := HC2.o.bx.2 21 _ rfl;have y22 := HC2.o.bx.2 22 _ rfl;have y23 := HC2.o.bx.2 23 _ rfl;have y24 := HC2.o.bx.2 24 _ rfl;first
  | have hE : hasE d.k := by rw [HKV.o]; unfold hasE; omega
    have he2 : es = esz d.e := by rw [HES.o, HKV.o]; rfl
    have HE2 := iH he2;have HE := iH hE;clear he2 hE;have EF := HEF.o w2 (L - 1) HC2.o.bl HC2.o.ct (by omega) (by omega);go_wp2_with fail
    refine EF.mono ?_;rintro e w3 ⟨q3, L3, rfl, hq3, hL3, hc3, hp3⟩;have HC3 := iH (HC2.o.past hg hgw hp3 hc3);clear EF hc3 hp3 HC2 y0 y1 y26 y27 y17 y18 y19 y20 y21 y22 y23 y24;cases q3
    · have HNO : Hd (¬ (pOk (.mk d kid) deep ∧ ((psz (.mk d kid) : Nat) : Int) ≤ L)) := fun hh => by
       have h1 := hh.1.2.1.e1 HE.o;have h2 := HSZ.o;have h3 := hh.2;have h5 := HE2.o;have h4 := hq3.2 ⟨h1, by omega⟩
       cases h4
      clear hq3 hL3;go_wp2;go_ret;exact CtrAns.no HNO.o HC3.o.ct HC3.o.pa
    obtain ⟨h31, h32⟩ := hq3.1 rfl;have h33 := hL3 rfl;have HE1 : Hd (hasE d.k → eOk 120 d.e 1) := fun _ => h31;have HE0 : Hd (¬ hasE d.k → zeroE d.e) := fun h => absurd HE.o h;have h34 := HE2.o;have HL3 : Hd (L3 = L - (1 + es : Nat)) := (show L3 = _ by omega);have hL30 : 0 ≤ L3 := by omega
    have hL31 : L3 ≤ 100000 := by omega
    clear h31 h32 h33 h34 hq3 hL3
  | have hE : ¬ hasE d.k := by rw [HKV.o]; unfold hasE; omega
    have he2 : es = 0 := by rw [HES.o, HKV.o]; rfl
    have HE := iH hE;have HE2 := iH he2;clear hE he2;have ZE := HZE.o w2 HC2.o.bl;go_wp2_with fail
    refine ZE.mono ?_;rintro e w3 ⟨q3, rfl, hq3, hb3⟩;have HC3 := iH (HC2.o.below HC2.o.bl.size hb3);clear ZE hb3 HC2 y0 y1 y26 y27 y17 y18 y19 y20 y21 y22 y23 y24;cases q3
    · have HNO : Hd (¬ NodeP d) := fun hh => by
       have h4 := hq3.2 (hh.e0 HE.o);cases h4
      clear hq3;go_wp2;go_ret;exact CtrAns.no (pOk_no HNO.o) HC3.o.ct HC3.o.pa
    have HE0 : Hd (¬ hasE d.k → zeroE d.e) := fun _ => hq3.1 rfl;have HE1 : Hd (hasE d.k → eOk 120 d.e 1) := fun h => absurd h HE.o;obtain ⟨L3, hL3e⟩ : ∃ L3, L3 = L - 1 := ⟨_, rfl⟩;have h34 := HE2.o;have HL3 : Hd (L3 = L - (1 + es : Nat)) := (show L3 = _ by omega);have hL30 : 0 ≤ L3 := by omega
    have hL31 : L3 ≤ 100000 := by omega
    rw [← hL3e] at HC3;clear hq3 hL3e h34
  have x25 := HC3.o.bx.2 25 _ rfl;first
  | have hV : hasV d.k := by rw [HKV.o]; unfold hasV; omega
    have HV := iH hV;clear hV;by_cases hv1 : d.v.len = 0
    · have HNO : Hd (¬ NodeP d) := fun hh => name_pos (hh.v1 HV.o) (HLV.o.2 hv1)
      have hvz : ¬ (0 : Int) < (d.v.len : Int) := by omega
      clear hv1;go_wp2;go_ret;exact CtrAns.no (pOk_no HNO.o) HC3.o.ct HC3.o.pa
    have hvz : (0 : Int) < (d.v.len : Int) := by omega
    clear hv1;have VR := HVR.o w3 HC3.o.bl;go_wp2_with fail
    refine VR.mono ?_;rintro e w4 ⟨q4, rfl, hq4, hb4⟩;have HC3 := iH (HC3.o.below HC3.o.bl.size hb4);clear VR hb4 x25;cases q4
    · have HNO : Hd (¬ NodeP d) := fun hh => by
       have h4 := hq4.2 (hh.v1 HV.o);cases h4
      clear hq4;go_wp2;go_ret;exact CtrAns.no (pOk_no HNO.o) HC3.o.ct HC3.o.pa
    have HV1 : Hd (hasV d.k → nameOk d.v.b = true) := fun _ => hq4.1 rfl;have HV0 : Hd (¬ hasV d.k → d.v.b = []) := fun h => absurd HV.o h;have x25 := HC3.o.bx.2 25 _ rfl;clear hq4
  | have hV : ¬ hasV d.k := by rw [HKV.o]; unfold hasV; omega
    have HV := iH hV;clear hV;by_cases hv1 : d.v.len = 0;rotate_left
    · have HNO : Hd (¬ NodeP d) := fun hh => hv1 (HLV.o.1 (hh.v0 HV.o))
      have hvz : (0 : Int) < (d.v.len : Int) := by omega
      clear hv1;go_wp2;go_ret;exact CtrAns.no (pOk_no HNO.o) HC3.o.ct HC3.o.pa
    have HV1 : Hd (hasV d.k → nameOk d.v.b = true) := fun h => absurd h HV.o;have HV0 : Hd (¬ hasV d.k → d.v.b = []) := fun _ => HLV.o.2 hv1;have hvz : ¬ (0 : Int) < (d.v.len : Int) := by omega
    clear hv1
  have x26 := HC3.o.bx.2 26 _ rfl;have x27 := HC3.o.bx.2 27 _ rfl;first
  | have HK7 : Hd (d.k = 7) := HKV
    have hnz : ¬ (0 : Int) < (d.n : Int) := by have h := HN.o; omega
    go_wp2_with fail
    clear x26 x27 x25;go_loopw [10] (fun i wr => ∃ (k : Nat), k ≤ nt ∧ i = .int .i64 k ∧ Hd (∀ j x, j < k → d.tb[j]? = some x → x.td.ok = true) ∧ Hd (CS w0 w wr g L3 (cellsT d d.k nt))) (fun i _ => nt - (intOf i).toNat)
    case atStart => exact ⟨0, nZ, rfl, fun j x hj => absurd hj nN, HC3⟩
    clear HC3;obtain ⟨k, hk, rfl, HOKS, HCr⟩ := hrel;have x26 := HCr.o.bx.2 26 _ rfl;have x27 := HCr.o.bx.2 27 _ rfl;by_cases hlk : k < nt
    · have hlkz : (k : Int) < (nt : Int) := by omega
      obtain ⟨x, hx⟩ : ∃ x, d.tb[k]? = some x := ⟨_, List.getElem?_eq_getElem (by rw [← HNT.o]; exact hlk)⟩;obtain ⟨hk2, hxe⟩ := List.getElem?_eq_some_iff.1 hx;obtain ⟨b, off, eT, hbt, hct⟩ := HTR.o.resolve_left (fun e => by rw [e] at hk2; exact absurd hk2 nN);have hcx := TRow.at (l := d.tb) (b := b) (off := off) (w := wr) (fun j u hu => (HCr.o.bl.cell (p := ⟨b, off + j, none⟩) hbt).trans (hct j u hu)) k hk2;rw [hxe] at hcx;obtain ⟨z0, z1, z2, z3⟩ := hcx;rw [eT] at x26;have HX := iH hx;have Z := HTM.o x (List.mem_of_getElem? hx) wr HCr.o.bl;clear hx hxe hk2 hct eT hbt;go_wp2_with fail
      refine Z.mono ?_;rintro e w5 ⟨q5, rfl, hq5, hb5⟩;have HC5 := iH (HCr.o.below HCr.o.bl.size hb5);clear Z z0 z1 z2 z3 hb5 x26 x27 HCr;cases q5
      · have HNO : Hd (¬ NodeP d) := fun hh => by
         have h7 := hq5.2 (hh.tm x (List.mem_of_getElem? HX.o));cases h7
        clear hq5;go_wp2;go_ret;exact CtrAns.no (pOk_no HNO.o) HC5.o.ct HC5.o.pa
      have HN5 : Hd (x.td.ok = true) := hq5.1 rfl;clear hq5;go_wp2;go_roundw
      case rel =>
       refine ⟨k + 1, by omega, by go_num, fun j y hj hy => ?_, HC5⟩
       by_cases e : j = k
       · subst e
         rw [HX.o] at hy;cases hy;exact HN5.o
       exact HOKS.o j y (by omega) hy
      case measure => simp [intOf]; omega
    obtain rfl : k = nt := by omega
    have hlkz : ¬ (k : Int) < (k : Int) := by omega
    have HTO : Hd (∀ x ∈ d.tb, x.td.ok = true) := fun x hx => by
     obtain ⟨j, hj, rfl⟩ := List.mem_iff_getElem.1 hx;exact HOKS.o j _ (by rw [HNT.o]; exact hj) (List.getElem?_eq_getElem hj)
    go_wp2_with fail
    refine wl1 ?_;go_wp2_with fail
    have HND : Hd (NodeP d) := ⟨HK8.o.1, HK8.o.2, HO0.o, HO5.o, HNK.o, HP1.o, HP0.o, HOZ.o, HTa.o, HTb.o, HE1.o, HE0.o, HV1.o, HV0.o, HTO.o⟩;go_ret;exact CtrAns.yes ⟨hd10, HND.o, fun i hi => absurd hi (by rw [HN.o]; exact nN)⟩ (by have h := HSZ.o; rw [HN.o] at h; have h2 : sumN 0 (fun i => psz (kid i)) = 0 := rfl; have h3 := HL3.o; omega) (by have h := HSZ.o; rw [HN.o] at h; have h2 : sumN 0 (fun i => psz (kid i)) = 0 := rfl; have h3 := HL3.o; omega) HCr.o.ct HCr.o.pa
  | have HKe : Hd (d.k = 8) := HKV
    have HTO : Hd (∀ x ∈ d.tb, x.td.ok = true) := fun x hx => absurd hx (by rw [tb_nil.2 HT0.o]; exact List.not_mem_nil);have hnz : ¬ (0 : Int) < (d.n : Int) := by have h := HN.o; omega
    go_wp2_with fail
    refine wl1 ?_;go_wp2_with fail
    refine wl1 ?_;go_wp2_with fail
    have HND : Hd (NodeP d) := ⟨HK8.o.1, HK8.o.2, HO0.o, HO5.o, HNK.o, HP1.o, HP0.o, HOZ.o, HTa.o, HTb.o, HE1.o, HE0.o, HV1.o, HV0.o, HTO.o⟩;go_ret;exact CtrAns.yes ⟨hd10, HND.o, fun i hi => absurd hi (by rw [HN.o]; exact nN)⟩ (by have h := HSZ.o; rw [HN.o] at h; have h2 : sumN 0 (fun i => psz (kid i)) = 0 := rfl; have h3 := HL3.o; omega) (by have h := HSZ.o; rw [HN.o] at h; have h2 : sumN 0 (fun i => psz (kid i)) = 0 := rfl; have h3 := HL3.o; omega) HC3.o.ct HC3.o.pa
  | have hn2 : 0 < d.n ∧ d.n ≤ 2 := by rw [HN.o]; decide
    have HN2 := iH hn2;clear hn2;have HTO : Hd (∀ x ∈ d.tb, x.td.ok = true) := fun x hx => absurd hx (by rw [tb_nil.2 HT0.o]; exact List.not_mem_nil);have HND : Hd (NodeP d) := ⟨HK8.o.1, HK8.o.2, HO0.o, HO5.o, HNK.o, HP1.o, HP0.o, HOZ.o, HTa.o, HTb.o, HE1.o, HE0.o, HV1.o, HV0.o, HTO.o⟩;obtain ⟨b, off, eK, _, hbk, hck⟩ := HKR.o.resolve_left (Nat.ne_of_gt HN2.o.1);have HCK := iH hck;have hbk' : b < w0.heap.size := hbk;have HEK := iH eK;clear eK hck hbk;go_wp2_with fail
    refine wl1 ?_;go_wp2_with fail
    clear x26 x27 x25;go_loopw [11] (fun i wr => ∃ (k : Nat) (Lr : Int), k ≤ d.n ∧ i = .int .i64 k ∧ 0 ≤ Lr ∧ Lr ≤ 100000 ∧ Hd (Lr = L3 - (sumN k (fun i => psz (kid i)) : Nat)) ∧ Hd (∀ j, j < k → pOk (kid j) (deep + 1)) ∧ Hd (CS w0 w wr g Lr (cellsT d d.k nt))) (fun i _ => d.n - (intOf i).toNat)
    case atStart => exact ⟨0, L3, nZ, rfl, by omega, by omega, (show L3 = L3 - ((0 : Nat) : Int) by omega), fun j hj => absurd hj nN, HC3⟩
    clear HC3;obtain ⟨k, Lr, hk, rfl, hLr0, hLr1, HLR, HOKS, HCr⟩ := hrel;have x27 := HCr.o.bx.2 27 _ rfl;have hn2 : d.n ≤ 2 := HN2.o.2;by_cases hlk : k < d.n
    · have hlkz : (k : Int) < (d.n : Int) := by omega
      rw [HEK.o] at x27;have hcx : wr.rangeAt b (off + k * 28) (kid k).d.cl := fun c u hu => (HCr.o.bl.cell (p := ⟨b, off + k * 28 + c, none⟩) hbk').trans (HCK.o k hlk c u hu);have Z := HIH.o k hlk Lr wr HCr.o.bl HCr.o.ct hLr0 hLr1 hd10;have hdw : IntKind.i64.wrap (deep + 1) = deep + 1 := by rw [IntKind.wrap_i64]; omega
      go_wp2_with (with_reducible refine wpq_at ?_; refine wpList_load_mid rfl 46 _ rfl b (off + k * 28) rfl (kid k).d.cl _ hcx Tryz.underlying46 rfl (by kernel_rfl) ?_; try simp only [Act.put, sA, zA, cA])
      refine Z.mono ?_;rintro e w5 ⟨q5, L5, rfl, hq5, hL5, hc5, hp5⟩;have HC5 := iH (HCr.o.past hg hgw hp5 hc5);clear Z hcx hc5 hp5 x27 HCr hdw;have HS : Hd (sumN (k + 1) (fun i => psz (kid i)) = sumN k (fun i => psz (kid i)) + psz (kid k)) := rfl;cases q5
      · have HNO : Hd (¬ (pOk (.mk d kid) deep ∧ ((psz (.mk d kid) : Nat) : Int) ≤ L)) := fun hh => by
         have h1 := hh.1.2.2 k hlk;have h2 := HSZ.o;have h3 := sumN_mono (f := fun i => psz (kid i)) (show k + 1 ≤ d.n by omega);have h4 := HLR.o;have h5 := HS.o;have h6 := hh.2;have h8 := HL3.o;have h7 := hq5.2 ⟨h1, by omega⟩
         cases h7
        clear hq5 hL5;go_wp2;go_ret;exact CtrAns.no HNO.o HC5.o.ct HC5.o.pa
      obtain ⟨h51, h52⟩ := hq5.1 rfl;have h53 := hL5 rfl;have HN5 := iH h51;have HL5 : Hd (L5 = L3 - (sumN (k + 1) (fun i => psz (kid i)) : Nat)) := (show L5 = _ by have h1 := HS.o; have h2 := HLR.o; omega);have hL50 : 0 ≤ L5 := by omega
      have hL51 : L5 ≤ 100000 := by omega
      clear h51 h52 h53 hq5 hL5;go_wp2;go_roundw
      case rel =>
       refine ⟨k + 1, L5, by omega, by go_num, hL50, hL51, HL5, fun j hj => ?_, HC5⟩
       by_cases e : j = k
       · subst e
         exact HN5.o
       exact HOKS.o j (by omega)
      case measure => simp [intOf]; omega
    obtain rfl : k = d.n := by omega
    have hlkz : ¬ (d.n : Int) < (d.n : Int) := by omega
    go_wp2;go_ret;have h2 := HSZ.o;have h4 := HLR.o;have h8 := HL3.o;exact CtrAns.yes ⟨hd10, HND.o, fun i hi => HOKS.o i hi⟩ (by omega) (by omega) HCr.o.ct HCr.o.pa
theorem l7planOk_out (d : PN) (kid : Nat → PT) (hkv : d.k < 0 ∨ 8 < d.k) (deep L : Int) (g : Nat) (w0 w : World) (hw : Bl w0 w) (hg : w0.heap.size ≤ g) (hc : Ctr w g L) (hL0 : 0 ≤ L) (hL1 : L ≤ 100000) :
 Calls Tryz.prog 75 #[.agg d.ar, .int .i64 deep, .pointer (some ⟨g, 0, none⟩)] w (CtrAns (pOk (.mk d kid) deep) (psz (.mk d kid)) g L w) := by
 have hgw : g < w.heap.size := hc.lt;have HNO : Hd (¬ NodeP d) := fun hh => by
  have h1 := hh.k0;have h2 := hh.k8;omega
 have HCS : Hd (CS w0 w ((w.setCell ⟨g, 0, none⟩ (.int .i64 (L - 1))).alloc (.cells d.ar 46)) g (L - 1) d.cl) := CS.new hw hg hc d.ar 46 (L - 1);have c0 := fun o => ((bl_a (w := w) o).cell (p := ⟨g, 0, none⟩) hgw).trans hc.cell;have f0 := fun o => ((bl_a (w := w) o).frozen (p := ⟨g, 0, none⟩) hgw).trans hc.fr;have hwr : IntKind.i64.wrap (L - 1) = L - 1 := by rw [IntKind.wrap_i64]; omega
 clear hw hc;go_enter Tryz.func75, Tryz.ntmps75;go_upto_region 2 with fail
 generalize (w.setCell _ _).alloc _ = W1 at *;clear c0 f0 hwr;have cg := HCS.o.ct.cell;have x0 := HCS.o.bx.2 0 _ rfl;by_cases hLz : L - 1 < 0
 · clear hkv
   go_wp2;go_ret;exact CtrAns.no (pOk_no HNO.o) HCS.o.ct HCS.o.pa
 by_cases hdz : deep > 480
 · clear hkv
   go_wp2;go_ret;exact CtrAns.no (pOk_no HNO.o) HCS.o.ct HCS.o.pa
 by_cases hk0 : d.k < 0
 · clear hkv
   go_wp2;go_ret;exact CtrAns.no (pOk_no HNO.o) HCS.o.ct HCS.o.pa
 have hk7 : d.k > 8 := by omega
 clear hkv;go_wp2;go_ret;exact CtrAns.no (pOk_no HNO.o) HCS.o.ct HCS.o.pa
theorem l7planOk_any (e : PT) : ∀ (deep L : Int) (g : Nat) (w0 w : World), e.lies 0 w0 → Bl w0 w → w0.heap.size ≤ g → Ctr w g L → 0 ≤ deep → deep ≤ 100000 → 0 ≤ L → L ≤ 100000 →
 Calls Tryz.prog 75 #[.agg e.d.ar, .int .i64 deep, .pointer (some ⟨g, 0, none⟩)] w (CtrAns (pOk e deep) (psz e) g L w) := by
 induction e with
 | nil => exact fun _ _ _ _ _ h => False.elim h
 | mk d kid ih =>
  intro deep L g w0 w hl hw hg hc hd0 hd1 hL0 hL1;have hk := hl.2.2.2.2.2.2.2;have IH : ∀ i, i < d.n → ∀ (L' : Int) (W : World), Bl w0 W → Ctr W g L' → 0 ≤ L' → L' ≤ 100000 → deep ≤ 480 → Calls Tryz.prog 75 #[.agg (kid i).d.ar, .int .i64 (deep + 1), .pointer (some ⟨g, 0, none⟩)] W (CtrAns (pOk (kid i) (deep + 1)) (psz (kid i)) g L' W) := fun i hi L' W hb hc' h0 h1 h10 => ih i (deep + 1) L' g w0 W (hk i hi) hb hg hc' (by omega) (by omega) h0 h1;by_cases hout : d.k < 0 ∨ 8 < d.k
  · exact l7planOk_out d kid hout deep L g w0 w hw hg hc hL0 hL1
  exact l7planOk_x d kid (by omega) deep L g w0 w hl hw hg hc hd0 hd1 hL0 hL1 IH
def pV : PT → List (List Int) → List (List Int)
 | .nil, l => l
 | .mk d kid, l => foldN d.n (fun i acc => pV (kid i) acc) (addV (eV d.e (ptV d.p l)) d.v.b)
def pc : PT → Nat
 | .nil => 0
 | .mk d kid => 3 + esz d.e + 1 + sumN d.n (fun i => pc (kid i))
theorem pV_len (e : PT) : ∀ l, (pV e l).length ≤ l.length + pc e := by
 induction e with
 | nil => exact fun l => nR
 | mk d kid ih =>
  intro l;have h0 := ptV_len d.p l;have h1 := eV_len d.e (ptV d.p l);have h2 := addV_len (eV d.e (ptV d.p l)) d.v.b;have h3 := foldN_len (f := fun i acc => pV (kid i) acc) (c := fun i => pc (kid i)) (n := d.n) (fun i l _ => ih i l) (addV (eV d.e (ptV d.p l)) d.v.b);show (foldN d.n (fun i acc => pV (kid i) acc) (addV (eV d.e (ptV d.p l)) d.v.b)).length ≤ l.length + (3 + esz d.e + 1 + sumN d.n (fun i => pc (kid i)));omega
theorem pc_le {e : PT} : ∀ {deep : Int}, pOk e deep → pc e ≤ 5 * psz e := by
 induction e with
 | nil => exact fun h => False.elim h
 | mk d kid ih =>
  intro deep h;obtain ⟨_, hn, hk⟩ := h;have h1 : ∀ m, m ≤ d.n → sumN m (fun i => pc (kid i)) ≤ 5 * sumN m (fun i => psz (kid i)) := by
   intro m;induction m with
   | zero => exact fun _ => nR
   | succ m ihm =>
    intro hm;have h2 := ihm (by omega);have h3 := ih m (hk m (by omega));show sumN m (fun i => pc (kid i)) + pc (kid m) ≤ 5 * (sumN m (fun i => psz (kid i)) + psz (kid m));omega
  have h2 := h1 d.n nR;show 3 + esz d.e + 1 + sumN d.n (fun i => pc (kid i)) ≤ 5 * (ownP d + sumN d.n (fun i => psz (kid i)));unfold ownP;split
  · omega
  rename_i hE;have h3 := hn.e0 hE;have h4 : esz d.e ≤ 1 := by
   cases he : d.e with
   | nil => exact nZ
   | mk d2 k2 =>
    rw [he] at h3;have h5 : d2.n = 0 := h3.2.2.2.2;show 1 + sumN d2.n _ ≤ 1;rw [h5];exact nR
  omega
theorem l7vars_any (e : PT) : ∀ (v : Value) (L : List SL) (B : Nat) (w0 w : World), e.lies 0 w0 → VL w0 w B v L → Bl w0 w → L.length + pc e ≤ 1000000 → B ≤ w.heap.size → w0.heap.size ≤ B →
 Calls Tryz.prog 76 #[v, .agg e.d.ar] w (AddAns w0 B v (pV e (L.map SL.b)) w) := by
 try unfold PN.ar PN.cl
 induction e with
 | nil => exact fun _ _ _ _ _ h => False.elim h
 | mk d kid ih =>
  intro v L B w0 w hl hV hw hn hB hwB;show Calls Tryz.prog 76 #[v, .agg d.ar] w (AddAns w0 B v (foldN d.n (fun i acc => pV (kid i) acc) (addV (eV d.e (ptV d.p (L.map SL.b))) d.v.b)) w);obtain ⟨hp, he, hv, _, _, hn20, hR, hk⟩ := hl;have hac : pc (.mk d kid) = 3 + esz d.e + 1 + sumN d.n (fun i => pc (kid i)) := rfl;obtain ⟨W, hW⟩ : ∃ W, W = w.alloc (.cells d.ar 46) := ⟨_, rfl⟩;have hbW : Bl w W := by rw [hW]; exact bl_a _
  have HWE : Hd (W = w.alloc (.cells d.ar 46)) := hW;have HNV : Hd (v.ownBlock ≠ some w.heap.size) := hV.ne;have HLS : Hd (LS w0 w W B v v L d.cells W) := ⟨hV.below hbW, Kp.of_below brf, (show Box _ _ _ by rw [hW]; exact Box.new w d.ar 46 _), hw.trans (hbW.mono hw.size), Nat.le_trans hB hbW.size, hV.ne⟩;have HBW : Hd (Bl w W) := hbW;have HPT : Hd (BsF 0 w0 d.p.s.v ∧ BsF 0 w0 d.p.p.v ∧ BsF 0 w0 d.p.o.v) := ⟨hp.1.1, hp.2.1.1, hp.2.2.1⟩;have HEL : Hd (d.e.lies 0 w0) := he;have HVX : Hd (BsF 0 w0 d.v) := hv;have HKR : Hd (KRow 0 w0 28 d.ka d.n (fun i => (kid i).d.cells)) := hR;have HIH : Hd (∀ i, i < d.n → ∀ (v' : Value) (L' : List SL) (W' : World), VL w0 W' B v' L' → Bl w0 W' → L'.length + pc (kid i) ≤ 1000000 → B ≤ W'.heap.size → Cl 76 #[v', .agg (kid i).d.ar] W' (AddAns w0 B v' (pV (kid i) (L'.map SL.b)) W')) := fun i hi v' L' W' h1 h2 h3 h4 => ih i v' L' B w0 W' (hk i hi) h1 h2 h3 h4 hwB;have HLA : Hd (L.length + 3 + esz d.e + 1 + sumN d.n (fun i => pc (kid i)) ≤ 1000000) := (show _ ≤ 1000000 by omega);have HLQ : Hd ((addV (L.map SL.b) d.p.s.v.b).length ≤ 1000000 ∧ (addV (addV (L.map SL.b) d.p.s.v.b) d.p.p.v.b).length ≤ 1000000 ∧ (addV (addV (addV (L.map SL.b) d.p.s.v.b) d.p.p.v.b) d.p.o.v.b).length ≤ 1000000) := by
   have h1 := addV_len (L.map SL.b) d.p.s.v.b;have h2 := addV_len (addV (L.map SL.b) d.p.s.v.b) d.p.p.v.b;have h3 := addV_len (addV (addV (L.map SL.b) d.p.s.v.b) d.p.p.v.b) d.p.o.v.b;have h4 := HLA.o;rw [List.length_map] at h1;exact ⟨by omega, by omega, by omega⟩
  have HLE : Hd ((ptV d.p (L.map SL.b)).length + esz d.e ≤ 1000000 ∧ (eV d.e (ptV d.p (L.map SL.b))).length ≤ 1000000) := by
   have h5 := eV_len d.e (ptV d.p (L.map SL.b));have h6 := ptV_len d.p (L.map SL.b);have h7 := HLA.o;rw [List.length_map] at h6;exact ⟨by omega, by omega⟩
  have HLK : Hd (∀ k, k < d.n → (foldN k (fun i acc => pV (kid i) acc) (addV (eV d.e (ptV d.p (L.map SL.b))) d.v.b)).length + pc (kid k) ≤ 1000000) := fun k hk => by
   have h1 := foldN_len (f := (fun i acc => pV (kid i) acc)) (c := fun i => pc (kid i)) (n := k) (fun i l _ => pV_len (kid i) l) (addV (eV d.e (ptV d.p (L.map SL.b))) d.v.b);have h2 := addV_len (eV d.e (ptV d.p (L.map SL.b))) d.v.b;have h5 := eV_len d.e (ptV d.p (L.map SL.b));have h6 := ptV_len d.p (L.map SL.b);rw [List.length_map] at h6;have h3 := sumN_mono (f := fun i => pc (kid i)) (show k + 1 ≤ d.n by omega);have h4 : sumN (k + 1) (fun i => pc (kid i)) = sumN k (fun i => pc (kid i)) + pc (kid k) := rfl;have h7 := HLA.o;omega
  have HS0 : Hd (LS w0 w W B v v L d.cells W.drew) := HLS.o.below bdr;have HLN1 : Hd (L.length ≤ 1000000) := (show L.length ≤ 1000000 by omega);have HF : Hd (∀ w', (Bl w0 w' ∧ Box w' w.heap.size d.cells) → w'.cell? ⟨w.heap.size, 2, none⟩ = some (.slice d.p.s.v.a d.p.s.v.len d.p.s.v.cap) ∧ w'.cell? ⟨w.heap.size, 7, none⟩ = some (.slice d.p.p.v.a d.p.p.v.len d.p.p.v.cap) ∧ w'.cell? ⟨w.heap.size, 12, none⟩ = some (.slice d.p.o.v.a d.p.o.v.len d.p.o.v.cap)) := fun w' hw' => ⟨hw'.2.2 2 _ rfl, hw'.2.2 7 _ rfl, hw'.2.2 12 _ rfl⟩;clear hR hk ih hv hV hw hn hB hbW hac hp he;go_enter Tryz.func76, Tryz.ntmps76;go_upto_region 1 with fail
  rw [← hW];clear hW;go_wp2_with fail
  refine whd (fun w' => Bl w0 w' ∧ Box w' w.heap.size d.cells) ?_ fun hHeld => ?_
  · exact ⟨Below.drew HLS.o.bl, HLS.o.bx.below bdr⟩
  refine tkB 0 6 ?_;refine tkB 1 7 ?_;refine tkB 2 8 ?_;refine tkB 3 9 ?_;refine tkA 4 10 (v := ?v5) ?y5 ?_
  case y5 => (intro w' hSw; obtain ⟨q1, q2, q3⟩ := HF.o w' hSw; go_simp; (try with_reducible rfl))
  refine tkB 6 12 ?_;refine tkB 7 13 ?_;refine tkB 8 14 ?_;refine tkA 9 15 (v := ?v9) ?y9 ?_
  case y9 => (intro w' hSw; obtain ⟨q1, q2, q3⟩ := HF.o w' hSw; go_simp; (try with_reducible rfl))
  refine tkB 11 17 ?_;refine tkB 12 18 ?_;refine tkB 13 19 ?_;refine tkA 14 20 (v := ?v13) ?y13 ?_
  case y13 => (intro w' hSw; obtain ⟨q1, q2, q3⟩ := HF.o w' hSw; go_simp; (try with_reducible rfl))
  try simp only [Act.put, sA, zA, cA]
  refine rdA 5 fun K hK => ?_;go_simp;refine (l4add_any v L d.p.s.v B w0 _ HS0.o.vl HS0.o.bl HPT.o.1 HLN1.o HS0.o.lo).mono ?_;rintro e z1 ⟨v1, M1, rfl, hV1, hR1, hK1⟩;have HS1 : Hd (LS w0 w W B v v1 M1 d.cells z1) := HS0.o.step HWE.o HNV.o hwB hV1 hK1;have HE1 : Hd (M1.map SL.b = addV (L.map SL.b) d.p.s.v.b) := (show _ = _ by rw [hR1]);clear hV1 hR1 hK1;have HLN2 : Hd (M1.length ≤ 1000000) := (show M1.length ≤ 1000000 by have h1 := congrArg List.length HE1.o; rw [List.length_map] at h1; have h2 := HLQ.o; omega);go_wp2_with fail
  refine rhK hK ⟨HS1.o.bl, HS1.o.bx⟩ fun hHeld => ?_;clear hK K;refine rdA 10 fun K hK => ?_;go_simp;refine (l4add_any v1 M1 d.p.p.v B w0 _ HS1.o.vl HS1.o.bl HPT.o.2.1 HLN2.o HS1.o.lo).mono ?_;rintro e z2 ⟨v2, M2, rfl, hV2, hR2, hK2⟩;have HS2 : Hd (LS w0 w W B v v2 M2 d.cells z2) := HS1.o.step HWE.o HNV.o hwB hV2 hK2;have HE2 : Hd (M2.map SL.b = addV (addV (L.map SL.b) d.p.s.v.b) d.p.p.v.b) := (show _ = _ by rw [hR2, HE1.o]);clear hV2 hR2 hK2;have HLN3 : Hd (M2.length ≤ 1000000) := (show M2.length ≤ 1000000 by have h1 := congrArg List.length HE2.o; rw [List.length_map] at h1; have h2 := HLQ.o; omega);go_wp2_with fail
  refine rhK hK ⟨HS2.o.bl, HS2.o.bx⟩ fun hHeld => ?_;clear hK K;refine rdA 15 fun K hK => ?_;go_simp;refine (l4add_any v2 M2 d.p.o.v B w0 _ HS2.o.vl HS2.o.bl HPT.o.2.2 HLN3.o HS2.o.lo).mono ?_;rintro e z3 ⟨v3, M3, rfl, hV3, hR3, hK3⟩;have HS3 : Hd (LS w0 w W B v v3 M3 d.cells z3) := HS2.o.step HWE.o HNV.o hwB hV3 hK3;have HE3 : Hd (M3.map SL.b = addV (addV (addV (L.map SL.b) d.p.s.v.b) d.p.p.v.b) d.p.o.v.b) := (show _ = _ by rw [hR3, HE2.o]);clear hV3 hR3 hK3;have HLN4 : Hd (M3.length ≤ 1000000) := (show M3.length ≤ 1000000 by have h1 := congrArg List.length HE3.o; rw [List.length_map] at h1; have h2 := HLQ.o; omega);go_wp2_with fail
  refine hK.out _ _ ?_ fun hHeld => ?_
  · exact ⟨HS3.o.bl, HS3.o.bx⟩
  clear hK K;refine tkB 16 0 ?_;refine wpAnyH_done (by kernel_rfl) ?_ _;have HE3 : Hd (M3.map SL.b = ptV d.p (L.map SL.b)) := HE3;clear hHeld HF HS0 HS1 HS2 HE1 HE2 HLN1 HLN2 HLN3 HLN4 HLS;have HS0 : Hd (LS w0 w W B v v3 M3 d.cells z3.drew) := HS3.o.below bdr;have HF5 : Hd (∀ w', (Bl w0 w' ∧ Box w' w.heap.size d.cells) → w'.cell? ⟨w.heap.size, 25, none⟩ = some (.slice d.v.a d.v.len d.v.cap) ∧ True) := fun w' hw' => ⟨hw'.2.2 25 _ rfl, trivial⟩;have HLN1 : Hd (M3.length + esz d.e ≤ 1000000) := (show _ ≤ 1000000 by have h1 := congrArg List.length HE3.o; rw [List.length_map] at h1; rw [h1]; exact HLE.o.1);go_wp2_with fail
  refine whd (fun w' => Bl w0 w' ∧ Box w' w.heap.size d.cells) ?_ fun hHeld => ?_
  · exact ⟨Below.drew HS3.o.bl, HS3.o.bx.below bdr⟩
  refine tkB 0 22 ?_;refine tkB 1 23 ?_;refine takeq (i := 2) 24 (v := .agg d.e.d.ar) rfl rfl (by kernel_rfl) (by kernel_rfl) (by kernel_rfl) (fun _ _ _ h => h) (yieldsIf_load_mid (by rfl) 42 _ rfl w.heap.size 17 rfl d.e.d.cl _ (fun w' hw' => hw'.2.range 17 _ rfl) Tryz.underlying42 rfl (by kernel_rfl)) hHeld ?_;refine tkB 4 26 ?_;refine tkA 5 27 (v := ?v18) ?y18 ?_
  case y18 => (intro w' hSw; obtain ⟨q1, q2⟩ := HF5.o w' hSw; go_simp; (try with_reducible rfl))
  try simp only [Act.put, sA, zA, cA]
  refine rdA 3 fun K hK => ?_;go_simp;refine (l4exprVars_any d.e v3 M3 B w0 _ HEL.o HS0.o.vl HS0.o.bl HLN1.o HS0.o.lo hwB).mono ?_;rintro e z1 ⟨v4, M4, rfl, hV4, hR4, hK4⟩;have HS4 : Hd (LS w0 w W B v v4 M4 d.cells z1) := HS0.o.step HWE.o HNV.o hwB hV4 hK4;have HE4 : Hd (M4.map SL.b = eV d.e (ptV d.p (L.map SL.b))) := (show _ = _ by rw [hR4, HE3.o]);have HLN2 : Hd (M4.length ≤ 1000000) := (show M4.length ≤ 1000000 by have h1 := congrArg List.length HE4.o; rw [List.length_map] at h1; rw [h1]; exact HLE.o.2);clear hV4 hR4 hK4;go_wp2_with fail
  refine rhK hK ⟨HS4.o.bl, HS4.o.bx⟩ fun hHeld => ?_;clear hK K;refine rdA 6 fun K hK => ?_;go_simp;refine (l4add_any v4 M4 d.v B w0 _ HS4.o.vl HS4.o.bl HVX.o HLN2.o HS4.o.lo).mono ?_;rintro e z2 ⟨v5, M5, rfl, hV5, hR5, hK5⟩;have HS5 : Hd (LS w0 w W B v v5 M5 d.cells z2) := HS4.o.step HWE.o HNV.o hwB hV5 hK5;have HE5 : Hd (M5.map SL.b = foldN 0 (fun i acc => pV (kid i) acc) (addV (eV d.e (ptV d.p (L.map SL.b))) d.v.b)) := (show M5.map SL.b = addV (eV d.e (ptV d.p (L.map SL.b))) d.v.b by rw [hR5, HE4.o]);clear hV5 hR5 hK5;go_wp2_with fail
  refine hK.out _ _ ?_ fun hHeld => ?_
  · exact ⟨HS5.o.bl, HS5.o.bx⟩
  clear hK K;refine tkB 7 0 ?_;refine wpAnyH_done (by kernel_rfl) ?_ _;clear hHeld HF5 HS0 HS3 HS4 HE3 HE4 HLN1 HLN2;go_wp2_with fail
  go_loopw [0, 5] (fun lv i wr => ∃ (k : Nat) (v' : Value) (L' : List SL), k ≤ d.n ∧ v' = lv ∧ i = .int .i64 k ∧ Hd (LS w0 w W B v v' L' d.cells wr) ∧ Hd (L'.map SL.b = foldN k (fun i acc => pV (kid i) acc) (addV (eV d.e (ptV d.p (L.map SL.b))) d.v.b))) (fun _ i _ => d.n - (intOf i).toNat)
  case atStart => exact ⟨0, v5, M5, nZ, rfl, rfl, HS5, HE5⟩
  clear HS5 HE5;obtain ⟨k, v', L', hk, rfl, rfl, HSr, HRr⟩ := hrel;have x27 := HSr.o.bx.2 27 _ rfl;by_cases hlk : k < d.n
  · have hlkz : (k : Int) < (d.n : Int) := by omega
    obtain ⟨b, off, eK, _, hbk, hck⟩ := HKR.o.resolve_left (by omega);have hcx : wr.rangeAt b (off + k * 28) (kid k).d.cl := fun c u hu => (HSr.o.bl.cell (p := ⟨b, off + k * 28 + c, none⟩) hbk).trans (hck k hlk c u hu);have hll : L'.length = (foldN k (fun i acc => pV (kid i) acc) (addV (eV d.e (ptV d.p (L.map SL.b))) d.v.b)).length := by rw [← HRr.o, List.length_map]
    have Z := HIH.o k hlk v' L' wr HSr.o.vl HSr.o.bl (by rw [hll]; exact HLK.o k hlk) HSr.o.lo;rw [HRr.o] at Z;have HS : Hd (foldN (k + 1) (fun i acc => pV (kid i) acc) (addV (eV d.e (ptV d.p (L.map SL.b))) d.v.b) = pV (kid k) (foldN k (fun i acc => pV (kid i) acc) (addV (eV d.e (ptV d.p (L.map SL.b))) d.v.b))) := rfl;rw [eK] at x27;clear eK hck hll;go_wp2_with (with_reducible refine wpq_at ?_; refine wpList_load_mid rfl 46 _ rfl b (off + k * 28) rfl (kid k).d.cl _ hcx Tryz.underlying46 rfl (by kernel_rfl) ?_; try simp only [Act.put, sA, zA, cA])
    refine Z.mono ?_;rintro e w5 ⟨v6, L6, rfl, hV6, hR6, hK6⟩;have HN1 : Hd (LS w0 w W B v v6 L6 d.cells w5) := HSr.o.step HWE.o HNV.o hwB hV6 hK6;have HN2 : Hd (L6.map SL.b = foldN (k + 1) (fun i acc => pV (kid i) acc) (addV (eV d.e (ptV d.p (L.map SL.b))) d.v.b)) := (show _ = _ by rw [HS.o]; exact hR6);clear Z hcx hV6 hR6 hK6 x27 HSr HRr;go_wp2;go_roundw
    case rel => exact ⟨k + 1, v6, L6, by omega, rfl, by go_num, HN1, HN2⟩
    case measure => simp [intOf]; omega
  obtain rfl : k = d.n := by omega
  have hlkz : ¬ (d.n : Int) < (d.n : Int) := by omega
  go_wp2;go_ret;exact ⟨_, L', rfl, HSr.o.vl, HRr.o, Kp.pre HBW.o HSr.o.kp⟩
theorem wpq_load {P : Program} {ops : Array Oper} {rest : List Oper} {op : Oper} {a : Act} {Q : Exit → Act → World → Prop} (hw : Region.wanted op (yielded ops a.tmps) = true) (ty : TypeId) (x : Operand) (ho : op.op = .load ty x)
 (b o : Nat) (hx : a.eval x = .pointer (some ⟨b, o, none⟩)) (cs : List Value) (d : TypeDesc) (hc : w.rangeAt b o cs)
 (hu : P.underlying ty = some d) (hd : d.isRow = true) (hi : (P.info? ty).map (·.size) = some cs.length)
 (h : wpList P ops Q rest (a.put op.dst (.agg cs.toArray)) w) : wpList P ops Q (op :: rest) a w :=
 BigFrame.wpList_want hw fun _ hK => wp_load_mid ty x ho b o hx cs d hc hu hd hi (hK _ _ h)
def planOk (e : PT) : Prop := pOk e 1 ∧ psz e ≤ 1440 ∧ (pV e []).length ≤ 8
theorem specPlanOk_any (e : PT) (w : World) (h : e.lies 0 w) : Calls Tryz.prog 29 #[.agg e.d.ar] w (Tells (planOk e) w) := by
 try unfold PN.ar PN.cl
 have A1 := fun (W : World) (g : Nat) (hb : Bl w W) (hg : w.heap.size ≤ g) (hc : Ctr W g 1440) => l7planOk_any e 1 1440 g w W h hb hg hc (by omega) (by omega) (by omega) (by omega);have HV : Hd (∀ W, Bl w W → pc e ≤ 1000000 → Cl 76 #[.slice none 0 0, .agg e.d.ar] W (AddAns w W.heap.size (.slice none 0 0) (pV e []) W)) := fun W hb ha => l7vars_any e (.slice none 0 0) [] W.heap.size w W h (VL.nil _ _ _) hb (by simpa using ha) nR hb.size;have HAC : Hd (pOk e 1 → pc e ≤ 5 * psz e) := fun h => pc_le h;clear h;go_enter Tryz.func29, Tryz.ntmps29;go_upto_region 2 with fail
 obtain ⟨W1, hW1⟩ : ∃ W1, W1 = (w.alloc (.cells e.d.ar 46)).alloc (.cells #[.int .i64 1440] 3) := ⟨_, rfl⟩;have HX : Hd (Box W1 w.heap.size e.d.cells) := (show Box _ _ _ by rw [hW1]; exact (Box.new w e.d.ar 46 _).below (bl_a _));have HC : Hd (Ctr W1 (w.heap.size + 1) 1440) := (show Ctr _ _ _ by rw [hW1]; exact ⟨by simp, by simp [go_sem], by simp [go_sem]⟩);have HB : Hd (Bl w W1) := (show Below _ _ _ by rw [hW1]; exact bl_alloc (bl_a _) _);rw [← hW1];clear hW1;have A2 := A1 W1 (w.heap.size + 1) HB.o (Nat.le_succ _) HC.o;have lr : W1.rangeAt w.heap.size 0 e.d.cl := HX.o.range 0 _ rfl;clear A1;go_wp2_with (with_reducible refine wpq_at ?_; refine ldr rfl rfl rfl Tryz.underlying46 lr rfl ?_; try simp only [Act.put, sA, zA, cA])
 refine A2.mono ?_;rintro r w2 ⟨q, L', rfl, hq, _, hc2, hp2⟩;have HB2 : Hd (Bl w w2) := HB.o.trans (hp2.below (Nat.le_succ _) HB.o.size);have HX2 : Hd (Box w2 w.heap.size e.d.cells) := HX.o.past hp2 (by omega);clear A2 lr hc2 hp2;cases q
 · have HNO : Hd (¬ planOk e) := fun hh => by
    have h1 := hq.2 ⟨hh.1, by have := hh.2.1; omega⟩
    cases h1
   clear hq;go_wp2;go_ret;exact Tells.no HNO.o HB2.o
 obtain ⟨h1, h2⟩ := hq.1 rfl;have HOK : Hd (pOk e 1 ∧ psz e ≤ 1440) := ⟨h1, by omega⟩
 have V := HV.o w2 HB2.o (by have h3 := HAC.o h1; omega);clear hq h1 h2;have lr : w2.rangeAt w.heap.size 0 e.d.cl := HX2.o.range 0 _ rfl;go_wp2_with (with_reducible refine wpq_at ?_; refine Hd.o ?_)
 change wpList _ _ _ _ _ _;refine wpq_load ?hw 46 _ rfl w.heap.size 0 rfl e.d.cl _ lr Tryz.underlying46 rfl (by kernel_rfl) ?_
 case hw => rfl
 simp only [Act.put, sA, zA, cA];go_wp2_with fail
 refine V.mono ?_;rintro r w3 ⟨v3, L3, rfl, hV3, hR3, hK3⟩;obtain ⟨a3, c3, rfl, _⟩ := hV3.form;have hb3 : Bl w2 w3 := hK3.low (fun g hg => by cases hg) nR;have HB3 : Hd (Bl w w3) := bl_trans HB2.o hb3;obtain ⟨n3, hn3⟩ : ∃ n3, n3 = L3.length := ⟨_, rfl⟩;have HE : Hd ((decide ((n3 : Int) ≤ 8)) = true ↔ planOk e) := by
  show (_ ↔ _);rw [decide_eq_true_iff];have h4 : (pV e []).length = n3 := by rw [← hR3, List.length_map, hn3]
  exact ⟨fun h => ⟨HOK.o.1, HOK.o.2, by omega⟩, fun h => by have := h.2.2; omega⟩
 rw [← hn3];clear V hV3 hR3 hK3 hb3 hn3 lr;go_wp2;go_ret;exact Tells.of HE.o HB3.o
theorem tds_same {l' : List TB} (h : l.map TB.td = l'.map TB.td) : l.length = l'.length ∧ ((∀ x ∈ l, x.td.ok = true) ↔ ∀ x ∈ l', x.td.ok = true) := by
 refine ⟨by have := congrArg List.length h; simpa using this, ?_⟩
 have e : ∀ m : List TB, (∀ x ∈ m, x.td.ok = true) ↔ ∀ y ∈ m.map TB.td, y.ok = true := fun m => by simp
 rw [e l, e l', h]
theorem NodeA.same {d d' : AN} (hk : d.k = d'.k) (hpn : d.pn = d'.pn) (hp : ∀ i, i < d.pn → (d.pat i).same (d'.pat i)) (he : d.e.same d'.e) (hv : d.v.b = d'.v.b) (ht : d.tb.map TB.td = d'.tb.map TB.td) (hn : d.n = d'.n) (h : NodeA d) : NodeA d' := by
 obtain ⟨l1, l2⟩ := tds_same ht;refine ⟨hk ▸ h.k0, hk ▸ h.k7, ?_, fun hh => ?_, hpn ▸ h.pn, fun hh => ?_, l1 ▸ h.tn, fun hh => ?_, fun hh => ?_, fun hh => ?_, fun hh => ?_, fun i hi => ?_, l2.1 h.tm⟩
 · rw [← hn, ← hk]; exact h.n
 · rw [← hpn]; exact h.p0 (hk ▸ hh)
 · have h0 := h.t0 (hk ▸ hh); rw [tb_nil] at h0 ⊢; omega
 · exact (eOk_same he).1 (h.e1 (hk ▸ hh))
 · exact (zeroE_same he).1 (h.e0 (hk ▸ hh))
 · rw [← hv]; exact h.v1 (hk ▸ hh)
 · rw [← hv]; exact h.v0 (hk ▸ hh)
 exact (ptOk_same (hp i (by omega))).1 (h.pt i (by omega))
theorem IB.same.symm {x y : IB} (h : x.same y) : y.same x := ⟨h.1.symm, h.2.symm⟩
theorem PB.same.symm (h : x.same y) : y.same x := ⟨h.1.symm, h.2.1.symm, h.2.2.symm⟩
theorem ET.same.symm {e : ET} : ∀ {e' : ET}, e.same e' → e'.same e := by
 induction e with
 | nil => exact fun h => False.elim h
 | mk d kid ih =>
  intro e' h;cases e' with
  | nil => exact False.elim h
  | mk d' kid' =>
  obtain ⟨h0, h1, h2, h3, h4, h5⟩ := h;exact ⟨h0.symm, h1.symm, h2.symm, h3.symm, h4.symm, fun i hi => ih i (h5 i (by omega))⟩
theorem IB.same.trans {x y z : IB} (h : x.same y) (k : y.same z) : x.same z := ⟨h.1.trans k.1, h.2.trans k.2⟩
theorem PB.same.trans {z : PB} (h : x.same y) (k : y.same z) : x.same z := ⟨h.1.trans k.1, h.2.1.trans k.2.1, h.2.2.trans k.2.2⟩
theorem ET.same.trans {e : ET} : ∀ {e' e'' : ET}, e.same e' → e'.same e'' → e.same e'' := by
 induction e with
 | nil => exact fun h => False.elim h
 | mk d kid ih =>
  intro e' e'' h k;cases e' with
  | nil => exact False.elim h
  | mk d' kid' =>
  cases e'' with
  | nil => exact False.elim k
  | mk d'' kid'' =>
  obtain ⟨h0, h1, h2, h3, h4, h5⟩ := h;obtain ⟨k0, k1, k2, k3, k4, k5⟩ := k;exact ⟨h0.trans k0, h1.trans k1, h2.trans k2, h3.trans k3, h4.trans k4, fun i hi => ih i (h5 i hi) (k5 i (by omega))⟩
theorem AT.same.symm : ∀ {e' : AT}, e.same e' → e'.same e := by
 induction e with
 | nil => exact fun h => False.elim h
 | mk d kid ih =>
  intro e' h;cases e' with
  | nil => exact False.elim h
  | mk d' kid' =>
  obtain ⟨h0, h1, h2, h3, h4, h5, h6, h7⟩ := h;exact ⟨h0.symm, h1.symm, fun i hi => (h2 i (by omega)).symm, h3.symm, h4.symm, h5.symm, h6.symm, fun i hi => ih i (h7 i (by omega))⟩
theorem AT.same.trans : ∀ {e' e'' : AT}, e.same e' → e'.same e'' → e.same e'' := by
 induction e with
 | nil => exact fun h => False.elim h
 | mk d kid ih =>
  intro e' e'' h k;cases e' with
  | nil => exact False.elim h
  | mk d' kid' =>
  cases e'' with
  | nil => exact False.elim k
  | mk d'' kid'' =>
  obtain ⟨h0, h1, h2, h3, h4, h5, h6, h7⟩ := h;obtain ⟨k0, k1, k2, k3, k4, k5, k6, k7⟩ := k;exact ⟨h0.trans k0, h1.trans k1, fun i hi => (h2 i hi).trans (k2 i (by omega)), h3.trans k3, h4.trans k4, h5.trans k5, h6.trans k6, fun i hi => ih i (h7 i hi) (k7 i (by omega))⟩
theorem aOk_imp : ∀ {e' : AT} {deep : Int}, e.same e' → aOk e deep → aOk e' deep := by
 induction e with
 | nil => exact fun h => False.elim h
 | mk d kid ih =>
  intro e' deep h;cases e' with
  | nil => exact False.elim h
  | mk d' kid' =>
  obtain ⟨h0, h1, h2, h3, h4, h5, h6, h7⟩ := h;exact fun hh => ⟨hh.1, NodeA.same h0 h1 h2 h3 h4 h5 h6 hh.2.1, fun i hi => ih i (h7 i (by omega)) (hh.2.2 i (by omega))⟩
theorem asz_same : ∀ {e' : AT}, e.same e' → asz e = asz e' := by
 induction e with
 | nil => exact fun h => False.elim h
 | mk d kid ih =>
  intro e' h;cases e' with
  | nil => exact False.elim h
  | mk d' kid' =>
  obtain ⟨h0, h1, h2, h3, h4, h5, h6, h7⟩ := h;show ownA d + sumN d.n _ = ownA d' + sumN d'.n _;have e1 : ownA d = ownA d' := by
   unfold ownA;rw [h0, h1, esz_same h3]
  rw [e1, ← h6, sumN_congr fun i hi => ih i (h7 i hi)]
theorem ptV_same (h : x.same y) (l : List (List Int)) : ptV x l = ptV y l := by
 unfold ptV;rw [h.1.1, h.2.1.1, h.2.2.1]
theorem aV_same : ∀ {e' : AT} {l : List (List Int)}, e.same e' → aV e l = aV e' l := by
 induction e with
 | nil => exact fun h => False.elim h
 | mk d kid ih =>
  intro e' l h;cases e' with
  | nil => exact False.elim h
  | mk d' kid' =>
  obtain ⟨h0, h1, h2, h3, h4, h5, h6, h7⟩ := h;show foldN d.n _ (addV (eV d.e (foldN d.pn _ l)) d.v.b) = foldN d'.n _ (addV (eV d'.e (foldN d'.pn _ l)) d'.v.b);rw [← h6, ← h4, ← h1, foldN_congr (fun i hi a => ptV_same (h2 i hi) a) l, eV_same h3];exact foldN_congr (fun i hi a => ih i (h7 i hi)) _
theorem algOk_same {e' : AT} (h : e.same e') : algOk e ↔ algOk e' := by
 unfold algOk;rw [asz_same h, aV_same h];exact and_congr_left fun _ => ⟨aOk_imp h, aOk_imp h.symm⟩
theorem terms_keep {w' : World} {a : Option Addr} (h : TRowF B w a l) (hz : RoZ B w a l.length 4) (ht : ∀ x ∈ l, TxW B w x.sl) (hk : Stay (tfp a l) w w') : TRowF B w' a l ∧ RoZ B w' a l.length 4 ∧ ∀ x ∈ l, TxW B w' x.sl := by
 have hx : ∀ x ∈ l, (x.own B w') := fun x hx => by
  obtain ⟨i, hi, e⟩ := List.getElem_of_mem hx;have e2 : tbN l i = x := by unfold tbN; rw [List.getElem?_eq_getElem hi, e]; rfl
  have h2 := hk.right.kid (i := i) hi;simp only [e2] at h2;exact TB.own.keep (w := w) ⟨h.2.2 x hx, ht x hx⟩ h2
 refine ⟨⟨?_, h.2.1, fun x h2 => (hx x h2).1⟩, ?_, fun x h2 => (hx x h2).2⟩
 · rcases h.1 with e | ⟨b, off, ha, hlt, hc⟩
   · exact .inl e
   by_cases h0 : l = []
   · exact .inl h0
   have hn : l.length ≠ 0 := fun e => h0 (List.eq_nil_of_length_eq_zero e);have hs := hk.left;unfold rfp at hs;rw [if_neg hn] at hs;have hb := hs.1 b (by rw [ha]; simp [blk]);exact .inr ⟨b, off, ha, Nat.lt_of_lt_of_le hlt hk.2, fun j u hu => (World.cell?_of_block (w := w) (a := ⟨b, off + j, none⟩) hb).trans (hc j u hu)⟩
 exact (row_keep (C := fun _ => []) (hz.elim .inl fun ⟨g, e, hF⟩ => by
  by_cases h0 : l.length = 0
  · exact .inl h0
  rcases hF with hF | ⟨h1, h2, _⟩
  · omega
  exact .inr ⟨g, 0, e, h1, h2, fun i hi c u hu => by simp at hu⟩) hz hk.left).2
theorem zeroE_two {e e' : ET} (hl : e ≠ .nil) (hl' : e' ≠ .nil) (h : zeroE e) (h' : zeroE e') : e.same e' := by
 cases e with
 | nil => exact absurd rfl hl
 | mk d kid =>
  cases e' with
  | nil => exact absurd rfl hl'
  | mk d' kid' =>
   obtain ⟨a1, a2, a3, ⟨a4, a5, a6, a7⟩, a8⟩ := h;obtain ⟨b1, b2, b3, ⟨b4, b5, b6, b7⟩, b8⟩ := h';refine ⟨a1.trans b1.symm, a2.trans b2.symm, a3.trans b3.symm, ?_, a8.trans b8.symm, fun i hi => ?_⟩
   · cases hd : d.t.td with
     | mk k bs n s =>
      cases hd' : d'.t.td with
      | mk k' bs' n' s' =>
       simp only [ET.d, hd, hd'] at a4 a5 a6 a7 b4 b5 b6 b7;subst a4 a5 a6 a7 b4 b5 b6 b7;rfl
   have : d.n = 0 := a8;omega
theorem ET.lies.ne {e : ET} (h : e.lies B w) : e ≠ .nil := fun e1 => by rw [e1] at h; exact h
end Go.Proofs.YtoloadogihbdeaaGreat
