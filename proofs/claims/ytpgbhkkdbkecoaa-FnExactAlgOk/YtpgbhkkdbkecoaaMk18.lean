/- Texts put together: TreI6 -/
import Derived.Test.YtpgbhkkdbkecoaaMk12
/- TreI6 -/
namespace Go.Proofs.Ytpgbhkkdbkecoaa
open Go.RowKit Go.Deep
set_option maxRecDepth 100000

set_option maxHeartbeats 16000000 in
theorem l5alg_6 (d : AN) (kid : Nat → AT) (hkv : d.k = 6) (deep L : Int) (g : Nat) (w0 w : World) (hl : (AT.mk d kid).lies 0 w0) (hw : Below w0.heap.size w0 w) (hg : w0.heap.size ≤ g) (hc : Ctr w g L) (hd0 : 0 ≤ deep) (hd1 : deep ≤ 100000) (hL0 : 0 ≤ L) (hL1 : L ≤ 100000)
    (IH : ∀ i, i < d.n → ∀ (L' : Int) (W : World), Below w0.heap.size w0 W → Ctr W g L' → 0 ≤ L' → L' ≤ 100000 → deep ≤ 240 → Calls Try.prog 20 #[.agg #[.int .i64 (kid i).d.k, .slice (kid i).d.pa (kid i).d.pn (kid i).d.pc, .int .i64 (kid i).d.e.d.k, .int .i64 (kid i).d.e.d.op, .slice (kid i).d.e.d.v.a (kid i).d.e.d.v.len (kid i).d.e.d.v.cap, .int .i64 (kid i).d.e.d.t.t.k, .slice (kid i).d.e.d.t.t.a (kid i).d.e.d.t.t.len (kid i).d.e.d.t.t.cap, .int .i64 (kid i).d.e.d.t.t.n, .int .i64 (kid i).d.e.d.t.t.s, .slice (kid i).d.e.d.ka (kid i).d.e.d.n (kid i).d.e.d.kc, .slice (kid i).d.v.a (kid i).d.v.len (kid i).d.v.cap, .slice (kid i).d.ta (kid i).d.tb.length (kid i).d.tc, .slice (kid i).d.ka (kid i).d.n (kid i).d.kc], .int .i64 (deep + 1), .pointer (some ⟨g, 0, none⟩)] W (CtrAns (aOk (kid i) (deep + 1)) (asz (kid i)) g L' W)) :
    Calls Try.prog 20 #[.agg #[.int .i64 d.k, .slice d.pa d.pn d.pc, .int .i64 d.e.d.k, .int .i64 d.e.d.op, .slice d.e.d.v.a d.e.d.v.len d.e.d.v.cap, .int .i64 d.e.d.t.t.k, .slice d.e.d.t.t.a d.e.d.t.t.len d.e.d.t.t.cap, .int .i64 d.e.d.t.t.n, .int .i64 d.e.d.t.t.s, .slice d.e.d.ka d.e.d.n d.e.d.kc, .slice d.v.a d.v.len d.v.cap, .slice d.ta d.tb.length d.tc, .slice d.ka d.n d.kc], .int .i64 deep, .pointer (some ⟨g, 0, none⟩)] w (CtrAns (aOk (.mk d kid) deep) (asz (.mk d kid)) g L w) := by
  obtain ⟨hp, hpl, hpn, he, hv, ht, htn, hn, hR, hk⟩ := hl
  have hgw : g < w.heap.size := hc.lt
  have hsz : w0.heap.size ≤ w.heap.size := hw.size
  have HKV : Hid (d.k = 6) := hkv
  obtain ⟨nt, hnt⟩ : ∃ nt, nt = d.tb.length := ⟨_, rfl⟩
  have HNT : Hid (nt = d.tb.length) := hnt
  have HLV : Hid (d.v.b = [] ↔ d.v.len = 0) := nil_len hv.1.1
  have HVR : Hid (∀ W, Below w0.heap.size w0 W → Calls Try.prog 48 #[.slice d.v.a d.v.len d.v.cap] W (Tells (nameOk d.v.b = true) W)) := fun W hb => l4var_any d.v W (hv.upper (Upper.of_below hb))
  have HZE : Hid (∀ W, Below w0.heap.size w0 W → Calls Try.prog 47 #[.agg #[.int .i64 d.e.d.k, .int .i64 d.e.d.op, .slice d.e.d.v.a d.e.d.v.len d.e.d.v.cap, .int .i64 d.e.d.t.t.k, .slice d.e.d.t.t.a d.e.d.t.t.len d.e.d.t.t.cap, .int .i64 d.e.d.t.t.n, .int .i64 d.e.d.t.t.s, .slice d.e.d.ka d.e.d.n d.e.d.kc]] W (Tells (zeroE d.e) W)) := fun W hb => l4zeroExpr_any d.e W (ET.lies.upper (Upper.of_below hb) he)
  have HEF : Hid (∀ W L', Below w0.heap.size w0 W → Ctr W g L' → 0 ≤ L' → L' ≤ 100000 → Calls Try.prog 46 #[.agg #[.int .i64 d.e.d.k, .int .i64 d.e.d.op, .slice d.e.d.v.a d.e.d.v.len d.e.d.v.cap, .int .i64 d.e.d.t.t.k, .slice d.e.d.t.t.a d.e.d.t.t.len d.e.d.t.t.cap, .int .i64 d.e.d.t.t.n, .int .i64 d.e.d.t.t.s, .slice d.e.d.ka d.e.d.n d.e.d.kc], .int .i64 1, .pointer (some ⟨g, 0, none⟩)] W (CtrAns (eOk 120 d.e 1) (esz d.e) g L' W)) := fun W L' hb hc' h0 h1 => l5fits_any d.e 1 L' g w0 W he hb hg hc' (by omega) (by omega) h0 h1
  have HPT : Hid (∀ i, i < d.pn → ∀ W, Below w0.heap.size w0 W → Calls Try.prog 49 #[.agg #[.slice (d.pat i).s.v.a (d.pat i).s.v.len (d.pat i).s.v.cap, .int .i64 (d.pat i).s.t.t.k, .slice (d.pat i).s.t.t.a (d.pat i).s.t.t.len (d.pat i).s.t.t.cap, .int .i64 (d.pat i).s.t.t.n, .int .i64 (d.pat i).s.t.t.s, .slice (d.pat i).p.v.a (d.pat i).p.v.len (d.pat i).p.v.cap, .int .i64 (d.pat i).p.t.t.k, .slice (d.pat i).p.t.t.a (d.pat i).p.t.t.len (d.pat i).p.t.t.cap, .int .i64 (d.pat i).p.t.t.n, .int .i64 (d.pat i).p.t.t.s, .slice (d.pat i).o.v.a (d.pat i).o.v.len (d.pat i).o.v.cap, .int .i64 (d.pat i).o.t.t.k, .slice (d.pat i).o.t.t.a (d.pat i).o.t.t.len (d.pat i).o.t.t.cap, .int .i64 (d.pat i).o.t.t.n, .int .i64 (d.pat i).o.t.t.s]] W (Tells (ptOk (d.pat i)) W)) := fun i hi W hb => l4pat_any (d.pat i) W ((hpl i hi).upper (Upper.of_below hb))
  have HTM : Hid (∀ x ∈ d.tb, ∀ W, Below w0.heap.size w0 W → Calls Try.prog 50 #[.agg #[.int .i64 x.t.k, .slice x.t.a x.t.len x.t.cap, .int .i64 x.t.n, .int .i64 x.t.s]] W (Tells (x.td.ok = true) W)) := fun x hx W hb => (specTermOk_any x.t.k x.t.n x.t.s x.t.a x.t.len x.t.cap x.b W ((ht.2.2 x hx).1.upper (Upper.of_below hb)).1 (ht.2.2 x hx).2.1 (ht.2.2 x hx).2.2.1).mono fun e w' ⟨h1, o, h2⟩ => by
    subst h1 h2
    exact Tells.of Iff.rfl (bl_a _)
  have HIH : Hid (∀ i, i < d.n → ∀ (L' : Int) (W : World), Below w0.heap.size w0 W → Ctr W g L' → 0 ≤ L' → L' ≤ 100000 → deep ≤ 240 → Calls Try.prog 20 #[.agg #[.int .i64 (kid i).d.k, .slice (kid i).d.pa (kid i).d.pn (kid i).d.pc, .int .i64 (kid i).d.e.d.k, .int .i64 (kid i).d.e.d.op, .slice (kid i).d.e.d.v.a (kid i).d.e.d.v.len (kid i).d.e.d.v.cap, .int .i64 (kid i).d.e.d.t.t.k, .slice (kid i).d.e.d.t.t.a (kid i).d.e.d.t.t.len (kid i).d.e.d.t.t.cap, .int .i64 (kid i).d.e.d.t.t.n, .int .i64 (kid i).d.e.d.t.t.s, .slice (kid i).d.e.d.ka (kid i).d.e.d.n (kid i).d.e.d.kc, .slice (kid i).d.v.a (kid i).d.v.len (kid i).d.v.cap, .slice (kid i).d.ta (kid i).d.tb.length (kid i).d.tc, .slice (kid i).d.ka (kid i).d.n (kid i).d.kc], .int .i64 (deep + 1), .pointer (some ⟨g, 0, none⟩)] W (CtrAns (aOk (kid i) (deep + 1)) (asz (kid i)) g L' W)) := IH
  have HPR : Hid (KRow 0 w0 15 d.pa d.pn (fun i => (d.pat i).cells)) := hp
  have HTR : Hid (TRow w0 d.ta d.tb) := ht.1
  have HKR : Hid (KRow 0 w0 13 d.ka d.n (fun i => (kid i).d.cells)) := hR
  have HSZ : Hid (asz (.mk d kid) = 1 + esz d.e + d.pn + sumN d.n (fun i => asz (kid i))) := (show asz (.mk d kid) = _ by rw [asz_mk]; unfold ownA; rw [hkv]; simp)
  have HCS : Hid (CS w0 w ((w.setCell ⟨g, 0, none⟩ (.int .i64 (L - 1))).alloc (.cells #[.int .i64 6, .slice d.pa d.pn d.pc, .int .i64 d.e.d.k, .int .i64 d.e.d.op, .slice d.e.d.v.a d.e.d.v.len d.e.d.v.cap, .int .i64 d.e.d.t.t.k, .slice d.e.d.t.t.a d.e.d.t.t.len d.e.d.t.t.cap, .int .i64 d.e.d.t.t.n, .int .i64 d.e.d.t.t.s, .slice d.e.d.ka d.e.d.n d.e.d.kc, .slice d.v.a d.v.len d.v.cap, .slice d.ta nt d.tc, .slice d.ka d.n d.kc] 43)) g (L - 1) [.int .i64 6, .slice d.pa d.pn d.pc, .int .i64 d.e.d.k, .int .i64 d.e.d.op, .slice d.e.d.v.a d.e.d.v.len d.e.d.v.cap, .int .i64 d.e.d.t.t.k, .slice d.e.d.t.t.a d.e.d.t.t.len d.e.d.t.t.cap, .int .i64 d.e.d.t.t.n, .int .i64 d.e.d.t.t.s, .slice d.e.d.ka d.e.d.n d.e.d.kc, .slice d.v.a d.v.len d.v.cap, .slice d.ta nt d.tc, .slice d.ka d.n d.kc]) := CS.new hw hg hc #[.int .i64 6, .slice d.pa d.pn d.pc, .int .i64 d.e.d.k, .int .i64 d.e.d.op, .slice d.e.d.v.a d.e.d.v.len d.e.d.v.cap, .int .i64 d.e.d.t.t.k, .slice d.e.d.t.t.a d.e.d.t.t.len d.e.d.t.t.cap, .int .i64 d.e.d.t.t.n, .int .i64 d.e.d.t.t.s, .slice d.e.d.ka d.e.d.n d.e.d.kc, .slice d.v.a d.v.len d.v.cap, .slice d.ta nt d.tc, .slice d.ka d.n d.kc] 43 (L - 1)
  have c0 := fun o => ((bl_a (w := w) o).cell (p := ⟨g, 0, none⟩) hgw).trans hc.cell
  have f0 := fun o => ((bl_a (w := w) o).frozen (p := ⟨g, 0, none⟩) hgw).trans hc.fr
  have hwr : IntKind.i64.wrap (L - 1) = L - 1 := by rw [IntKind.wrap_i64]; omega
  rw [hkv, ← hnt]
  clear hp hpl hpn he hv ht htn hR hk hw hc IH hkv hnt
  go_enter Try.func20, Try.ntmps20
  go_upto_region 2 with fail
  generalize ((w.setCell ⟨g, 0, none⟩ (.int .i64 (L - 1))).alloc (.cells #[.int .i64 6, .slice d.pa d.pn d.pc, .int .i64 d.e.d.k, .int .i64 d.e.d.op, .slice d.e.d.v.a d.e.d.v.len d.e.d.v.cap, .int .i64 d.e.d.t.t.k, .slice d.e.d.t.t.a d.e.d.t.t.len d.e.d.t.t.cap, .int .i64 d.e.d.t.t.n, .int .i64 d.e.d.t.t.s, .slice d.e.d.ka d.e.d.n d.e.d.kc, .slice d.v.a d.v.len d.v.cap, .slice d.ta nt d.tc, .slice d.ka d.n d.kc] 43)) = W1 at *
  clear c0 f0 hwr
  have hW1 : w0.heap.size ≤ W1.heap.size := HCS.out.bl.size
  have cg := HCS.out.ct.cell
  have x0 := HCS.out.bx.2 0 _ rfl
  by_cases hLz : L - 1 < 0
  · have HNO : Hid (¬ (aOk (.mk d kid) deep ∧ ((asz (.mk d kid) : Nat) : Int) ≤ L)) := fun hh => by
      have h := hh.2
      have h2 := HSZ.out
      omega
    go_wp2_with fail
    go_ret
    exact CtrAns.no HNO.out HCS.out.ct HCS.out.pa
  by_cases hdz : deep > 240
  · have HNO : Hid (¬ (aOk (.mk d kid) deep ∧ ((asz (.mk d kid) : Nat) : Int) ≤ L)) := fun hh => by
      have h := hh.1.1
      omega
    go_wp2_with fail
    go_ret
    exact CtrAns.no HNO.out HCS.out.ct HCS.out.pa
  have hd10 : deep ≤ 240 := by omega
  have HCq : Hid (∀ o, CS w0 w (W1.alloc o) g (L - 1) [.int .i64 6, .slice d.pa d.pn d.pc, .int .i64 d.e.d.k, .int .i64 d.e.d.op, .slice d.e.d.v.a d.e.d.v.len d.e.d.v.cap, .int .i64 d.e.d.t.t.k, .slice d.e.d.t.t.a d.e.d.t.t.len d.e.d.t.t.cap, .int .i64 d.e.d.t.t.n, .int .i64 d.e.d.t.t.s, .slice d.e.d.ka d.e.d.n d.e.d.kc, .slice d.v.a d.v.len d.v.cap, .slice d.ta nt d.tc, .slice d.ka d.n d.kc]) := fun o => HCS.out.below hW1 (bl_a o)
  have y0 := fun o => (HCq.out o).bx.2 0 _ rfl
  have y1 := fun o => (HCq.out o).bx.2 1 _ rfl
  have y11 := fun o => (HCq.out o).bx.2 11 _ rfl
  have y12 := fun o => (HCq.out o).bx.2 12 _ rfl
  have y10 := fun o => (HCq.out o).bx.2 10 _ rfl
  have y2 := fun o => (HCq.out o).bx.2 2 _ rfl
  have y3 := fun o => (HCq.out o).bx.2 3 _ rfl
  have y4 := fun o => (HCq.out o).bx.2 4 _ rfl
  have y5 := fun o => (HCq.out o).bx.2 5 _ rfl
  have y6 := fun o => (HCq.out o).bx.2 6 _ rfl
  have y7 := fun o => (HCq.out o).bx.2 7 _ rfl
  have y8 := fun o => (HCq.out o).bx.2 8 _ rfl
  have y9 := fun o => (HCq.out o).bx.2 9 _ rfl
  by_cases hn1 : d.n = 1
  rotate_left
  · have HNO : Hid (¬ NodeA d) := fun hh => hn1 (by have h := hh.n; rw [HKV.out] at h; exact h)
    have hne : ((1 : Int) == (d.n : Int)) = false := by simp; omega
    have hnf : ((1 : Int) != (d.n : Int)) = true := by simp; omega
    clear hn1
    go_wp2_with fail
    go_ret
    exact CtrAns.no (aOk_no HNO.out) (HCq.out _).ct (HCq.out _).pa
  have HN : Hid (d.n = 1) := hn1
  have hne : ((1 : Int) == (d.n : Int)) = true := by simp; omega
  have hnf : ((1 : Int) != (d.n : Int)) = false := by simp; omega
  clear hn1
  by_cases hp1 : d.pn = 0
  rotate_left
  · have HNO : Hid (¬ NodeA d) := fun hh => hp1 (hh.p0 (by rw [HKV.out]; decide))
    have hpz : (0 : Int) < (d.pn : Int) := by omega
    clear hp1
    go_wp2_with fail
    go_ret
    exact CtrAns.no (aOk_no HNO.out) (HCq.out _).ct (HCq.out _).pa
  have HP0 : Hid (d.pn = 0) := hp1
  have hpz : ¬ (0 : Int) < (d.pn : Int) := by omega
  have hpz2 : ¬ (120 : Int) < (d.pn : Int) := by omega
  clear hp1
  by_cases ht1 : nt = 0
  rotate_left
  · have HNO : Hid (¬ NodeA d) := fun hh => ht1 (by rw [HNT.out]; exact tb_nil.1 (hh.t0 (by rw [HKV.out]; decide)))
    have htz : (0 : Int) < (nt : Int) := by omega
    clear ht1
    go_wp2_with fail
    go_ret
    exact CtrAns.no (aOk_no HNO.out) (HCq.out _).ct (HCq.out _).pa
  have HT0 : Hid (d.tb.length = 0) := (show d.tb.length = 0 by rw [← HNT.out]; exact ht1)
  have htz : ¬ (0 : Int) < (nt : Int) := by omega
  have htz2 : ¬ (8 : Int) < (nt : Int) := by omega
  clear ht1
  have EF := fun o => HEF.out (W1.alloc o) (L - 1) (HCq.out o).bl (HCq.out o).ct (by omega) (by omega)
  go_wp2_with fail
  refine (EF _).mono ?_
  rintro e w3 ⟨q3, L3, rfl, hq3, hL3, hc3, hp3⟩
  have HC3 : Hid (CS w0 w w3 g L3 [.int .i64 6, .slice d.pa d.pn d.pc, .int .i64 d.e.d.k, .int .i64 d.e.d.op, .slice d.e.d.v.a d.e.d.v.len d.e.d.v.cap, .int .i64 d.e.d.t.t.k, .slice d.e.d.t.t.a d.e.d.t.t.len d.e.d.t.t.cap, .int .i64 d.e.d.t.t.n, .int .i64 d.e.d.t.t.s, .slice d.e.d.ka d.e.d.n d.e.d.kc, .slice d.v.a d.v.len d.v.cap, .slice d.ta nt d.tc, .slice d.ka d.n d.kc]) := (HCq.out _).past hg hgw hp3 hc3
  clear EF hc3 hp3 HCq y0 y1 y11 y12 y10 y2 y3 y4 y5 y6 y7 y8 y9
  cases q3 with
  | false =>
    have HNO : Hid (¬ (aOk (.mk d kid) deep ∧ ((asz (.mk d kid) : Nat) : Int) ≤ L)) := fun hh => by
      have h1 := hh.1.2.1.e1 (by rw [HKV.out]; unfold hasE; omega)
      have h2 := HSZ.out
      have h3 := hh.2
      have h4 := hq3.2 ⟨h1, by omega⟩
      cases h4
    clear hq3 hL3
    go_wp2_with fail
    go_ret
    exact CtrAns.no HNO.out HC3.out.ct HC3.out.pa
  | true =>
    obtain ⟨h31, h32⟩ := hq3.1 rfl
    have h33 := hL3 rfl
    have HE1 : Hid (hasE d.k → eOk 120 d.e 1) := fun _ => h31
    have HE0 : Hid (¬ hasE d.k → zeroE d.e) := fun h => absurd (by rw [HKV.out]; unfold hasE; omega) h
    have HL3 : Hid (L3 = L - (1 + esz d.e : Nat)) := (show L3 = _ by omega)
    have hL30 : 0 ≤ L3 := by omega
    have hL31 : L3 ≤ 100000 := by omega
    clear h31 h32 h33 hq3 hL3
    have x10 := HC3.out.bx.2 10 _ rfl
    by_cases hv1 : d.v.len = 0
    · have HNO : Hid (¬ NodeA d) := fun hh => name_pos (hh.v1 (by rw [HKV.out]; unfold hasV; omega)) (HLV.out.2 hv1)
      have hvz : ¬ (0 : Int) < (d.v.len : Int) := by omega
      clear hv1
      go_wp2_with fail
      go_ret
      exact CtrAns.no (aOk_no HNO.out) HC3.out.ct HC3.out.pa
    have hvz : (0 : Int) < (d.v.len : Int) := by omega
    clear hv1
    have VR := HVR.out w3 HC3.out.bl
    go_wp2_with fail
    refine VR.mono ?_
    rintro e w4 ⟨q4, rfl, hq4, hb4⟩
    have HC3 : Hid (CS w0 w w4 g L3 [.int .i64 6, .slice d.pa d.pn d.pc, .int .i64 d.e.d.k, .int .i64 d.e.d.op, .slice d.e.d.v.a d.e.d.v.len d.e.d.v.cap, .int .i64 d.e.d.t.t.k, .slice d.e.d.t.t.a d.e.d.t.t.len d.e.d.t.t.cap, .int .i64 d.e.d.t.t.n, .int .i64 d.e.d.t.t.s, .slice d.e.d.ka d.e.d.n d.e.d.kc, .slice d.v.a d.v.len d.v.cap, .slice d.ta nt d.tc, .slice d.ka d.n d.kc]) := HC3.out.below HC3.out.bl.size hb4
    clear VR hb4 x10
    cases q4 with
    | false =>
      have HNO : Hid (¬ NodeA d) := fun hh => by
        have h4 := hq4.2 (hh.v1 (by rw [HKV.out]; unfold hasV; omega))
        cases h4
      clear hq4
      go_wp2_with fail
      go_ret
      exact CtrAns.no (aOk_no HNO.out) HC3.out.ct HC3.out.pa
    | true =>
      have HV1 : Hid (hasV d.k → nameOk d.v.b = true) := fun _ => hq4.1 rfl
      have HV0 : Hid (¬ hasV d.k → d.v.b = []) := fun h => absurd (by rw [HKV.out]; unfold hasV; omega) h
      clear hq4
      have x1 := HC3.out.bx.2 1 _ rfl
      have x11 := HC3.out.bx.2 11 _ rfl
      have x12 := HC3.out.bx.2 12 _ rfl
      have HPO : Hid (∀ i, i < d.pn → ptOk (d.pat i)) := fun i hi => absurd hi (by rw [HP0.out]; exact Nat.not_lt_zero _)
      have HTO : Hid (∀ x ∈ d.tb, x.td.ok = true) := fun x hx => absurd hx (by rw [tb_nil.2 HT0.out]; exact List.not_mem_nil)
      have HLe : Hid (L3 = L - (1 + esz d.e + d.pn : Nat)) := (show L3 = _ by have h1 := HL3.out; have h2 := HP0.out; omega)
      have HND : Hid (NodeA d) := ⟨by rw [HKV.out]; decide, by rw [HKV.out]; decide, by rw [HKV.out, HN.out]; rfl, fun _ => HP0.out, by rw [HP0.out]; omega, fun _ => tb_nil.2 HT0.out, by rw [HT0.out]; omega, HE1.out, HE0.out, HV1.out, HV0.out, HPO.out, HTO.out⟩
      obtain ⟨b, off, eK, _, hbk, hck⟩ := HKR.out.resolve_left (by rw [HN.out]; omega)
      have HCK : Hid (∀ i, i < d.n → ∀ c u, ((kid i).d.cells)[c]? = some u → w0.cell? ⟨b, off + i * 13 + c, none⟩ = some u) := hck
      have hbk' : b < w0.heap.size := hbk
      have HEK : Hid (d.ka = some ⟨b, off, none⟩) := eK
      clear eK hck hbk
      go_wp2_with fail
      refine wp_loop_rounds 1 ?_
      rw [rounds_succ]
      go_wp2_with fail
      refine wp_loop_rounds 1 ?_
      rw [rounds_succ]
      go_wp2_with fail
      clear x1 x11 x12
      go_loopw [12] (fun i wr => ∃ (k : Nat) (Lr : Int), k ≤ d.n ∧ i = .int .i64 k ∧ 0 ≤ Lr ∧ Lr ≤ 100000 ∧ Hid (Lr = L3 - (sumN k (fun i => asz (kid i)) : Nat)) ∧ Hid (∀ j, j < k → aOk (kid j) (deep + 1)) ∧ Hid (CS w0 w wr g Lr [.int .i64 6, .slice d.pa d.pn d.pc, .int .i64 d.e.d.k, .int .i64 d.e.d.op, .slice d.e.d.v.a d.e.d.v.len d.e.d.v.cap, .int .i64 d.e.d.t.t.k, .slice d.e.d.t.t.a d.e.d.t.t.len d.e.d.t.t.cap, .int .i64 d.e.d.t.t.n, .int .i64 d.e.d.t.t.s, .slice d.e.d.ka d.e.d.n d.e.d.kc, .slice d.v.a d.v.len d.v.cap, .slice d.ta nt d.tc, .slice d.ka d.n d.kc])) (fun i _ => d.n - (intOf i).toNat)
      case atStart => exact ⟨0, L3, Nat.zero_le _, rfl, by omega, by omega, (show L3 = L3 - ((0 : Nat) : Int) by omega), fun j hj => absurd hj (Nat.not_lt_zero _), HC3⟩
      case round =>
        clear HC3
        obtain ⟨k, Lr, hk, rfl, hLr0, hLr1, HLR, HOKS, HCr⟩ := hrel
        have x12 := HCr.out.bx.2 12 _ rfl
        have hn2 : d.n ≤ 2 := (show d.n ≤ 2 by rw [HN.out]; omega)
        by_cases hlk : k < d.n
        · have hlkz : (k : Int) < (d.n : Int) := by omega
          rw [HEK.out] at x12
          have hcx : wr.rangeAt b (off + k * 13) [.int .i64 (kid k).d.k, .slice (kid k).d.pa (kid k).d.pn (kid k).d.pc, .int .i64 (kid k).d.e.d.k, .int .i64 (kid k).d.e.d.op, .slice (kid k).d.e.d.v.a (kid k).d.e.d.v.len (kid k).d.e.d.v.cap, .int .i64 (kid k).d.e.d.t.t.k, .slice (kid k).d.e.d.t.t.a (kid k).d.e.d.t.t.len (kid k).d.e.d.t.t.cap, .int .i64 (kid k).d.e.d.t.t.n, .int .i64 (kid k).d.e.d.t.t.s, .slice (kid k).d.e.d.ka (kid k).d.e.d.n (kid k).d.e.d.kc, .slice (kid k).d.v.a (kid k).d.v.len (kid k).d.v.cap, .slice (kid k).d.ta (kid k).d.tb.length (kid k).d.tc, .slice (kid k).d.ka (kid k).d.n (kid k).d.kc] := fun c u hu => (HCr.out.bl.cell (p := ⟨b, off + k * 13 + c, none⟩) hbk').trans (HCK.out k hlk c u hu)
          have Z := HIH.out k hlk Lr wr HCr.out.bl HCr.out.ct hLr0 hLr1 hd10
          have hdw : IntKind.i64.wrap (deep + 1) = deep + 1 := by rw [IntKind.wrap_i64]; omega
          go_wp2_with (refine wpList_load_mid rfl 43 _ rfl b (off + k * 13) rfl [.int .i64 (kid k).d.k, .slice (kid k).d.pa (kid k).d.pn (kid k).d.pc, .int .i64 (kid k).d.e.d.k, .int .i64 (kid k).d.e.d.op, .slice (kid k).d.e.d.v.a (kid k).d.e.d.v.len (kid k).d.e.d.v.cap, .int .i64 (kid k).d.e.d.t.t.k, .slice (kid k).d.e.d.t.t.a (kid k).d.e.d.t.t.len (kid k).d.e.d.t.t.cap, .int .i64 (kid k).d.e.d.t.t.n, .int .i64 (kid k).d.e.d.t.t.s, .slice (kid k).d.e.d.ka (kid k).d.e.d.n (kid k).d.e.d.kc, .slice (kid k).d.v.a (kid k).d.v.len (kid k).d.v.cap, .slice (kid k).d.ta (kid k).d.tb.length (kid k).d.tc, .slice (kid k).d.ka (kid k).d.n (kid k).d.kc] _ hcx Try.underlying43 rfl (by kernel_rfl) ?_; try simp only [Act.put, List.setIfInBounds_toArray, List.set_cons_zero, List.set_cons_succ])
          refine Z.mono ?_
          rintro e w5 ⟨q5, L5, rfl, hq5, hL5, hc5, hp5⟩
          have HC5 : Hid (CS w0 w w5 g L5 [.int .i64 6, .slice d.pa d.pn d.pc, .int .i64 d.e.d.k, .int .i64 d.e.d.op, .slice d.e.d.v.a d.e.d.v.len d.e.d.v.cap, .int .i64 d.e.d.t.t.k, .slice d.e.d.t.t.a d.e.d.t.t.len d.e.d.t.t.cap, .int .i64 d.e.d.t.t.n, .int .i64 d.e.d.t.t.s, .slice d.e.d.ka d.e.d.n d.e.d.kc, .slice d.v.a d.v.len d.v.cap, .slice d.ta nt d.tc, .slice d.ka d.n d.kc]) := HCr.out.past hg hgw hp5 hc5
          clear Z hcx hc5 hp5 x12 HCr hdw
          have HS : Hid (sumN (k + 1) (fun i => asz (kid i)) = sumN k (fun i => asz (kid i)) + asz (kid k)) := rfl
          cases q5 with
          | false =>
            have HNO : Hid (¬ (aOk (.mk d kid) deep ∧ ((asz (.mk d kid) : Nat) : Int) ≤ L)) := fun hh => by
              have h1 := hh.1.2.2 k hlk
              have h2 := HSZ.out
              have h3 := sumN_mono (f := fun i => asz (kid i)) (show k + 1 ≤ d.n by omega)
              have h4 := HLR.out
              have h5 := HS.out
              have h6 := hh.2
              have h8 := HLe.out
              have h7 := hq5.2 ⟨h1, by omega⟩
              cases h7
            clear hq5 hL5
            go_wp2_with fail
            go_ret
            exact CtrAns.no HNO.out HC5.out.ct HC5.out.pa
          | true =>
            obtain ⟨h51, h52⟩ := hq5.1 rfl
            have h53 := hL5 rfl
            have HN5 : Hid (aOk (kid k) (deep + 1)) := h51
            have HL5 : Hid (L5 = L3 - (sumN (k + 1) (fun i => asz (kid i)) : Nat)) := (show L5 = _ by have h1 := HS.out; have h2 := HLR.out; omega)
            have hL50 : 0 ≤ L5 := by omega
            have hL51 : L5 ≤ 100000 := by omega
            clear h51 h52 h53 hq5 hL5
            go_wp2_with fail
            go_roundw
            case rel =>
              refine ⟨k + 1, L5, by omega, by go_num, hL50, hL51, HL5, fun j hj => ?_, HC5⟩
              by_cases e : j = k
              · subst e
                exact HN5.out
              · exact HOKS.out j (by omega)
            case measure => simp [intOf]; omega
        · obtain rfl : k = d.n := by omega
          have hlkz : ¬ (d.n : Int) < (d.n : Int) := by omega
          go_wp2_with fail
          go_ret
          have h2 := HSZ.out
          have h4 := HLR.out
          have h8 := HLe.out
          exact CtrAns.yes ⟨hd10, HND.out, fun i hi => HOKS.out i hi⟩ (by omega) (by omega) HCr.out.ct HCr.out.pa
end Go.Proofs.Ytpgbhkkdbkecoaa
