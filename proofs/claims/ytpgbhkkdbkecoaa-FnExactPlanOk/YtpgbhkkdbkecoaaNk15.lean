/- Texts put together: TrxA2 -/
import Derived.Test.YtpgbhkkdbkecoaaNk13
/- TrxA2 -/
namespace Go.Proofs.Ytpgbhkkdbkecoaa
open Go.RowKit Go.Deep
set_option maxRecDepth 100000

set_option maxHeartbeats 16000000 in
theorem l7planOk_2 (d : PN) (kid : Nat → PT) (hkv : d.k = 2) (deep L : Int) (g : Nat) (w0 w : World) (hl : (PT.mk d kid).lies 0 w0) (hw : Below w0.heap.size w0 w) (hg : w0.heap.size ≤ g) (hc : Ctr w g L) (hd0 : 0 ≤ deep) (hd1 : deep ≤ 100000) (hL0 : 0 ≤ L) (hL1 : L ≤ 100000)
    (IH : ∀ i, i < d.n → ∀ (L' : Int) (W : World), Below w0.heap.size w0 W → Ctr W g L' → 0 ≤ L' → L' ≤ 100000 → deep ≤ 480 → Calls Try.prog 36 #[.agg #[.int .i64 (kid i).d.k, .int .i64 (kid i).d.ord, .slice (kid i).d.p.s.v.a (kid i).d.p.s.v.len (kid i).d.p.s.v.cap, .int .i64 (kid i).d.p.s.t.t.k, .slice (kid i).d.p.s.t.t.a (kid i).d.p.s.t.t.len (kid i).d.p.s.t.t.cap, .int .i64 (kid i).d.p.s.t.t.n, .int .i64 (kid i).d.p.s.t.t.s, .slice (kid i).d.p.p.v.a (kid i).d.p.p.v.len (kid i).d.p.p.v.cap, .int .i64 (kid i).d.p.p.t.t.k, .slice (kid i).d.p.p.t.t.a (kid i).d.p.p.t.t.len (kid i).d.p.p.t.t.cap, .int .i64 (kid i).d.p.p.t.t.n, .int .i64 (kid i).d.p.p.t.t.s, .slice (kid i).d.p.o.v.a (kid i).d.p.o.v.len (kid i).d.p.o.v.cap, .int .i64 (kid i).d.p.o.t.t.k, .slice (kid i).d.p.o.t.t.a (kid i).d.p.o.t.t.len (kid i).d.p.o.t.t.cap, .int .i64 (kid i).d.p.o.t.t.n, .int .i64 (kid i).d.p.o.t.t.s, .int .i64 (kid i).d.e.d.k, .int .i64 (kid i).d.e.d.op, .slice (kid i).d.e.d.v.a (kid i).d.e.d.v.len (kid i).d.e.d.v.cap, .int .i64 (kid i).d.e.d.t.t.k, .slice (kid i).d.e.d.t.t.a (kid i).d.e.d.t.t.len (kid i).d.e.d.t.t.cap, .int .i64 (kid i).d.e.d.t.t.n, .int .i64 (kid i).d.e.d.t.t.s, .slice (kid i).d.e.d.ka (kid i).d.e.d.n (kid i).d.e.d.kc, .slice (kid i).d.v.a (kid i).d.v.len (kid i).d.v.cap, .slice (kid i).d.ta (kid i).d.tb.length (kid i).d.tc, .slice (kid i).d.ka (kid i).d.n (kid i).d.kc], .int .i64 (deep + 1), .pointer (some ⟨g, 0, none⟩)] W (CtrAns (pOk (kid i) (deep + 1)) (psz (kid i)) g L' W)) :
    Calls Try.prog 36 #[.agg #[.int .i64 d.k, .int .i64 d.ord, .slice d.p.s.v.a d.p.s.v.len d.p.s.v.cap, .int .i64 d.p.s.t.t.k, .slice d.p.s.t.t.a d.p.s.t.t.len d.p.s.t.t.cap, .int .i64 d.p.s.t.t.n, .int .i64 d.p.s.t.t.s, .slice d.p.p.v.a d.p.p.v.len d.p.p.v.cap, .int .i64 d.p.p.t.t.k, .slice d.p.p.t.t.a d.p.p.t.t.len d.p.p.t.t.cap, .int .i64 d.p.p.t.t.n, .int .i64 d.p.p.t.t.s, .slice d.p.o.v.a d.p.o.v.len d.p.o.v.cap, .int .i64 d.p.o.t.t.k, .slice d.p.o.t.t.a d.p.o.t.t.len d.p.o.t.t.cap, .int .i64 d.p.o.t.t.n, .int .i64 d.p.o.t.t.s, .int .i64 d.e.d.k, .int .i64 d.e.d.op, .slice d.e.d.v.a d.e.d.v.len d.e.d.v.cap, .int .i64 d.e.d.t.t.k, .slice d.e.d.t.t.a d.e.d.t.t.len d.e.d.t.t.cap, .int .i64 d.e.d.t.t.n, .int .i64 d.e.d.t.t.s, .slice d.e.d.ka d.e.d.n d.e.d.kc, .slice d.v.a d.v.len d.v.cap, .slice d.ta d.tb.length d.tc, .slice d.ka d.n d.kc], .int .i64 deep, .pointer (some ⟨g, 0, none⟩)] w (CtrAns (pOk (.mk d kid) deep) (psz (.mk d kid)) g L w) := by
  obtain ⟨hp, he, hv, ht, htn, hn, hR, hk⟩ := hl
  have hgw : g < w.heap.size := hc.lt
  have hsz : w0.heap.size ≤ w.heap.size := hw.size
  have HKV : Hid (d.k = 2) := hkv
  obtain ⟨nt, hnt⟩ : ∃ nt, nt = d.tb.length := ⟨_, rfl⟩
  have HNT : Hid (nt = d.tb.length) := hnt
  have HLV : Hid (d.v.b = [] ↔ d.v.len = 0) := nil_len hv.1.1
  have HVR : Hid (∀ W, Below w0.heap.size w0 W → Calls Try.prog 48 #[.slice d.v.a d.v.len d.v.cap] W (Tells (nameOk d.v.b = true) W)) := fun W hb => l4var_any d.v W (hv.upper (Upper.of_below hb))
  have HZE : Hid (∀ W, Below w0.heap.size w0 W → Calls Try.prog 47 #[.agg #[.int .i64 d.e.d.k, .int .i64 d.e.d.op, .slice d.e.d.v.a d.e.d.v.len d.e.d.v.cap, .int .i64 d.e.d.t.t.k, .slice d.e.d.t.t.a d.e.d.t.t.len d.e.d.t.t.cap, .int .i64 d.e.d.t.t.n, .int .i64 d.e.d.t.t.s, .slice d.e.d.ka d.e.d.n d.e.d.kc]] W (Tells (zeroE d.e) W)) := fun W hb => l4zeroExpr_any d.e W (ET.lies.upper (Upper.of_below hb) he)
  have HEF : Hid (∀ W L', Below w0.heap.size w0 W → Ctr W g L' → 0 ≤ L' → L' ≤ 100000 → Calls Try.prog 46 #[.agg #[.int .i64 d.e.d.k, .int .i64 d.e.d.op, .slice d.e.d.v.a d.e.d.v.len d.e.d.v.cap, .int .i64 d.e.d.t.t.k, .slice d.e.d.t.t.a d.e.d.t.t.len d.e.d.t.t.cap, .int .i64 d.e.d.t.t.n, .int .i64 d.e.d.t.t.s, .slice d.e.d.ka d.e.d.n d.e.d.kc], .int .i64 1, .pointer (some ⟨g, 0, none⟩)] W (CtrAns (eOk 120 d.e 1) (esz d.e) g L' W)) := fun W L' hb hc' h0 h1 => l5fits_any d.e 1 L' g w0 W he hb hg hc' (by omega) (by omega) h0 h1
  have HPT : Hid (∀ W, Below w0.heap.size w0 W → Calls Try.prog 49 #[.agg #[.slice d.p.s.v.a d.p.s.v.len d.p.s.v.cap, .int .i64 d.p.s.t.t.k, .slice d.p.s.t.t.a d.p.s.t.t.len d.p.s.t.t.cap, .int .i64 d.p.s.t.t.n, .int .i64 d.p.s.t.t.s, .slice d.p.p.v.a d.p.p.v.len d.p.p.v.cap, .int .i64 d.p.p.t.t.k, .slice d.p.p.t.t.a d.p.p.t.t.len d.p.p.t.t.cap, .int .i64 d.p.p.t.t.n, .int .i64 d.p.p.t.t.s, .slice d.p.o.v.a d.p.o.v.len d.p.o.v.cap, .int .i64 d.p.o.t.t.k, .slice d.p.o.t.t.a d.p.o.t.t.len d.p.o.t.t.cap, .int .i64 d.p.o.t.t.n, .int .i64 d.p.o.t.t.s]] W (Tells (ptOk d.p) W)) := fun W hb => l4pat_any d.p W (hp.upper (Upper.of_below hb))
  have HZP : Hid (∀ W, Below w0.heap.size w0 W → Calls Try.prog 62 #[.agg #[.slice d.p.s.v.a d.p.s.v.len d.p.s.v.cap, .int .i64 d.p.s.t.t.k, .slice d.p.s.t.t.a d.p.s.t.t.len d.p.s.t.t.cap, .int .i64 d.p.s.t.t.n, .int .i64 d.p.s.t.t.s, .slice d.p.p.v.a d.p.p.v.len d.p.p.v.cap, .int .i64 d.p.p.t.t.k, .slice d.p.p.t.t.a d.p.p.t.t.len d.p.p.t.t.cap, .int .i64 d.p.p.t.t.n, .int .i64 d.p.p.t.t.s, .slice d.p.o.v.a d.p.o.v.len d.p.o.v.cap, .int .i64 d.p.o.t.t.k, .slice d.p.o.t.t.a d.p.o.t.t.len d.p.o.t.t.cap, .int .i64 d.p.o.t.t.n, .int .i64 d.p.o.t.t.s]] W (Tells (zeroP d.p) W)) := fun W hb => l4zeroPat_any d.p W (hp.upper (Upper.of_below hb))
  have HTM : Hid (∀ x ∈ d.tb, ∀ W, Below w0.heap.size w0 W → Calls Try.prog 50 #[.agg #[.int .i64 x.t.k, .slice x.t.a x.t.len x.t.cap, .int .i64 x.t.n, .int .i64 x.t.s]] W (Tells (x.td.ok = true) W)) := fun x hx W hb => (specTermOk_any x.t.k x.t.n x.t.s x.t.a x.t.len x.t.cap x.b W ((ht.2.2 x hx).1.upper (Upper.of_below hb)).1 (ht.2.2 x hx).2.1 (ht.2.2 x hx).2.2.1).mono fun e w' ⟨h1, o, h2⟩ => by
    subst h1 h2
    exact Tells.of Iff.rfl (bl_a _)
  have HIH : Hid (∀ i, i < d.n → ∀ (L' : Int) (W : World), Below w0.heap.size w0 W → Ctr W g L' → 0 ≤ L' → L' ≤ 100000 → deep ≤ 480 → Calls Try.prog 36 #[.agg #[.int .i64 (kid i).d.k, .int .i64 (kid i).d.ord, .slice (kid i).d.p.s.v.a (kid i).d.p.s.v.len (kid i).d.p.s.v.cap, .int .i64 (kid i).d.p.s.t.t.k, .slice (kid i).d.p.s.t.t.a (kid i).d.p.s.t.t.len (kid i).d.p.s.t.t.cap, .int .i64 (kid i).d.p.s.t.t.n, .int .i64 (kid i).d.p.s.t.t.s, .slice (kid i).d.p.p.v.a (kid i).d.p.p.v.len (kid i).d.p.p.v.cap, .int .i64 (kid i).d.p.p.t.t.k, .slice (kid i).d.p.p.t.t.a (kid i).d.p.p.t.t.len (kid i).d.p.p.t.t.cap, .int .i64 (kid i).d.p.p.t.t.n, .int .i64 (kid i).d.p.p.t.t.s, .slice (kid i).d.p.o.v.a (kid i).d.p.o.v.len (kid i).d.p.o.v.cap, .int .i64 (kid i).d.p.o.t.t.k, .slice (kid i).d.p.o.t.t.a (kid i).d.p.o.t.t.len (kid i).d.p.o.t.t.cap, .int .i64 (kid i).d.p.o.t.t.n, .int .i64 (kid i).d.p.o.t.t.s, .int .i64 (kid i).d.e.d.k, .int .i64 (kid i).d.e.d.op, .slice (kid i).d.e.d.v.a (kid i).d.e.d.v.len (kid i).d.e.d.v.cap, .int .i64 (kid i).d.e.d.t.t.k, .slice (kid i).d.e.d.t.t.a (kid i).d.e.d.t.t.len (kid i).d.e.d.t.t.cap, .int .i64 (kid i).d.e.d.t.t.n, .int .i64 (kid i).d.e.d.t.t.s, .slice (kid i).d.e.d.ka (kid i).d.e.d.n (kid i).d.e.d.kc, .slice (kid i).d.v.a (kid i).d.v.len (kid i).d.v.cap, .slice (kid i).d.ta (kid i).d.tb.length (kid i).d.tc, .slice (kid i).d.ka (kid i).d.n (kid i).d.kc], .int .i64 (deep + 1), .pointer (some ⟨g, 0, none⟩)] W (CtrAns (pOk (kid i) (deep + 1)) (psz (kid i)) g L' W)) := IH
  have HTR : Hid (TRow w0 d.ta d.tb) := ht.1
  have HKR : Hid (KRow 0 w0 28 d.ka d.n (fun i => (kid i).d.cells)) := hR
  have HSZ : Hid (psz (.mk d kid) = 1 + esz d.e + sumN d.n (fun i => psz (kid i))) := (show psz (.mk d kid) = _ by rw [psz_mk]; unfold ownP; rw [hkv]; simp)
  have HCS : Hid (CS w0 w ((w.setCell ⟨g, 0, none⟩ (.int .i64 (L - 1))).alloc (.cells #[.int .i64 2, .int .i64 d.ord, .slice d.p.s.v.a d.p.s.v.len d.p.s.v.cap, .int .i64 d.p.s.t.t.k, .slice d.p.s.t.t.a d.p.s.t.t.len d.p.s.t.t.cap, .int .i64 d.p.s.t.t.n, .int .i64 d.p.s.t.t.s, .slice d.p.p.v.a d.p.p.v.len d.p.p.v.cap, .int .i64 d.p.p.t.t.k, .slice d.p.p.t.t.a d.p.p.t.t.len d.p.p.t.t.cap, .int .i64 d.p.p.t.t.n, .int .i64 d.p.p.t.t.s, .slice d.p.o.v.a d.p.o.v.len d.p.o.v.cap, .int .i64 d.p.o.t.t.k, .slice d.p.o.t.t.a d.p.o.t.t.len d.p.o.t.t.cap, .int .i64 d.p.o.t.t.n, .int .i64 d.p.o.t.t.s, .int .i64 d.e.d.k, .int .i64 d.e.d.op, .slice d.e.d.v.a d.e.d.v.len d.e.d.v.cap, .int .i64 d.e.d.t.t.k, .slice d.e.d.t.t.a d.e.d.t.t.len d.e.d.t.t.cap, .int .i64 d.e.d.t.t.n, .int .i64 d.e.d.t.t.s, .slice d.e.d.ka d.e.d.n d.e.d.kc, .slice d.v.a d.v.len d.v.cap, .slice d.ta nt d.tc, .slice d.ka d.n d.kc] 62)) g (L - 1) (cellsT d 2 nt)) := CS.new hw hg hc #[.int .i64 2, .int .i64 d.ord, .slice d.p.s.v.a d.p.s.v.len d.p.s.v.cap, .int .i64 d.p.s.t.t.k, .slice d.p.s.t.t.a d.p.s.t.t.len d.p.s.t.t.cap, .int .i64 d.p.s.t.t.n, .int .i64 d.p.s.t.t.s, .slice d.p.p.v.a d.p.p.v.len d.p.p.v.cap, .int .i64 d.p.p.t.t.k, .slice d.p.p.t.t.a d.p.p.t.t.len d.p.p.t.t.cap, .int .i64 d.p.p.t.t.n, .int .i64 d.p.p.t.t.s, .slice d.p.o.v.a d.p.o.v.len d.p.o.v.cap, .int .i64 d.p.o.t.t.k, .slice d.p.o.t.t.a d.p.o.t.t.len d.p.o.t.t.cap, .int .i64 d.p.o.t.t.n, .int .i64 d.p.o.t.t.s, .int .i64 d.e.d.k, .int .i64 d.e.d.op, .slice d.e.d.v.a d.e.d.v.len d.e.d.v.cap, .int .i64 d.e.d.t.t.k, .slice d.e.d.t.t.a d.e.d.t.t.len d.e.d.t.t.cap, .int .i64 d.e.d.t.t.n, .int .i64 d.e.d.t.t.s, .slice d.e.d.ka d.e.d.n d.e.d.kc, .slice d.v.a d.v.len d.v.cap, .slice d.ta nt d.tc, .slice d.ka d.n d.kc] 62 (L - 1)
  have c0 := fun o => ((bl_a (w := w) o).cell (p := ⟨g, 0, none⟩) hgw).trans hc.cell
  have f0 := fun o => ((bl_a (w := w) o).frozen (p := ⟨g, 0, none⟩) hgw).trans hc.fr
  have hwr : IntKind.i64.wrap (L - 1) = L - 1 := by rw [IntKind.wrap_i64]; omega
  rw [hkv, ← hnt]
  clear hp he hv ht htn hn hR hk hw hc IH hkv hnt
  go_enter Try.func36, Try.ntmps36
  go_upto_region 2 with fail
  generalize ((w.setCell ⟨g, 0, none⟩ (.int .i64 (L - 1))).alloc (.cells #[.int .i64 2, .int .i64 d.ord, .slice d.p.s.v.a d.p.s.v.len d.p.s.v.cap, .int .i64 d.p.s.t.t.k, .slice d.p.s.t.t.a d.p.s.t.t.len d.p.s.t.t.cap, .int .i64 d.p.s.t.t.n, .int .i64 d.p.s.t.t.s, .slice d.p.p.v.a d.p.p.v.len d.p.p.v.cap, .int .i64 d.p.p.t.t.k, .slice d.p.p.t.t.a d.p.p.t.t.len d.p.p.t.t.cap, .int .i64 d.p.p.t.t.n, .int .i64 d.p.p.t.t.s, .slice d.p.o.v.a d.p.o.v.len d.p.o.v.cap, .int .i64 d.p.o.t.t.k, .slice d.p.o.t.t.a d.p.o.t.t.len d.p.o.t.t.cap, .int .i64 d.p.o.t.t.n, .int .i64 d.p.o.t.t.s, .int .i64 d.e.d.k, .int .i64 d.e.d.op, .slice d.e.d.v.a d.e.d.v.len d.e.d.v.cap, .int .i64 d.e.d.t.t.k, .slice d.e.d.t.t.a d.e.d.t.t.len d.e.d.t.t.cap, .int .i64 d.e.d.t.t.n, .int .i64 d.e.d.t.t.s, .slice d.e.d.ka d.e.d.n d.e.d.kc, .slice d.v.a d.v.len d.v.cap, .slice d.ta nt d.tc, .slice d.ka d.n d.kc] 62)) = W1 at *
  clear c0 f0 hwr
  have hW1 : w0.heap.size ≤ W1.heap.size := HCS.out.bl.size
  have cg := HCS.out.ct.cell
  have x0 := HCS.out.bx.2 0 _ rfl
  have x1 := HCS.out.bx.2 1 _ rfl
  by_cases hLz : L - 1 < 0
  · have HNO : Hid (¬ (pOk (.mk d kid) deep ∧ ((psz (.mk d kid) : Nat) : Int) ≤ L)) := fun hh => by
      have h := hh.2
      have h2 := HSZ.out
      omega
    go_wp2_with fail
    go_ret
    exact CtrAns.no HNO.out HCS.out.ct HCS.out.pa
  by_cases hdz : deep > 480
  · have HNO : Hid (¬ (pOk (.mk d kid) deep ∧ ((psz (.mk d kid) : Nat) : Int) ≤ L)) := fun hh => by
      have h := hh.1.1
      omega
    go_wp2_with fail
    go_ret
    exact CtrAns.no HNO.out HCS.out.ct HCS.out.pa
  by_cases ho0 : d.ord < 0
  · have HNO : Hid (¬ NodeP d) := fun hh => by
      have h := hh.o0
      omega
    go_wp2_with fail
    go_ret
    exact CtrAns.no (pOk_no HNO.out) HCS.out.ct HCS.out.pa
  by_cases ho5 : d.ord > 5
  · have HNO : Hid (¬ NodeP d) := fun hh => by
      have h := hh.o5
      omega
    go_wp2_with fail
    go_ret
    exact CtrAns.no (pOk_no HNO.out) HCS.out.ct HCS.out.pa
  have hd10 : deep ≤ 480 := by omega
  have HO0 : Hid (0 ≤ d.ord) := (show 0 ≤ d.ord by omega)
  have HO5 : Hid (d.ord ≤ 5) := (show d.ord ≤ 5 by omega)
  have HCq : Hid (∀ o, CS w0 w (W1.alloc o) g (L - 1) (cellsT d 2 nt)) := fun o => HCS.out.below hW1 (bl_a o)
  have y0 := fun o => (HCq.out o).bx.2 0 _ rfl
  have y1 := fun o => (HCq.out o).bx.2 1 _ rfl
  have y26 := fun o => (HCq.out o).bx.2 26 _ rfl
  have y27 := fun o => (HCq.out o).bx.2 27 _ rfl
  have y2 := fun o => (HCq.out o).bx.2 2 _ rfl
  have y3 := fun o => (HCq.out o).bx.2 3 _ rfl
  have y4 := fun o => (HCq.out o).bx.2 4 _ rfl
  have y5 := fun o => (HCq.out o).bx.2 5 _ rfl
  have y6 := fun o => (HCq.out o).bx.2 6 _ rfl
  have y7 := fun o => (HCq.out o).bx.2 7 _ rfl
  have y8 := fun o => (HCq.out o).bx.2 8 _ rfl
  have y9 := fun o => (HCq.out o).bx.2 9 _ rfl
  have y10 := fun o => (HCq.out o).bx.2 10 _ rfl
  have y11 := fun o => (HCq.out o).bx.2 11 _ rfl
  have y12 := fun o => (HCq.out o).bx.2 12 _ rfl
  have y13 := fun o => (HCq.out o).bx.2 13 _ rfl
  have y14 := fun o => (HCq.out o).bx.2 14 _ rfl
  have y15 := fun o => (HCq.out o).bx.2 15 _ rfl
  have y16 := fun o => (HCq.out o).bx.2 16 _ rfl
  by_cases hn1 : d.n = 2
  rotate_left
  · have HNO : Hid (¬ NodeP d) := fun hh => hn1 (by have h := hh.n; rw [HKV.out] at h; exact h)
    have hne : ((2 : Int) == (d.n : Int)) = false := by simp; omega
    have hnf : ((2 : Int) != (d.n : Int)) = true := by simp; omega
    clear hn1
    go_wp2_with fail
    go_ret
    exact CtrAns.no (pOk_no HNO.out) (HCq.out _).ct (HCq.out _).pa
  have HN : Hid (d.n = 2) := hn1
  have hne : ((2 : Int) == (d.n : Int)) = true := by simp; omega
  have hnf : ((2 : Int) != (d.n : Int)) = false := by simp; omega
  clear hn1
  have ZP := fun o => HZP.out (W1.alloc o) (HCq.out o).bl
  go_wp2_with fail
  refine (ZP _).mono ?_
  rintro e w2 ⟨q2, rfl, hq2, hb2⟩
  have HC2 : Hid (CS w0 w w2 g (L - 1) (cellsT d 2 nt)) := (HCq.out _).below (HCq.out _).bl.size hb2
  clear ZP hb2 HCq y0 y1 y26 y27 y2 y3 y4 y5 y6 y7 y8 y9 y10 y11 y12 y13 y14 y15 y16 x0 x1 cg
  cases q2 with
  | false =>
    have HNO : Hid (¬ NodeP d) := fun hh => by
      have h4 := hq2.2 (hh.p0 (by rw [HKV.out]; decide))
      cases h4
    clear hq2
    go_wp2_with fail
    go_ret
    exact CtrAns.no (pOk_no HNO.out) HC2.out.ct HC2.out.pa
  | true =>
    have HP0 : Hid (d.k ≠ 0 → zeroP d.p) := fun _ => hq2.1 rfl
    have HP1 : Hid (d.k = 0 → ptOk d.p) := fun h => absurd h (by rw [HKV.out]; decide)
    clear hq2
    have y0 := HC2.out.bx.2 0 _ rfl
    have y1 := HC2.out.bx.2 1 _ rfl
    have y26 := HC2.out.bx.2 26 _ rfl
    have y27 := HC2.out.bx.2 27 _ rfl
    by_cases hoz : d.ord = 0
    rotate_left
    · have HNO : Hid (¬ NodeP d) := fun hh => hoz (hh.oz (by rw [HKV.out]; decide))
      have hoe : (d.ord == (0 : Int)) = false := by simp; omega
      have hof : (d.ord != (0 : Int)) = true := by simp; omega
      clear hoz
      go_wp2_with fail
      go_ret
      exact CtrAns.no (pOk_no HNO.out) HC2.out.ct HC2.out.pa
    have HOZ : Hid (d.k ≠ 0 → d.ord = 0) := fun _ => hoz
    have hoe : (d.ord == (0 : Int)) = true := by simp; omega
    have hof : (d.ord != (0 : Int)) = false := by simp; omega
    clear hoz
    by_cases ht1 : nt = 0
    rotate_left
    · have HNO : Hid (¬ NodeP d) := fun hh => ht1 (by rw [HNT.out]; exact tb_nil.1 (hh.t0 (by rw [HKV.out]; decide)))
      have htz : (0 : Int) < (nt : Int) := by omega
      clear ht1
      go_wp2_with fail
      go_ret
      exact CtrAns.no (pOk_no HNO.out) HC2.out.ct HC2.out.pa
    have HT0 : Hid (d.tb.length = 0) := (show d.tb.length = 0 by rw [← HNT.out]; exact ht1)
    have htz : ¬ (0 : Int) < (nt : Int) := by omega
    have htz2 : ¬ (8 : Int) < (nt : Int) := by omega
    clear ht1
    have y17 := HC2.out.bx.2 17 _ rfl
    have y18 := HC2.out.bx.2 18 _ rfl
    have y19 := HC2.out.bx.2 19 _ rfl
    have y20 := HC2.out.bx.2 20 _ rfl
    have y21 := HC2.out.bx.2 21 _ rfl
    have y22 := HC2.out.bx.2 22 _ rfl
    have y23 := HC2.out.bx.2 23 _ rfl
    have y24 := HC2.out.bx.2 24 _ rfl
    have EF := HEF.out w2 (L - 1) HC2.out.bl HC2.out.ct (by omega) (by omega)
    go_wp2_with fail
    refine EF.mono ?_
    rintro e w3 ⟨q3, L3, rfl, hq3, hL3, hc3, hp3⟩
    have HC3 : Hid (CS w0 w w3 g L3 (cellsT d 2 nt)) := HC2.out.past hg hgw hp3 hc3
    clear EF hc3 hp3 HC2 y0 y1 y26 y27 y17 y18 y19 y20 y21 y22 y23 y24
    cases q3 with
    | false =>
      have HNO : Hid (¬ (pOk (.mk d kid) deep ∧ ((psz (.mk d kid) : Nat) : Int) ≤ L)) := fun hh => by
        have h1 := hh.1.2.1.e1 (by rw [HKV.out]; unfold hasE; omega)
        have h2 := HSZ.out
        have h3 := hh.2
        have h4 := hq3.2 ⟨h1, by omega⟩
        cases h4
      clear hq3 hL3
      go_wp2_with fail
      go_ret
      exact CtrAns.no HNO.out HC3.out.ct HC3.out.pa
    | true =>
      obtain ⟨h31, h32⟩ := hq3.1 rfl
      have h33 := hL3 rfl
      have HE1 : Hid (hasE d.k → eOk 120 d.e 1) := fun _ => h31
      have HE0 : Hid (¬ hasE d.k → zeroE d.e) := fun h => absurd (by rw [HKV.out]; unfold hasE; omega) h
      have HL3 : Hid (L3 = L - (1 + esz d.e : Nat)) := (show L3 = _ by omega)
      have hL30 : 0 ≤ L3 := by omega
      have hL31 : L3 ≤ 100000 := by omega
      clear h31 h32 h33 hq3 hL3
      have x25 := HC3.out.bx.2 25 _ rfl
      by_cases hv1 : d.v.len = 0
      rotate_left
      · have HNO : Hid (¬ NodeP d) := fun hh => hv1 (HLV.out.1 (hh.v0 (by rw [HKV.out]; unfold hasV; omega)))
        have hvz : (0 : Int) < (d.v.len : Int) := by omega
        clear hv1
        go_wp2_with fail
        go_ret
        exact CtrAns.no (pOk_no HNO.out) HC3.out.ct HC3.out.pa
      have HV1 : Hid (hasV d.k → nameOk d.v.b = true) := fun h => absurd h (by rw [HKV.out]; unfold hasV; omega)
      have HV0 : Hid (¬ hasV d.k → d.v.b = []) := fun _ => HLV.out.2 hv1
      have hvz : ¬ (0 : Int) < (d.v.len : Int) := by omega
      clear hv1
      have x26 := HC3.out.bx.2 26 _ rfl
      have x27 := HC3.out.bx.2 27 _ rfl
      have HTO : Hid (∀ x ∈ d.tb, x.td.ok = true) := fun x hx => absurd hx (by rw [tb_nil.2 HT0.out]; exact List.not_mem_nil)
      have HND : Hid (NodeP d) := ⟨by rw [HKV.out]; decide, by rw [HKV.out]; decide, HO0.out, HO5.out, by rw [HKV.out, HN.out]; rfl, HP1.out, HP0.out, HOZ.out, fun _ => tb_nil.2 HT0.out, by rw [HT0.out]; omega, HE1.out, HE0.out, HV1.out, HV0.out, HTO.out⟩
      obtain ⟨b, off, eK, _, hbk, hck⟩ := HKR.out.resolve_left (by rw [HN.out]; omega)
      have HCK : Hid (∀ i, i < d.n → ∀ c u, ((kid i).d.cells)[c]? = some u → w0.cell? ⟨b, off + i * 28 + c, none⟩ = some u) := hck
      have hbk' : b < w0.heap.size := hbk
      have HEK : Hid (d.ka = some ⟨b, off, none⟩) := eK
      clear eK hck hbk
      go_wp2_with fail
      refine wp_loop_rounds 1 ?_
      rw [rounds_succ]
      go_wp2_with fail
      clear x26 x27 x25
      go_loopw [11] (fun i wr => ∃ (k : Nat) (Lr : Int), k ≤ d.n ∧ i = .int .i64 k ∧ 0 ≤ Lr ∧ Lr ≤ 100000 ∧ Hid (Lr = L3 - (sumN k (fun i => psz (kid i)) : Nat)) ∧ Hid (∀ j, j < k → pOk (kid j) (deep + 1)) ∧ Hid (CS w0 w wr g Lr (cellsT d 2 nt))) (fun i _ => d.n - (intOf i).toNat)
      case atStart => exact ⟨0, L3, Nat.zero_le _, rfl, by omega, by omega, (show L3 = L3 - ((0 : Nat) : Int) by omega), fun j hj => absurd hj (Nat.not_lt_zero _), HC3⟩
      case round =>
        clear HC3
        obtain ⟨k, Lr, hk, rfl, hLr0, hLr1, HLR, HOKS, HCr⟩ := hrel
        have x27 := HCr.out.bx.2 27 _ rfl
        have hn2 : d.n ≤ 2 := (show d.n ≤ 2 by rw [HN.out]; omega)
        by_cases hlk : k < d.n
        · have hlkz : (k : Int) < (d.n : Int) := by omega
          rw [HEK.out] at x27
          have hcx : wr.rangeAt b (off + k * 28) [.int .i64 (kid k).d.k, .int .i64 (kid k).d.ord, .slice (kid k).d.p.s.v.a (kid k).d.p.s.v.len (kid k).d.p.s.v.cap, .int .i64 (kid k).d.p.s.t.t.k, .slice (kid k).d.p.s.t.t.a (kid k).d.p.s.t.t.len (kid k).d.p.s.t.t.cap, .int .i64 (kid k).d.p.s.t.t.n, .int .i64 (kid k).d.p.s.t.t.s, .slice (kid k).d.p.p.v.a (kid k).d.p.p.v.len (kid k).d.p.p.v.cap, .int .i64 (kid k).d.p.p.t.t.k, .slice (kid k).d.p.p.t.t.a (kid k).d.p.p.t.t.len (kid k).d.p.p.t.t.cap, .int .i64 (kid k).d.p.p.t.t.n, .int .i64 (kid k).d.p.p.t.t.s, .slice (kid k).d.p.o.v.a (kid k).d.p.o.v.len (kid k).d.p.o.v.cap, .int .i64 (kid k).d.p.o.t.t.k, .slice (kid k).d.p.o.t.t.a (kid k).d.p.o.t.t.len (kid k).d.p.o.t.t.cap, .int .i64 (kid k).d.p.o.t.t.n, .int .i64 (kid k).d.p.o.t.t.s, .int .i64 (kid k).d.e.d.k, .int .i64 (kid k).d.e.d.op, .slice (kid k).d.e.d.v.a (kid k).d.e.d.v.len (kid k).d.e.d.v.cap, .int .i64 (kid k).d.e.d.t.t.k, .slice (kid k).d.e.d.t.t.a (kid k).d.e.d.t.t.len (kid k).d.e.d.t.t.cap, .int .i64 (kid k).d.e.d.t.t.n, .int .i64 (kid k).d.e.d.t.t.s, .slice (kid k).d.e.d.ka (kid k).d.e.d.n (kid k).d.e.d.kc, .slice (kid k).d.v.a (kid k).d.v.len (kid k).d.v.cap, .slice (kid k).d.ta (kid k).d.tb.length (kid k).d.tc, .slice (kid k).d.ka (kid k).d.n (kid k).d.kc] := fun c u hu => (HCr.out.bl.cell (p := ⟨b, off + k * 28 + c, none⟩) hbk').trans (HCK.out k hlk c u hu)
          have Z := HIH.out k hlk Lr wr HCr.out.bl HCr.out.ct hLr0 hLr1 hd10
          have hdw : IntKind.i64.wrap (deep + 1) = deep + 1 := by rw [IntKind.wrap_i64]; omega
          go_wp2_with (with_reducible refine wpq_at ?_; refine wpList_load_mid rfl 62 _ rfl b (off + k * 28) rfl [.int .i64 (kid k).d.k, .int .i64 (kid k).d.ord, .slice (kid k).d.p.s.v.a (kid k).d.p.s.v.len (kid k).d.p.s.v.cap, .int .i64 (kid k).d.p.s.t.t.k, .slice (kid k).d.p.s.t.t.a (kid k).d.p.s.t.t.len (kid k).d.p.s.t.t.cap, .int .i64 (kid k).d.p.s.t.t.n, .int .i64 (kid k).d.p.s.t.t.s, .slice (kid k).d.p.p.v.a (kid k).d.p.p.v.len (kid k).d.p.p.v.cap, .int .i64 (kid k).d.p.p.t.t.k, .slice (kid k).d.p.p.t.t.a (kid k).d.p.p.t.t.len (kid k).d.p.p.t.t.cap, .int .i64 (kid k).d.p.p.t.t.n, .int .i64 (kid k).d.p.p.t.t.s, .slice (kid k).d.p.o.v.a (kid k).d.p.o.v.len (kid k).d.p.o.v.cap, .int .i64 (kid k).d.p.o.t.t.k, .slice (kid k).d.p.o.t.t.a (kid k).d.p.o.t.t.len (kid k).d.p.o.t.t.cap, .int .i64 (kid k).d.p.o.t.t.n, .int .i64 (kid k).d.p.o.t.t.s, .int .i64 (kid k).d.e.d.k, .int .i64 (kid k).d.e.d.op, .slice (kid k).d.e.d.v.a (kid k).d.e.d.v.len (kid k).d.e.d.v.cap, .int .i64 (kid k).d.e.d.t.t.k, .slice (kid k).d.e.d.t.t.a (kid k).d.e.d.t.t.len (kid k).d.e.d.t.t.cap, .int .i64 (kid k).d.e.d.t.t.n, .int .i64 (kid k).d.e.d.t.t.s, .slice (kid k).d.e.d.ka (kid k).d.e.d.n (kid k).d.e.d.kc, .slice (kid k).d.v.a (kid k).d.v.len (kid k).d.v.cap, .slice (kid k).d.ta (kid k).d.tb.length (kid k).d.tc, .slice (kid k).d.ka (kid k).d.n (kid k).d.kc] _ hcx Try.underlying62 rfl (by kernel_rfl) ?_; try simp only [Act.put, List.setIfInBounds_toArray, List.set_cons_zero, List.set_cons_succ])
          refine Z.mono ?_
          rintro e w5 ⟨q5, L5, rfl, hq5, hL5, hc5, hp5⟩
          have HC5 : Hid (CS w0 w w5 g L5 (cellsT d 2 nt)) := HCr.out.past hg hgw hp5 hc5
          clear Z hcx hc5 hp5 x27 HCr hdw
          have HS : Hid (sumN (k + 1) (fun i => psz (kid i)) = sumN k (fun i => psz (kid i)) + psz (kid k)) := rfl
          cases q5 with
          | false =>
            have HNO : Hid (¬ (pOk (.mk d kid) deep ∧ ((psz (.mk d kid) : Nat) : Int) ≤ L)) := fun hh => by
              have h1 := hh.1.2.2 k hlk
              have h2 := HSZ.out
              have h3 := sumN_mono (f := fun i => psz (kid i)) (show k + 1 ≤ d.n by omega)
              have h4 := HLR.out
              have h5 := HS.out
              have h6 := hh.2
              have h8 := HL3.out
              have h7 := hq5.2 ⟨h1, by omega⟩
              cases h7
            clear hq5 hL5
            go_wp2_with fail
            go_ret
            exact CtrAns.no HNO.out HC5.out.ct HC5.out.pa
          | true =>
            obtain ⟨h51, h52⟩ := hq5.1 rfl
            have h53 := hL5 rfl
            have HN5 : Hid (pOk (kid k) (deep + 1)) := h51
            have HL5 : Hid (L5 = L3 - (sumN (k + 1) (fun i => psz (kid i)) : Nat)) := (show L5 = _ by have h1 := HS.out; have h2 := HLR.out; omega)
            have hL50 : 0 ≤ L5 := by omega
            have hL51 : L5 ≤ 100000 := by omega
            clear h51 h52 h53 hq5 hL5
            go_wp2_with fail
            go_roundw
            case rel =>
              refine ⟨k + 1, L5, by omega, by go_num, hL50, hL51, HL5, fun j hj => ?_, HC5⟩
              by_cases e : j = k
              · subst e
                exact HN5.out
              · exact HOKS.out j (by omega)
            case measure => simp [intOf]; omega
        · obtain rfl : k = d.n := by omega
          have hlkz : ¬ (d.n : Int) < (d.n : Int) := by omega
          go_wp2_with fail
          go_ret
          have h2 := HSZ.out
          have h4 := HLR.out
          have h8 := HL3.out
          exact CtrAns.yes ⟨hd10, HND.out, fun i hi => HOKS.out i hi⟩ (by omega) (by omega) HCr.out.ct HCr.out.pa
end Go.Proofs.Ytpgbhkkdbkecoaa
