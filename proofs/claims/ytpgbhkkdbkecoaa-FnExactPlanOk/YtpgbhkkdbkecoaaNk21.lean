/- Texts put together: TrxA8 TrxB -/
import Derived.Test.YtpgbhkkdbkecoaaNk13
import Derived.Test.YtpgbhkkdbkecoaaNk14
import Derived.Test.YtpgbhkkdbkecoaaNk15
import Derived.Test.YtpgbhkkdbkecoaaNk16
import Derived.Test.YtpgbhkkdbkecoaaNk17
import Derived.Test.YtpgbhkkdbkecoaaNk18
import Derived.Test.YtpgbhkkdbkecoaaNk19
import Derived.Test.YtpgbhkkdbkecoaaNk20
/- TrxA8 -/
namespace Go.Proofs.Ytpgbhkkdbkecoaa
open Go.RowKit Go.Deep
set_option maxRecDepth 100000

set_option maxHeartbeats 16000000 in
theorem l7planOk_8 (d : PN) (kid : Nat → PT) (hkv : d.k = 8) (deep L : Int) (g : Nat) (w0 w : World) (hl : (PT.mk d kid).lies 0 w0) (hw : Below w0.heap.size w0 w) (hg : w0.heap.size ≤ g) (hc : Ctr w g L) (hd0 : 0 ≤ deep) (hd1 : deep ≤ 100000) (hL0 : 0 ≤ L) (hL1 : L ≤ 100000)
    (IH : ∀ i, i < d.n → ∀ (L' : Int) (W : World), Below w0.heap.size w0 W → Ctr W g L' → 0 ≤ L' → L' ≤ 100000 → deep ≤ 480 → Calls Try.prog 36 #[.agg #[.int .i64 (kid i).d.k, .int .i64 (kid i).d.ord, .slice (kid i).d.p.s.v.a (kid i).d.p.s.v.len (kid i).d.p.s.v.cap, .int .i64 (kid i).d.p.s.t.t.k, .slice (kid i).d.p.s.t.t.a (kid i).d.p.s.t.t.len (kid i).d.p.s.t.t.cap, .int .i64 (kid i).d.p.s.t.t.n, .int .i64 (kid i).d.p.s.t.t.s, .slice (kid i).d.p.p.v.a (kid i).d.p.p.v.len (kid i).d.p.p.v.cap, .int .i64 (kid i).d.p.p.t.t.k, .slice (kid i).d.p.p.t.t.a (kid i).d.p.p.t.t.len (kid i).d.p.p.t.t.cap, .int .i64 (kid i).d.p.p.t.t.n, .int .i64 (kid i).d.p.p.t.t.s, .slice (kid i).d.p.o.v.a (kid i).d.p.o.v.len (kid i).d.p.o.v.cap, .int .i64 (kid i).d.p.o.t.t.k, .slice (kid i).d.p.o.t.t.a (kid i).d.p.o.t.t.len (kid i).d.p.o.t.t.cap, .int .i64 (kid i).d.p.o.t.t.n, .int .i64 (kid i).d.p.o.t.t.s, .int .i64 (kid i).d.e.d.k, .int .i64 (kid i).d.e.d.op, .slice (kid i).d.e.d.v.a (kid i).d.e.d.v.len (kid i).d.e.d.v.cap, .int .i64 (kid i).d.e.d.t.t.k, .slice (kid i).d.e.d.t.t.a (kid i).d.e.d.t.t.len (kid i).d.e.d.t.t.cap, .int .i64 (kid i).d.e.d.t.t.n, .int .i64 (kid i).d.e.d.t.t.s, .slice (kid i).d.e.d.ka (kid i).d.e.d.n (kid i).d.e.d.kc, .slice (kid i).d.v.a (kid i).d.v.len (kid i).d.v.cap, .slice (kid i).d.ta (kid i).d.tb.length (kid i).d.tc, .slice (kid i).d.ka (kid i).d.n (kid i).d.kc], .int .i64 (deep + 1), .pointer (some ⟨g, 0, none⟩)] W (CtrAns (pOk (kid i) (deep + 1)) (psz (kid i)) g L' W)) :
    Calls Try.prog 36 #[.agg #[.int .i64 d.k, .int .i64 d.ord, .slice d.p.s.v.a d.p.s.v.len d.p.s.v.cap, .int .i64 d.p.s.t.t.k, .slice d.p.s.t.t.a d.p.s.t.t.len d.p.s.t.t.cap, .int .i64 d.p.s.t.t.n, .int .i64 d.p.s.t.t.s, .slice d.p.p.v.a d.p.p.v.len d.p.p.v.cap, .int .i64 d.p.p.t.t.k, .slice d.p.p.t.t.a d.p.p.t.t.len d.p.p.t.t.cap, .int .i64 d.p.p.t.t.n, .int .i64 d.p.p.t.t.s, .slice d.p.o.v.a d.p.o.v.len d.p.o.v.cap, .int .i64 d.p.o.t.t.k, .slice d.p.o.t.t.a d.p.o.t.t.len d.p.o.t.t.cap, .int .i64 d.p.o.t.t.n, .int .i64 d.p.o.t.t.s, .int .i64 d.e.d.k, .int .i64 d.e.d.op, .slice d.e.d.v.a d.e.d.v.len d.e.d.v.cap, .int .i64 d.e.d.t.t.k, .slice d.e.d.t.t.a d.e.d.t.t.len d.e.d.t.t.cap, .int .i64 d.e.d.t.t.n, .int .i64 d.e.d.t.t.s, .slice d.e.d.ka d.e.d.n d.e.d.kc, .slice d.v.a d.v.len d.v.cap, .slice d.ta d.tb.length d.tc, .slice d.ka d.n d.kc], .int .i64 deep, .pointer (some ⟨g, 0, none⟩)] w (CtrAns (pOk (.mk d kid) deep) (psz (.mk d kid)) g L w) := by
  obtain ⟨hp, he, hv, ht, htn, hn, hR, hk⟩ := hl
  have hgw : g < w.heap.size := hc.lt
  have hsz : w0.heap.size ≤ w.heap.size := hw.size
  have HKV : Hid (d.k = 8) := hkv
  obtain ⟨nt, hnt⟩ : ∃ nt, nt = d.tb.length := ⟨_, rfl⟩
  have HNT : Hid (nt = d.tb.length) := hnt
  have HLV : Hid (d.v.b = [] ↔ d.v.len = 0) := nil_len hv.1.1
  have HVR : Hid (∀ W, Below w0.heap.size w0 W → Calls Try.prog 48 #[.slice d.v.a d.v.len d.v.cap] W (Tells (nameOk d.v.b = true) W)) := fun W hb => l4var_any d.v W (hv.upper (Upper.of_below hb))
  have HZE : Hid (∀ W, Below w0.heap.size w0 W → Calls Try.prog 47 #[.agg #[.int .i64 d.e.d.k, .int .i64 d.e.d.op, .slice d.e.d.v.a d.e.d.v.len d.e.d.v.cap, .int .i64 d.e.d.t.t.k, .slice d.e.d.t.t.a d.e.d.t.t.len d.e.d.t.t.cap, .int .i64 d.e.d.t.t.n, .int .i64 d.e.d.t.t.s, .slice d.e.d.ka d.e.d.n d.e.d.kc]] W (Tells (zeroE d.e) W)) := fun W hb => l4zeroExpr_any d.e W (ET.lies.upper (Upper.of_below hb) he)
  have HEF : Hid (∀ W L', Below w0.heap.size w0 W → Ctr W g L' → 0 ≤ L' → L' ≤ 100000 → Calls Try.prog 46 #[.agg #[.int .i64 d.e.d.k, .int .i64 d.e.d.op, .slice d.e.d.v.a d.e.d.v.len d.e.d.v.cap, .int .i64 d.e.d.t.t.k, .slice d.e.d.t.t.a d.e.d.t.t.len d.e.d.t.t.cap, .int .i64 d.e.d.t.t.n, .int .i64 d.e.d.t.t.s, .slice d.e.d.ka d.e.d.n d.e.d.kc], .int .i64 1, .pointer (some ⟨g, 0, none⟩)] W (CtrAns (eOk 120 d.e 1) (esz d.e) g L' W)) := fun W L' hb hc' h0 h1 => l5fits_any d.e 1 L' g w0 W he hb hg hc' (by omega) (by omega) h0 h1
  have HPT : Hid (∀ W, Below w0.heap.size w0 W → Calls Try.prog 49 #[.agg #[.slice d.p.s.v.a d.p.s.v.len d.p.s.v.cap, .int .i64 d.p.s.t.t.k, .slice d.p.s.t.t.a d.p.s.t.t.len d.p.s.t.t.cap, .int .i64 d.p.s.t.t.n, .int .i64 d.p.s.t.t.s, .slice d.p.p.v.a d.p.p.v.len d.p.p.v.cap, .int .i64 d.p.p.t.t.k, .slice d.p.p.t.t.a d.p.p.t.t.len d.p.p.t.t.cap, .int .i64 d.p.p.t.t.n, .int .i64 d.p.p.t.t.s, .slice d.p.o.v.a d.p.o.v.len d.p.o.v.cap, .int .i64 d.p.o.t.t.k, .slice d.p.o.t.t.a d.p.o.t.t.len d.p.o.t.t.cap, .int .i64 d.p.o.t.t.n, .int .i64 d.p.o.t.t.s]] W (Tells (ptOk d.p) W)) := fun W hb => l4pat_any d.p W (hp.upper (Upper.of_below hb))
  have HZP : Hid (∀ W, Below w0.heap.size w0 W → Calls Try.prog 62 #[.agg #[.slice d.p.s.v.a d.p.s.v.len d.p.s.v.cap, .int .i64 d.p.s.t.t.k, .slice d.p.s.t.t.a d.p.s.t.t.len d.p.s.t.t.cap, .int .i64 d.p.s.t.t.n, .int .i64 d.p.s.t.t.s, .slice d.p.p.v.a d.p.p.v.len d.p.p.v.cap, .int .i64 d.p.p.t.t.k, .slice d.p.p.t.t.a d.p.p.t.t.len d.p.p.t.t.cap, .int .i64 d.p.p.t.t.n, .int .i64 d.p.p.t.t.s, .slice d.p.o.v.a d.p.o.v.len d.p.o.v.cap, .int .i64 d.p.o.t.t.k, .slice d.p.o.t.t.a d.p.o.t.t.len d.p.o.t.t.cap, .int .i64 d.p.o.t.t.n, .int .i64 d.p.o.t.t.s]] W (Tells (zeroP d.p) W)) := fun W hb => l4zeroPat_any d.p W (hp.upper (Upper.of_below hb))
  have HTM : Hid (∀ x ∈ d.tb, ∀ W, Below w0.heap.size w0 W → Calls Try.prog 50 #[.agg #[.int .i64 x.t.k, .slice x.t.a x.t.len x.t.cap, .int .i64 x.t.n, .int .i64 x.t.s]] W (Tells (x.td.ok = true) W)) := fun x hx W hb => (specTermOk_any x.t.k x.t.n x.t.s x.t.a x.t.len x.t.cap x.b W ((ht.2.2 x hx).1.upper (Upper.of_below hb)).1 (ht.2.2 x hx).2.1 (ht.2.2 x hx).2.2.1).mono fun e w' ⟨h1, o, h2⟩ => by
    subst h1 h2
    exact Tells.of Iff.rfl (bl_a _)
  have HIH : Hid (∀ i, i < d.n → ∀ (L' : Int) (W : World), Below w0.heap.size w0 W → Ctr W g L' → 0 ≤ L' → L' ≤ 100000 → deep ≤ 480 → Calls Try.prog 36 #[.agg #[.int .i64 (kid i).d.k, .int .i64 (kid i).d.ord, .slice (kid i).d.p.s.v.a (kid i).d.p.s.v.len (kid i).d.p.s.v.cap, .int .i64 (kid i).d.p.s.t.t.k, .slice (kid i).d.p.s.t.t.a (kid i).d.p.s.t.t.len (kid i).d.p.s.t.t.cap, .int .i64 (kid i).d.p.s.t.t.n, .int .i64 (kid i).d.p.s.t.t.s, .slice (kid i).d.p.p.v.a (kid i).d.p.p.v.len (kid i).d.p.p.v.cap, .int .i64 (kid i).d.p.p.t.t.k, .slice (kid i).d.p.p.t.t.a (kid i).d.p.p.t.t.len (kid i).d.p.p.t.t.cap, .int .i64 (kid i).d.p.p.t.t.n, .int .i64 (kid i).d.p.p.t.t.s, .slice (kid i).d.p.o.v.a (kid i).d.p.o.v.len (kid i).d.p.o.v.cap, .int .i64 (kid i).d.p.o.t.t.k, .slice (kid i).d.p.o.t.t.a (kid i).d.p.o.t.t.len (kid i).d.p.o.t.t.cap, .int .i64 (kid i).d.p.o.t.t.n, .int .i64 (kid i).d.p.o.t.t.s, .int .i64 (kid i).d.e.d.k, .int .i64 (kid i).d.e.d.op, .slice (kid i).d.e.d.v.a (kid i).d.e.d.v.len (kid i).d.e.d.v.cap, .int .i64 (kid i).d.e.d.t.t.k, .slice (kid i).d.e.d.t.t.a (kid i).d.e.d.t.t.len (kid i).d.e.d.t.t.cap, .int .i64 (kid i).d.e.d.t.t.n, .int .i64 (kid i).d.e.d.t.t.s, .slice (kid i).d.e.d.ka (kid i).d.e.d.n (kid i).d.e.d.kc, .slice (kid i).d.v.a (kid i).d.v.len (kid i).d.v.cap, .slice (kid i).d.ta (kid i).d.tb.length (kid i).d.tc, .slice (kid i).d.ka (kid i).d.n (kid i).d.kc], .int .i64 (deep + 1), .pointer (some ⟨g, 0, none⟩)] W (CtrAns (pOk (kid i) (deep + 1)) (psz (kid i)) g L' W)) := IH
  have HTR : Hid (TRow w0 d.ta d.tb) := ht.1
  have HKR : Hid (KRow 0 w0 28 d.ka d.n (fun i => (kid i).d.cells)) := hR
  have HSZ : Hid (psz (.mk d kid) = 1 + 0 + sumN d.n (fun i => psz (kid i))) := (show psz (.mk d kid) = _ by rw [psz_mk]; unfold ownP; rw [hkv]; simp)
  have HCS : Hid (CS w0 w ((w.setCell ⟨g, 0, none⟩ (.int .i64 (L - 1))).alloc (.cells #[.int .i64 8, .int .i64 d.ord, .slice d.p.s.v.a d.p.s.v.len d.p.s.v.cap, .int .i64 d.p.s.t.t.k, .slice d.p.s.t.t.a d.p.s.t.t.len d.p.s.t.t.cap, .int .i64 d.p.s.t.t.n, .int .i64 d.p.s.t.t.s, .slice d.p.p.v.a d.p.p.v.len d.p.p.v.cap, .int .i64 d.p.p.t.t.k, .slice d.p.p.t.t.a d.p.p.t.t.len d.p.p.t.t.cap, .int .i64 d.p.p.t.t.n, .int .i64 d.p.p.t.t.s, .slice d.p.o.v.a d.p.o.v.len d.p.o.v.cap, .int .i64 d.p.o.t.t.k, .slice d.p.o.t.t.a d.p.o.t.t.len d.p.o.t.t.cap, .int .i64 d.p.o.t.t.n, .int .i64 d.p.o.t.t.s, .int .i64 d.e.d.k, .int .i64 d.e.d.op, .slice d.e.d.v.a d.e.d.v.len d.e.d.v.cap, .int .i64 d.e.d.t.t.k, .slice d.e.d.t.t.a d.e.d.t.t.len d.e.d.t.t.cap, .int .i64 d.e.d.t.t.n, .int .i64 d.e.d.t.t.s, .slice d.e.d.ka d.e.d.n d.e.d.kc, .slice d.v.a d.v.len d.v.cap, .slice d.ta nt d.tc, .slice d.ka d.n d.kc] 62)) g (L - 1) (cellsT d 8 nt)) := CS.new hw hg hc #[.int .i64 8, .int .i64 d.ord, .slice d.p.s.v.a d.p.s.v.len d.p.s.v.cap, .int .i64 d.p.s.t.t.k, .slice d.p.s.t.t.a d.p.s.t.t.len d.p.s.t.t.cap, .int .i64 d.p.s.t.t.n, .int .i64 d.p.s.t.t.s, .slice d.p.p.v.a d.p.p.v.len d.p.p.v.cap, .int .i64 d.p.p.t.t.k, .slice d.p.p.t.t.a d.p.p.t.t.len d.p.p.t.t.cap, .int .i64 d.p.p.t.t.n, .int .i64 d.p.p.t.t.s, .slice d.p.o.v.a d.p.o.v.len d.p.o.v.cap, .int .i64 d.p.o.t.t.k, .slice d.p.o.t.t.a d.p.o.t.t.len d.p.o.t.t.cap, .int .i64 d.p.o.t.t.n, .int .i64 d.p.o.t.t.s, .int .i64 d.e.d.k, .int .i64 d.e.d.op, .slice d.e.d.v.a d.e.d.v.len d.e.d.v.cap, .int .i64 d.e.d.t.t.k, .slice d.e.d.t.t.a d.e.d.t.t.len d.e.d.t.t.cap, .int .i64 d.e.d.t.t.n, .int .i64 d.e.d.t.t.s, .slice d.e.d.ka d.e.d.n d.e.d.kc, .slice d.v.a d.v.len d.v.cap, .slice d.ta nt d.tc, .slice d.ka d.n d.kc] 62 (L - 1)
  have c0 := fun o => ((bl_a (w := w) o).cell (p := ⟨g, 0, none⟩) hgw).trans hc.cell
  have f0 := fun o => ((bl_a (w := w) o).frozen (p := ⟨g, 0, none⟩) hgw).trans hc.fr
  have hwr : IntKind.i64.wrap (L - 1) = L - 1 := by rw [IntKind.wrap_i64]; omega
  rw [hkv, ← hnt]
  clear hp he hv ht htn hn hR hk hw hc IH hkv hnt
  go_enter Try.func36, Try.ntmps36
  go_upto_region 2 with fail
  generalize ((w.setCell ⟨g, 0, none⟩ (.int .i64 (L - 1))).alloc (.cells #[.int .i64 8, .int .i64 d.ord, .slice d.p.s.v.a d.p.s.v.len d.p.s.v.cap, .int .i64 d.p.s.t.t.k, .slice d.p.s.t.t.a d.p.s.t.t.len d.p.s.t.t.cap, .int .i64 d.p.s.t.t.n, .int .i64 d.p.s.t.t.s, .slice d.p.p.v.a d.p.p.v.len d.p.p.v.cap, .int .i64 d.p.p.t.t.k, .slice d.p.p.t.t.a d.p.p.t.t.len d.p.p.t.t.cap, .int .i64 d.p.p.t.t.n, .int .i64 d.p.p.t.t.s, .slice d.p.o.v.a d.p.o.v.len d.p.o.v.cap, .int .i64 d.p.o.t.t.k, .slice d.p.o.t.t.a d.p.o.t.t.len d.p.o.t.t.cap, .int .i64 d.p.o.t.t.n, .int .i64 d.p.o.t.t.s, .int .i64 d.e.d.k, .int .i64 d.e.d.op, .slice d.e.d.v.a d.e.d.v.len d.e.d.v.cap, .int .i64 d.e.d.t.t.k, .slice d.e.d.t.t.a d.e.d.t.t.len d.e.d.t.t.cap, .int .i64 d.e.d.t.t.n, .int .i64 d.e.d.t.t.s, .slice d.e.d.ka d.e.d.n d.e.d.kc, .slice d.v.a d.v.len d.v.cap, .slice d.ta nt d.tc, .slice d.ka d.n d.kc] 62)) = W1 at *
  clear c0 f0 hwr
  have hW1 : w0.heap.size ≤ W1.heap.size := HCS.out.bl.size
  have cg := HCS.out.ct.cell
  have x0 := HCS.out.bx.2 0 _ rfl
  have x1 := HCS.out.bx.2 1 _ rfl
  by_cases hLz : L - 1 < 0
  · have HNO : Hid (¬ (pOk (.mk d kid) deep ∧ ((psz (.mk d kid) : Nat) : Int) ≤ L)) := fun hh => by
      have h := hh.2
      have h2 := HSZ.out
      omega
    go_wp2_with fail
    go_ret
    exact CtrAns.no HNO.out HCS.out.ct HCS.out.pa
  by_cases hdz : deep > 480
  · have HNO : Hid (¬ (pOk (.mk d kid) deep ∧ ((psz (.mk d kid) : Nat) : Int) ≤ L)) := fun hh => by
      have h := hh.1.1
      omega
    go_wp2_with fail
    go_ret
    exact CtrAns.no HNO.out HCS.out.ct HCS.out.pa
  by_cases ho0 : d.ord < 0
  · have HNO : Hid (¬ NodeP d) := fun hh => by
      have h := hh.o0
      omega
    go_wp2_with fail
    go_ret
    exact CtrAns.no (pOk_no HNO.out) HCS.out.ct HCS.out.pa
  by_cases ho5 : d.ord > 5
  · have HNO : Hid (¬ NodeP d) := fun hh => by
      have h := hh.o5
      omega
    go_wp2_with fail
    go_ret
    exact CtrAns.no (pOk_no HNO.out) HCS.out.ct HCS.out.pa
  have hd10 : deep ≤ 480 := by omega
  have HO0 : Hid (0 ≤ d.ord) := (show 0 ≤ d.ord by omega)
  have HO5 : Hid (d.ord ≤ 5) := (show d.ord ≤ 5 by omega)
  have HCq : Hid (∀ o, CS w0 w (W1.alloc o) g (L - 1) (cellsT d 8 nt)) := fun o => HCS.out.below hW1 (bl_a o)
  have y0 := fun o => (HCq.out o).bx.2 0 _ rfl
  have y1 := fun o => (HCq.out o).bx.2 1 _ rfl
  have y26 := fun o => (HCq.out o).bx.2 26 _ rfl
  have y27 := fun o => (HCq.out o).bx.2 27 _ rfl
  have y2 := fun o => (HCq.out o).bx.2 2 _ rfl
  have y3 := fun o => (HCq.out o).bx.2 3 _ rfl
  have y4 := fun o => (HCq.out o).bx.2 4 _ rfl
  have y5 := fun o => (HCq.out o).bx.2 5 _ rfl
  have y6 := fun o => (HCq.out o).bx.2 6 _ rfl
  have y7 := fun o => (HCq.out o).bx.2 7 _ rfl
  have y8 := fun o => (HCq.out o).bx.2 8 _ rfl
  have y9 := fun o => (HCq.out o).bx.2 9 _ rfl
  have y10 := fun o => (HCq.out o).bx.2 10 _ rfl
  have y11 := fun o => (HCq.out o).bx.2 11 _ rfl
  have y12 := fun o => (HCq.out o).bx.2 12 _ rfl
  have y13 := fun o => (HCq.out o).bx.2 13 _ rfl
  have y14 := fun o => (HCq.out o).bx.2 14 _ rfl
  have y15 := fun o => (HCq.out o).bx.2 15 _ rfl
  have y16 := fun o => (HCq.out o).bx.2 16 _ rfl
  by_cases hn1 : d.n = 0
  rotate_left
  · have HNO : Hid (¬ NodeP d) := fun hh => hn1 (by have h := hh.n; rw [HKV.out] at h; exact h)
    have hne : ((0 : Int) == (d.n : Int)) = false := by simp; omega
    have hnf : ((0 : Int) != (d.n : Int)) = true := by simp; omega
    clear hn1
    go_wp2_with fail
    go_ret
    exact CtrAns.no (pOk_no HNO.out) (HCq.out _).ct (HCq.out _).pa
  have HN : Hid (d.n = 0) := hn1
  have hne : ((0 : Int) == (d.n : Int)) = true := by simp; omega
  have hnf : ((0 : Int) != (d.n : Int)) = false := by simp; omega
  clear hn1
  have ZP := fun o => HZP.out (W1.alloc o) (HCq.out o).bl
  go_wp2_with fail
  refine (ZP _).mono ?_
  rintro e w2 ⟨q2, rfl, hq2, hb2⟩
  have HC2 : Hid (CS w0 w w2 g (L - 1) (cellsT d 8 nt)) := (HCq.out _).below (HCq.out _).bl.size hb2
  clear ZP hb2 HCq y0 y1 y26 y27 y2 y3 y4 y5 y6 y7 y8 y9 y10 y11 y12 y13 y14 y15 y16 x0 x1 cg
  cases q2 with
  | false =>
    have HNO : Hid (¬ NodeP d) := fun hh => by
      have h4 := hq2.2 (hh.p0 (by rw [HKV.out]; decide))
      cases h4
    clear hq2
    go_wp2_with fail
    go_ret
    exact CtrAns.no (pOk_no HNO.out) HC2.out.ct HC2.out.pa
  | true =>
    have HP0 : Hid (d.k ≠ 0 → zeroP d.p) := fun _ => hq2.1 rfl
    have HP1 : Hid (d.k = 0 → ptOk d.p) := fun h => absurd h (by rw [HKV.out]; decide)
    clear hq2
    have y0 := HC2.out.bx.2 0 _ rfl
    have y1 := HC2.out.bx.2 1 _ rfl
    have y26 := HC2.out.bx.2 26 _ rfl
    have y27 := HC2.out.bx.2 27 _ rfl
    by_cases hoz : d.ord = 0
    rotate_left
    · have HNO : Hid (¬ NodeP d) := fun hh => hoz (hh.oz (by rw [HKV.out]; decide))
      have hoe : (d.ord == (0 : Int)) = false := by simp; omega
      have hof : (d.ord != (0 : Int)) = true := by simp; omega
      clear hoz
      go_wp2_with fail
      go_ret
      exact CtrAns.no (pOk_no HNO.out) HC2.out.ct HC2.out.pa
    have HOZ : Hid (d.k ≠ 0 → d.ord = 0) := fun _ => hoz
    have hoe : (d.ord == (0 : Int)) = true := by simp; omega
    have hof : (d.ord != (0 : Int)) = false := by simp; omega
    clear hoz
    by_cases ht1 : nt = 0
    rotate_left
    · have HNO : Hid (¬ NodeP d) := fun hh => ht1 (by rw [HNT.out]; exact tb_nil.1 (hh.t0 (by rw [HKV.out]; decide)))
      have htz : (0 : Int) < (nt : Int) := by omega
      clear ht1
      go_wp2_with fail
      go_ret
      exact CtrAns.no (pOk_no HNO.out) HC2.out.ct HC2.out.pa
    have HT0 : Hid (d.tb.length = 0) := (show d.tb.length = 0 by rw [← HNT.out]; exact ht1)
    have htz : ¬ (0 : Int) < (nt : Int) := by omega
    have htz2 : ¬ (8 : Int) < (nt : Int) := by omega
    clear ht1
    have y17 := HC2.out.bx.2 17 _ rfl
    have y18 := HC2.out.bx.2 18 _ rfl
    have y19 := HC2.out.bx.2 19 _ rfl
    have y20 := HC2.out.bx.2 20 _ rfl
    have y21 := HC2.out.bx.2 21 _ rfl
    have y22 := HC2.out.bx.2 22 _ rfl
    have y23 := HC2.out.bx.2 23 _ rfl
    have y24 := HC2.out.bx.2 24 _ rfl
    have ZE := HZE.out w2 HC2.out.bl
    go_wp2_with fail
    refine ZE.mono ?_
    rintro e w3 ⟨q3, rfl, hq3, hb3⟩
    have HC3 : Hid (CS w0 w w3 g (L - 1) (cellsT d 8 nt)) := HC2.out.below HC2.out.bl.size hb3
    clear ZE hb3 HC2 y0 y1 y26 y27 y17 y18 y19 y20 y21 y22 y23 y24
    cases q3 with
    | false =>
      have HNO : Hid (¬ NodeP d) := fun hh => by
        have h4 := hq3.2 (hh.e0 (by rw [HKV.out]; unfold hasE; omega))
        cases h4
      clear hq3
      go_wp2_with fail
      go_ret
      exact CtrAns.no (pOk_no HNO.out) HC3.out.ct HC3.out.pa
    | true =>
      have HE0 : Hid (¬ hasE d.k → zeroE d.e) := fun _ => hq3.1 rfl
      have HE1 : Hid (hasE d.k → eOk 120 d.e 1) := fun h => absurd h (by rw [HKV.out]; unfold hasE; omega)
      obtain ⟨L3, hL3e⟩ : ∃ L3, L3 = L - 1 := ⟨_, rfl⟩
      have HL3 : Hid (L3 = L - (1 + 0 : Nat)) := (show L3 = _ by omega)
      have hL30 : 0 ≤ L3 := by omega
      have hL31 : L3 ≤ 100000 := by omega
      rw [← hL3e] at HC3
      clear hq3 hL3e
      have x25 := HC3.out.bx.2 25 _ rfl
      by_cases hv1 : d.v.len = 0
      rotate_left
      · have HNO : Hid (¬ NodeP d) := fun hh => hv1 (HLV.out.1 (hh.v0 (by rw [HKV.out]; unfold hasV; omega)))
        have hvz : (0 : Int) < (d.v.len : Int) := by omega
        clear hv1
        go_wp2_with fail
        go_ret
        exact CtrAns.no (pOk_no HNO.out) HC3.out.ct HC3.out.pa
      have HV1 : Hid (hasV d.k → nameOk d.v.b = true) := fun h => absurd h (by rw [HKV.out]; unfold hasV; omega)
      have HV0 : Hid (¬ hasV d.k → d.v.b = []) := fun _ => HLV.out.2 hv1
      have hvz : ¬ (0 : Int) < (d.v.len : Int) := by omega
      clear hv1
      have x26 := HC3.out.bx.2 26 _ rfl
      have x27 := HC3.out.bx.2 27 _ rfl
      have HTO : Hid (∀ x ∈ d.tb, x.td.ok = true) := fun x hx => absurd hx (by rw [tb_nil.2 HT0.out]; exact List.not_mem_nil)
      have hnz : ¬ (0 : Int) < (d.n : Int) := by have h := HN.out; omega
      go_wp2_with fail
      refine wp_loop_rounds 1 ?_
      rw [rounds_succ]
      go_wp2_with fail
      refine wp_loop_rounds 1 ?_
      rw [rounds_succ]
      go_wp2_with fail
      have HND : Hid (NodeP d) := ⟨by rw [HKV.out]; decide, by rw [HKV.out]; decide, HO0.out, HO5.out, by rw [HKV.out, HN.out]; rfl, HP1.out, HP0.out, HOZ.out, fun _ => tb_nil.2 HT0.out, by rw [HT0.out]; omega, HE1.out, HE0.out, HV1.out, HV0.out, HTO.out⟩
      go_ret
      exact CtrAns.yes ⟨hd10, HND.out, fun i hi => absurd hi (by rw [HN.out]; exact Nat.not_lt_zero _)⟩ (by have h := HSZ.out; rw [HN.out] at h; have h2 : sumN 0 (fun i => psz (kid i)) = 0 := rfl; have h3 := HL3.out; omega) (by have h := HSZ.out; rw [HN.out] at h; have h2 : sumN 0 (fun i => psz (kid i)) = 0 := rfl; have h3 := HL3.out; omega) HC3.out.ct HC3.out.pa
end Go.Proofs.Ytpgbhkkdbkecoaa

/- TrxB -/
namespace Go.Proofs.Ytpgbhkkdbkecoaa
open Go.RowKit Go.Deep
set_option maxRecDepth 100000

set_option maxHeartbeats 4000000 in
theorem l7planOk_out (d : PN) (kid : Nat → PT) (hkv : d.k < 0 ∨ 8 < d.k) (deep L : Int) (g : Nat) (w0 w : World) (hw : Below w0.heap.size w0 w) (hg : w0.heap.size ≤ g) (hc : Ctr w g L) (hL0 : 0 ≤ L) (hL1 : L ≤ 100000) :
    Calls Try.prog 36 #[.agg #[.int .i64 d.k, .int .i64 d.ord, .slice d.p.s.v.a d.p.s.v.len d.p.s.v.cap, .int .i64 d.p.s.t.t.k, .slice d.p.s.t.t.a d.p.s.t.t.len d.p.s.t.t.cap, .int .i64 d.p.s.t.t.n, .int .i64 d.p.s.t.t.s, .slice d.p.p.v.a d.p.p.v.len d.p.p.v.cap, .int .i64 d.p.p.t.t.k, .slice d.p.p.t.t.a d.p.p.t.t.len d.p.p.t.t.cap, .int .i64 d.p.p.t.t.n, .int .i64 d.p.p.t.t.s, .slice d.p.o.v.a d.p.o.v.len d.p.o.v.cap, .int .i64 d.p.o.t.t.k, .slice d.p.o.t.t.a d.p.o.t.t.len d.p.o.t.t.cap, .int .i64 d.p.o.t.t.n, .int .i64 d.p.o.t.t.s, .int .i64 d.e.d.k, .int .i64 d.e.d.op, .slice d.e.d.v.a d.e.d.v.len d.e.d.v.cap, .int .i64 d.e.d.t.t.k, .slice d.e.d.t.t.a d.e.d.t.t.len d.e.d.t.t.cap, .int .i64 d.e.d.t.t.n, .int .i64 d.e.d.t.t.s, .slice d.e.d.ka d.e.d.n d.e.d.kc, .slice d.v.a d.v.len d.v.cap, .slice d.ta d.tb.length d.tc, .slice d.ka d.n d.kc], .int .i64 deep, .pointer (some ⟨g, 0, none⟩)] w (CtrAns (pOk (.mk d kid) deep) (psz (.mk d kid)) g L w) := by
  have hgw : g < w.heap.size := hc.lt
  have HNO : Hid (¬ NodeP d) := fun hh => by
    have h1 := hh.k0
    have h2 := hh.k8
    omega
  have HCS : Hid (CS w0 w ((w.setCell ⟨g, 0, none⟩ (.int .i64 (L - 1))).alloc (.cells #[.int .i64 d.k, .int .i64 d.ord, .slice d.p.s.v.a d.p.s.v.len d.p.s.v.cap, .int .i64 d.p.s.t.t.k, .slice d.p.s.t.t.a d.p.s.t.t.len d.p.s.t.t.cap, .int .i64 d.p.s.t.t.n, .int .i64 d.p.s.t.t.s, .slice d.p.p.v.a d.p.p.v.len d.p.p.v.cap, .int .i64 d.p.p.t.t.k, .slice d.p.p.t.t.a d.p.p.t.t.len d.p.p.t.t.cap, .int .i64 d.p.p.t.t.n, .int .i64 d.p.p.t.t.s, .slice d.p.o.v.a d.p.o.v.len d.p.o.v.cap, .int .i64 d.p.o.t.t.k, .slice d.p.o.t.t.a d.p.o.t.t.len d.p.o.t.t.cap, .int .i64 d.p.o.t.t.n, .int .i64 d.p.o.t.t.s, .int .i64 d.e.d.k, .int .i64 d.e.d.op, .slice d.e.d.v.a d.e.d.v.len d.e.d.v.cap, .int .i64 d.e.d.t.t.k, .slice d.e.d.t.t.a d.e.d.t.t.len d.e.d.t.t.cap, .int .i64 d.e.d.t.t.n, .int .i64 d.e.d.t.t.s, .slice d.e.d.ka d.e.d.n d.e.d.kc, .slice d.v.a d.v.len d.v.cap, .slice d.ta d.tb.length d.tc, .slice d.ka d.n d.kc] 62)) g (L - 1) [.int .i64 d.k, .int .i64 d.ord, .slice d.p.s.v.a d.p.s.v.len d.p.s.v.cap, .int .i64 d.p.s.t.t.k, .slice d.p.s.t.t.a d.p.s.t.t.len d.p.s.t.t.cap, .int .i64 d.p.s.t.t.n, .int .i64 d.p.s.t.t.s, .slice d.p.p.v.a d.p.p.v.len d.p.p.v.cap, .int .i64 d.p.p.t.t.k, .slice d.p.p.t.t.a d.p.p.t.t.len d.p.p.t.t.cap, .int .i64 d.p.p.t.t.n, .int .i64 d.p.p.t.t.s, .slice d.p.o.v.a d.p.o.v.len d.p.o.v.cap, .int .i64 d.p.o.t.t.k, .slice d.p.o.t.t.a d.p.o.t.t.len d.p.o.t.t.cap, .int .i64 d.p.o.t.t.n, .int .i64 d.p.o.t.t.s, .int .i64 d.e.d.k, .int .i64 d.e.d.op, .slice d.e.d.v.a d.e.d.v.len d.e.d.v.cap, .int .i64 d.e.d.t.t.k, .slice d.e.d.t.t.a d.e.d.t.t.len d.e.d.t.t.cap, .int .i64 d.e.d.t.t.n, .int .i64 d.e.d.t.t.s, .slice d.e.d.ka d.e.d.n d.e.d.kc, .slice d.v.a d.v.len d.v.cap, .slice d.ta d.tb.length d.tc, .slice d.ka d.n d.kc]) := CS.new hw hg hc #[.int .i64 d.k, .int .i64 d.ord, .slice d.p.s.v.a d.p.s.v.len d.p.s.v.cap, .int .i64 d.p.s.t.t.k, .slice d.p.s.t.t.a d.p.s.t.t.len d.p.s.t.t.cap, .int .i64 d.p.s.t.t.n, .int .i64 d.p.s.t.t.s, .slice d.p.p.v.a d.p.p.v.len d.p.p.v.cap, .int .i64 d.p.p.t.t.k, .slice d.p.p.t.t.a d.p.p.t.t.len d.p.p.t.t.cap, .int .i64 d.p.p.t.t.n, .int .i64 d.p.p.t.t.s, .slice d.p.o.v.a d.p.o.v.len d.p.o.v.cap, .int .i64 d.p.o.t.t.k, .slice d.p.o.t.t.a d.p.o.t.t.len d.p.o.t.t.cap, .int .i64 d.p.o.t.t.n, .int .i64 d.p.o.t.t.s, .int .i64 d.e.d.k, .int .i64 d.e.d.op, .slice d.e.d.v.a d.e.d.v.len d.e.d.v.cap, .int .i64 d.e.d.t.t.k, .slice d.e.d.t.t.a d.e.d.t.t.len d.e.d.t.t.cap, .int .i64 d.e.d.t.t.n, .int .i64 d.e.d.t.t.s, .slice d.e.d.ka d.e.d.n d.e.d.kc, .slice d.v.a d.v.len d.v.cap, .slice d.ta d.tb.length d.tc, .slice d.ka d.n d.kc] 62 (L - 1)
  have c0 := fun o => ((bl_a (w := w) o).cell (p := ⟨g, 0, none⟩) hgw).trans hc.cell
  have f0 := fun o => ((bl_a (w := w) o).frozen (p := ⟨g, 0, none⟩) hgw).trans hc.fr
  have hwr : IntKind.i64.wrap (L - 1) = L - 1 := by rw [IntKind.wrap_i64]; omega
  clear hw hc
  go_enter Try.func36, Try.ntmps36
  go_upto_region 2 with fail
  generalize ((w.setCell ⟨g, 0, none⟩ (.int .i64 (L - 1))).alloc (.cells #[.int .i64 d.k, .int .i64 d.ord, .slice d.p.s.v.a d.p.s.v.len d.p.s.v.cap, .int .i64 d.p.s.t.t.k, .slice d.p.s.t.t.a d.p.s.t.t.len d.p.s.t.t.cap, .int .i64 d.p.s.t.t.n, .int .i64 d.p.s.t.t.s, .slice d.p.p.v.a d.p.p.v.len d.p.p.v.cap, .int .i64 d.p.p.t.t.k, .slice d.p.p.t.t.a d.p.p.t.t.len d.p.p.t.t.cap, .int .i64 d.p.p.t.t.n, .int .i64 d.p.p.t.t.s, .slice d.p.o.v.a d.p.o.v.len d.p.o.v.cap, .int .i64 d.p.o.t.t.k, .slice d.p.o.t.t.a d.p.o.t.t.len d.p.o.t.t.cap, .int .i64 d.p.o.t.t.n, .int .i64 d.p.o.t.t.s, .int .i64 d.e.d.k, .int .i64 d.e.d.op, .slice d.e.d.v.a d.e.d.v.len d.e.d.v.cap, .int .i64 d.e.d.t.t.k, .slice d.e.d.t.t.a d.e.d.t.t.len d.e.d.t.t.cap, .int .i64 d.e.d.t.t.n, .int .i64 d.e.d.t.t.s, .slice d.e.d.ka d.e.d.n d.e.d.kc, .slice d.v.a d.v.len d.v.cap, .slice d.ta d.tb.length d.tc, .slice d.ka d.n d.kc] 62)) = W1 at *
  clear c0 f0 hwr
  have cg := HCS.out.ct.cell
  have x0 := HCS.out.bx.2 0 _ rfl
  by_cases hLz : L - 1 < 0
  · clear hkv
    go_wp2_with fail
    go_ret
    exact CtrAns.no (pOk_no HNO.out) HCS.out.ct HCS.out.pa
  by_cases hdz : deep > 480
  · clear hkv
    go_wp2_with fail
    go_ret
    exact CtrAns.no (pOk_no HNO.out) HCS.out.ct HCS.out.pa
  by_cases hk0 : d.k < 0
  · clear hkv
    go_wp2_with fail
    go_ret
    exact CtrAns.no (pOk_no HNO.out) HCS.out.ct HCS.out.pa
  · have hk7 : d.k > 8 := by omega
    clear hkv
    go_wp2_with fail
    go_ret
    exact CtrAns.no (pOk_no HNO.out) HCS.out.ct HCS.out.pa
theorem l7planOk_any (e : PT) : ∀ (deep L : Int) (g : Nat) (w0 w : World), e.lies 0 w0 → Below w0.heap.size w0 w → w0.heap.size ≤ g → Ctr w g L → 0 ≤ deep → deep ≤ 100000 → 0 ≤ L → L ≤ 100000 →
    Calls Try.prog 36 #[.agg #[.int .i64 e.d.k, .int .i64 e.d.ord, .slice e.d.p.s.v.a e.d.p.s.v.len e.d.p.s.v.cap, .int .i64 e.d.p.s.t.t.k, .slice e.d.p.s.t.t.a e.d.p.s.t.t.len e.d.p.s.t.t.cap, .int .i64 e.d.p.s.t.t.n, .int .i64 e.d.p.s.t.t.s, .slice e.d.p.p.v.a e.d.p.p.v.len e.d.p.p.v.cap, .int .i64 e.d.p.p.t.t.k, .slice e.d.p.p.t.t.a e.d.p.p.t.t.len e.d.p.p.t.t.cap, .int .i64 e.d.p.p.t.t.n, .int .i64 e.d.p.p.t.t.s, .slice e.d.p.o.v.a e.d.p.o.v.len e.d.p.o.v.cap, .int .i64 e.d.p.o.t.t.k, .slice e.d.p.o.t.t.a e.d.p.o.t.t.len e.d.p.o.t.t.cap, .int .i64 e.d.p.o.t.t.n, .int .i64 e.d.p.o.t.t.s, .int .i64 e.d.e.d.k, .int .i64 e.d.e.d.op, .slice e.d.e.d.v.a e.d.e.d.v.len e.d.e.d.v.cap, .int .i64 e.d.e.d.t.t.k, .slice e.d.e.d.t.t.a e.d.e.d.t.t.len e.d.e.d.t.t.cap, .int .i64 e.d.e.d.t.t.n, .int .i64 e.d.e.d.t.t.s, .slice e.d.e.d.ka e.d.e.d.n e.d.e.d.kc, .slice e.d.v.a e.d.v.len e.d.v.cap, .slice e.d.ta e.d.tb.length e.d.tc, .slice e.d.ka e.d.n e.d.kc], .int .i64 deep, .pointer (some ⟨g, 0, none⟩)] w (CtrAns (pOk e deep) (psz e) g L w) := by
  induction e with
  | nil => exact fun _ _ _ _ _ h => False.elim h
  | mk d kid ih =>
    intro deep L g w0 w hl hw hg hc hd0 hd1 hL0 hL1
    have hk := hl.2.2.2.2.2.2.2
    have IH : ∀ i, i < d.n → ∀ (L' : Int) (W : World), Below w0.heap.size w0 W → Ctr W g L' → 0 ≤ L' → L' ≤ 100000 → deep ≤ 480 → Calls Try.prog 36 #[.agg #[.int .i64 (kid i).d.k, .int .i64 (kid i).d.ord, .slice (kid i).d.p.s.v.a (kid i).d.p.s.v.len (kid i).d.p.s.v.cap, .int .i64 (kid i).d.p.s.t.t.k, .slice (kid i).d.p.s.t.t.a (kid i).d.p.s.t.t.len (kid i).d.p.s.t.t.cap, .int .i64 (kid i).d.p.s.t.t.n, .int .i64 (kid i).d.p.s.t.t.s, .slice (kid i).d.p.p.v.a (kid i).d.p.p.v.len (kid i).d.p.p.v.cap, .int .i64 (kid i).d.p.p.t.t.k, .slice (kid i).d.p.p.t.t.a (kid i).d.p.p.t.t.len (kid i).d.p.p.t.t.cap, .int .i64 (kid i).d.p.p.t.t.n, .int .i64 (kid i).d.p.p.t.t.s, .slice (kid i).d.p.o.v.a (kid i).d.p.o.v.len (kid i).d.p.o.v.cap, .int .i64 (kid i).d.p.o.t.t.k, .slice (kid i).d.p.o.t.t.a (kid i).d.p.o.t.t.len (kid i).d.p.o.t.t.cap, .int .i64 (kid i).d.p.o.t.t.n, .int .i64 (kid i).d.p.o.t.t.s, .int .i64 (kid i).d.e.d.k, .int .i64 (kid i).d.e.d.op, .slice (kid i).d.e.d.v.a (kid i).d.e.d.v.len (kid i).d.e.d.v.cap, .int .i64 (kid i).d.e.d.t.t.k, .slice (kid i).d.e.d.t.t.a (kid i).d.e.d.t.t.len (kid i).d.e.d.t.t.cap, .int .i64 (kid i).d.e.d.t.t.n, .int .i64 (kid i).d.e.d.t.t.s, .slice (kid i).d.e.d.ka (kid i).d.e.d.n (kid i).d.e.d.kc, .slice (kid i).d.v.a (kid i).d.v.len (kid i).d.v.cap, .slice (kid i).d.ta (kid i).d.tb.length (kid i).d.tc, .slice (kid i).d.ka (kid i).d.n (kid i).d.kc], .int .i64 (deep + 1), .pointer (some ⟨g, 0, none⟩)] W (CtrAns (pOk (kid i) (deep + 1)) (psz (kid i)) g L' W) := fun i hi L' W hb hc' h0 h1 h10 => ih i (deep + 1) L' g w0 W (hk i hi) hb hg hc' (by omega) (by omega) h0 h1
    by_cases hout : d.k < 0 ∨ 8 < d.k
    · exact l7planOk_out d kid hout deep L g w0 w hw hg hc hL0 hL1
    rcases (by omega : d.k = 0 ∨ d.k = 1 ∨ d.k = 2 ∨ d.k = 3 ∨ d.k = 4 ∨ d.k = 5 ∨ d.k = 6 ∨ d.k = 7 ∨ d.k = 8) with h | h | h | h | h | h | h | h | h
    · exact l7planOk_0 d kid h deep L g w0 w hl hw hg hc hd0 hd1 hL0 hL1 IH
    · exact l7planOk_1 d kid h deep L g w0 w hl hw hg hc hd0 hd1 hL0 hL1 IH
    · exact l7planOk_2 d kid h deep L g w0 w hl hw hg hc hd0 hd1 hL0 hL1 IH
    · exact l7planOk_3 d kid h deep L g w0 w hl hw hg hc hd0 hd1 hL0 hL1 IH
    · exact l7planOk_4 d kid h deep L g w0 w hl hw hg hc hd0 hd1 hL0 hL1 IH
    · exact l7planOk_5 d kid h deep L g w0 w hl hw hg hc hd0 hd1 hL0 hL1 IH
    · exact l7planOk_6 d kid h deep L g w0 w hl hw hg hc hd0 hd1 hL0 hL1 IH
    · exact l7planOk_7 d kid h deep L g w0 w hl hw hg hc hd0 hd1 hL0 hL1 IH
    · exact l7planOk_8 d kid h deep L g w0 w hl hw hg hc hd0 hd1 hL0 hL1 IH
end Go.Proofs.Ytpgbhkkdbkecoaa
