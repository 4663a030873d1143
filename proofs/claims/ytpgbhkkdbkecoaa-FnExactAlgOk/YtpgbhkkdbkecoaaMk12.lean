/- Texts put together: TreI TreI0 -/
import Derived.Test.YtpgbhkkdbkecoaaMk11
/- TreI -/
namespace Go.Proofs.Ytpgbhkkdbkecoaa
open Go.RowKit Go.Deep
set_option maxRecDepth 100000

def hasE (k : Int) : Prop := k = 2 ∨ k = 5 ∨ k = 6
def hasV (k : Int) : Prop := k = 6 ∨ k = 7
def kidsA (k : Int) : Nat := if k = 0 ∨ k = 7 then 0 else if k = 5 ∨ k = 6 then 1 else 2
/-- What an operation's own cells must be. -/
structure NodeA (d : AN) : Prop where
  k0 : 0 ≤ d.k
  k7 : d.k ≤ 7
  n : d.n = kidsA d.k
  p0 : d.k ≠ 0 → d.pn = 0
  pn : d.pn ≤ 120
  t0 : d.k ≠ 7 → d.tb = []
  tn : d.tb.length ≤ 8
  e1 : hasE d.k → eOk 120 d.e 1
  e0 : ¬ hasE d.k → zeroE d.e
  v1 : hasV d.k → nameOk d.v.b = true
  v0 : ¬ hasV d.k → d.v.b = []
  pt : ∀ i, i < d.pn → ptOk (d.pat i)
  tm : ∀ x ∈ d.tb, x.td.ok = true
def ownA (d : AN) : Nat := 1 + (if d.k = 2 ∨ d.k = 5 ∨ d.k = 6 then esz d.e else 0) + d.pn
def aOk : AT → Int → Prop
  | .nil, _ => False
  | .mk d kid, deep => deep ≤ 240 ∧ NodeA d ∧ ∀ i, i < d.n → aOk (kid i) (deep + 1)
def asz : AT → Nat
  | .nil => 0
  | .mk d kid => ownA d + sumN d.n (fun i => asz (kid i))
theorem asz_mk (d : AN) (kid : Nat → AT) : asz (.mk d kid) = ownA d + sumN d.n (fun i => asz (kid i)) := rfl
theorem aOk_no {deep : Int} {d : AN} {kid : Nat → AT} {L : Int} {s : Nat} (h : ¬ NodeA d) : ¬ (aOk (.mk d kid) deep ∧ (s : Int) ≤ L) := fun hh => h hh.1.2.1
theorem tb_nil {l : List TB} : l = [] ↔ l.length = 0 := List.length_eq_zero_iff.symm
end Go.Proofs.Ytpgbhkkdbkecoaa

/- TreI0 -/
namespace Go.Proofs.Ytpgbhkkdbkecoaa
open Go.RowKit Go.Deep
set_option maxRecDepth 100000

set_option maxHeartbeats 16000000 in
theorem l5alg_0 (d : AN) (kid : Nat → AT) (hkv : d.k = 0) (deep L : Int) (g : Nat) (w0 w : World) (hl : (AT.mk d kid).lies 0 w0) (hw : Below w0.heap.size w0 w) (hg : w0.heap.size ≤ g) (hc : Ctr w g L) (hd0 : 0 ≤ deep) (hd1 : deep ≤ 100000) (hL0 : 0 ≤ L) (hL1 : L ≤ 100000)
    (IH : ∀ i, i < d.n → ∀ (L' : Int) (W : World), Below w0.heap.size w0 W → Ctr W g L' → 0 ≤ L' → L' ≤ 100000 → deep ≤ 240 → Calls Try.prog 20 #[.agg #[.int .i64 (kid i).d.k, .slice (kid i).d.pa (kid i).d.pn (kid i).d.pc, .int .i64 (kid i).d.e.d.k, .int .i64 (kid i).d.e.d.op, .slice (kid i).d.e.d.v.a (kid i).d.e.d.v.len (kid i).d.e.d.v.cap, .int .i64 (kid i).d.e.d.t.t.k, .slice (kid i).d.e.d.t.t.a (kid i).d.e.d.t.t.len (kid i).d.e.d.t.t.cap, .int .i64 (kid i).d.e.d.t.t.n, .int .i64 (kid i).d.e.d.t.t.s, .slice (kid i).d.e.d.ka (kid i).d.e.d.n (kid i).d.e.d.kc, .slice (kid i).d.v.a (kid i).d.v.len (kid i).d.v.cap, .slice (kid i).d.ta (kid i).d.tb.length (kid i).d.tc, .slice (kid i).d.ka (kid i).d.n (kid i).d.kc], .int .i64 (deep + 1), .pointer (some ⟨g, 0, none⟩)] W (CtrAns (aOk (kid i) (deep + 1)) (asz (kid i)) g L' W)) :
    Calls Try.prog 20 #[.agg #[.int .i64 d.k, .slice d.pa d.pn d.pc, .int .i64 d.e.d.k, .int .i64 d.e.d.op, .slice d.e.d.v.a d.e.d.v.len d.e.d.v.cap, .int .i64 d.e.d.t.t.k, .slice d.e.d.t.t.a d.e.d.t.t.len d.e.d.t.t.cap, .int .i64 d.e.d.t.t.n, .int .i64 d.e.d.t.t.s, .slice d.e.d.ka d.e.d.n d.e.d.kc, .slice d.v.a d.v.len d.v.cap, .slice d.ta d.tb.length d.tc, .slice d.ka d.n d.kc], .int .i64 deep, .pointer (some ⟨g, 0, none⟩)] w (CtrAns (aOk (.mk d kid) deep) (asz (.mk d kid)) g L w) := by
  obtain ⟨hp, hpl, hpn, he, hv, ht, htn, hn, hR, hk⟩ := hl
  have hgw : g < w.heap.size := hc.lt
  have hsz : w0.heap.size ≤ w.heap.size := hw.size
  have HKV : Hid (d.k = 0) := hkv
  obtain ⟨nt, hnt⟩ : ∃ nt, nt = d.tb.length := ⟨_, rfl⟩
  have HNT : Hid (nt = d.tb.length) := hnt
  have HLV : Hid (d.v.b = [] ↔ d.v.len = 0) := nil_len hv.1.1
  have HVR : Hid (∀ W, Below w0.heap.size w0 W → Calls Try.prog 48 #[.slice d.v.a d.v.len d.v.cap] W (Tells (nameOk d.v.b = true) W)) := fun W hb => l4var_any d.v W (hv.upper (Upper.of_below hb))
  have HZE : Hid (∀ W, Below w0.heap.size w0 W → Calls Try.prog 47 #[.agg #[.int .i64 d.e.d.k, .int .i64 d.e.d.op, .slice d.e.d.v.a d.e.d.v.len d.e.d.v.cap, .int .i64 d.e.d.t.t.k, .slice d.e.d.t.t.a d.e.d.t.t.len d.e.d.t.t.cap, .int .i64 d.e.d.t.t.n, .int .i64 d.e.d.t.t.s, .slice d.e.d.ka d.e.d.n d.e.d.kc]] W (Tells (zeroE d.e) W)) := fun W hb => l4zeroExpr_any d.e W (ET.lies.upper (Upper.of_below hb) he)
  have HEF : Hid (∀ W L', Below w0.heap.size w0 W → Ctr W g L' → 0 ≤ L' → L' ≤ 100000 → Calls Try.prog 46 #[.agg #[.int .i64 d.e.d.k, .int .i64 d.e.d.op, .slice d.e.d.v.a d.e.d.v.len d.e.d.v.cap, .int .i64 d.e.d.t.t.k, .slice d.e.d.t.t.a d.e.d.t.t.len d.e.d.t.t.cap, .int .i64 d.e.d.t.t.n, .int .i64 d.e.d.t.t.s, .slice d.e.d.ka d.e.d.n d.e.d.kc], .int .i64 1, .pointer (some ⟨g, 0, none⟩)] W (CtrAns (eOk 120 d.e 1) (esz d.e) g L' W)) := fun W L' hb hc' h0 h1 => l5fits_any d.e 1 L' g w0 W he hb hg hc' (by omega) (by omega) h0 h1
  have HPT : Hid (∀ i, i < d.pn → ∀ W, Below w0.heap.size w0 W → Calls Try.prog 49 #[.agg #[.slice (d.pat i).s.v.a (d.pat i).s.v.len (d.pat i).s.v.cap, .int .i64 (d.pat i).s.t.t.k, .slice (d.pat i).s.t.t.a (d.pat i).s.t.t.len (d.pat i).s.t.t.cap, .int .i64 (d.pat i).s.t.t.n, .int .i64 (d.pat i).s.t.t.s, .slice (d.pat i).p.v.a (d.pat i).p.v.len (d.pat i).p.v.cap, .int .i64 (d.pat i).p.t.t.k, .slice (d.pat i).p.t.t.a (d.pat i).p.t.t.len (d.pat i).p.t.t.cap, .int .i64 (d.pat i).p.t.t.n, .int .i64 (d.pat i).p.t.t.s, .slice (d.pat i).o.v.a (d.pat i).o.v.len (d.pat i).o.v.cap, .int .i64 (d.pat i).o.t.t.k, .slice (d.pat i).o.t.t.a (d.pat i).o.t.t.len (d.pat i).o.t.t.cap, .int .i64 (d.pat i).o.t.t.n, .int .i64 (d.pat i).o.t.t.s]] W (Tells (ptOk (d.pat i)) W)) := fun i hi W hb => l4pat_any (d.pat i) W ((hpl i hi).upper (Upper.of_below hb))
  have HTM : Hid (∀ x ∈ d.tb, ∀ W, Below w0.heap.size w0 W → Calls Try.prog 50 #[.agg #[.int .i64 x.t.k, .slice x.t.a x.t.len x.t.cap, .int .i64 x.t.n, .int .i64 x.t.s]] W (Tells (x.td.ok = true) W)) := fun x hx W hb => (specTermOk_any x.t.k x.t.n x.t.s x.t.a x.t.len x.t.cap x.b W ((ht.2.2 x hx).1.upper (Upper.of_below hb)).1 (ht.2.2 x hx).2.1 (ht.2.2 x hx).2.2.1).mono fun e w' ⟨h1, o, h2⟩ => by
    subst h1 h2
    exact Tells.of Iff.rfl (bl_a _)
  have HIH : Hid (∀ i, i < d.n → ∀ (L' : Int) (W : World), Below w0.heap.size w0 W → Ctr W g L' → 0 ≤ L' → L' ≤ 100000 → deep ≤ 240 → Calls Try.prog 20 #[.agg #[.int .i64 (kid i).d.k, .slice (kid i).d.pa (kid i).d.pn (kid i).d.pc, .int .i64 (kid i).d.e.d.k, .int .i64 (kid i).d.e.d.op, .slice (kid i).d.e.d.v.a (kid i).d.e.d.v.len (kid i).d.e.d.v.cap, .int .i64 (kid i).d.e.d.t.t.k, .slice (kid i).d.e.d.t.t.a (kid i).d.e.d.t.t.len (kid i).d.e.d.t.t.cap, .int .i64 (kid i).d.e.d.t.t.n, .int .i64 (kid i).d.e.d.t.t.s, .slice (kid i).d.e.d.ka (kid i).d.e.d.n (kid i).d.e.d.kc, .slice (kid i).d.v.a (kid i).d.v.len (kid i).d.v.cap, .slice (kid i).d.ta (kid i).d.tb.length (kid i).d.tc, .slice (kid i).d.ka (kid i).d.n (kid i).d.kc], .int .i64 (deep + 1), .pointer (some ⟨g, 0, none⟩)] W (CtrAns (aOk (kid i) (deep + 1)) (asz (kid i)) g L' W)) := IH
  have HPR : Hid (KRow 0 w0 15 d.pa d.pn (fun i => (d.pat i).cells)) := hp
  have HTR : Hid (TRow w0 d.ta d.tb) := ht.1
  have HKR : Hid (KRow 0 w0 13 d.ka d.n (fun i => (kid i).d.cells)) := hR
  have HSZ : Hid (asz (.mk d kid) = 1 + 0 + d.pn + sumN d.n (fun i => asz (kid i))) := (show asz (.mk d kid) = _ by rw [asz_mk]; unfold ownA; rw [hkv]; simp)
  have HCS : Hid (CS w0 w ((w.setCell ⟨g, 0, none⟩ (.int .i64 (L - 1))).alloc (.cells #[.int .i64 0, .slice d.pa d.pn d.pc, .int .i64 d.e.d.k, .int .i64 d.e.d.op, .slice d.e.d.v.a d.e.d.v.len d.e.d.v.cap, .int .i64 d.e.d.t.t.k, .slice d.e.d.t.t.a d.e.d.t.t.len d.e.d.t.t.cap, .int .i64 d.e.d.t.t.n, .int .i64 d.e.d.t.t.s, .slice d.e.d.ka d.e.d.n d.e.d.kc, .slice d.v.a d.v.len d.v.cap, .slice d.ta nt d.tc, .slice d.ka d.n d.kc] 43)) g (L - 1) [.int .i64 0, .slice d.pa d.pn d.pc, .int .i64 d.e.d.k, .int .i64 d.e.d.op, .slice d.e.d.v.a d.e.d.v.len d.e.d.v.cap, .int .i64 d.e.d.t.t.k, .slice d.e.d.t.t.a d.e.d.t.t.len d.e.d.t.t.cap, .int .i64 d.e.d.t.t.n, .int .i64 d.e.d.t.t.s, .slice d.e.d.ka d.e.d.n d.e.d.kc, .slice d.v.a d.v.len d.v.cap, .slice d.ta nt d.tc, .slice d.ka d.n d.kc]) := CS.new hw hg hc #[.int .i64 0, .slice d.pa d.pn d.pc, .int .i64 d.e.d.k, .int .i64 d.e.d.op, .slice d.e.d.v.a d.e.d.v.len d.e.d.v.cap, .int .i64 d.e.d.t.t.k, .slice d.e.d.t.t.a d.e.d.t.t.len d.e.d.t.t.cap, .int .i64 d.e.d.t.t.n, .int .i64 d.e.d.t.t.s, .slice d.e.d.ka d.e.d.n d.e.d.kc, .slice d.v.a d.v.len d.v.cap, .slice d.ta nt d.tc, .slice d.ka d.n d.kc] 43 (L - 1)
  have c0 := fun o => ((bl_a (w := w) o).cell (p := ⟨g, 0, none⟩) hgw).trans hc.cell
  have f0 := fun o => ((bl_a (w := w) o).frozen (p := ⟨g, 0, none⟩) hgw).trans hc.fr
  have hwr : IntKind.i64.wrap (L - 1) = L - 1 := by rw [IntKind.wrap_i64]; omega
  rw [hkv, ← hnt]
  clear hp hpl hpn he hv ht htn hR hk hw hc IH hkv hnt
  go_enter Try.func20, Try.ntmps20
  go_upto_region 2 with fail
  generalize ((w.setCell ⟨g, 0, none⟩ (.int .i64 (L - 1))).alloc (.cells #[.int .i64 0, .slice d.pa d.pn d.pc, .int .i64 d.e.d.k, .int .i64 d.e.d.op, .slice d.e.d.v.a d.e.d.v.len d.e.d.v.cap, .int .i64 d.e.d.t.t.k, .slice d.e.d.t.t.a d.e.d.t.t.len d.e.d.t.t.cap, .int .i64 d.e.d.t.t.n, .int .i64 d.e.d.t.t.s, .slice d.e.d.ka d.e.d.n d.e.d.kc, .slice d.v.a d.v.len d.v.cap, .slice d.ta nt d.tc, .slice d.ka d.n d.kc] 43)) = W1 at *
  clear c0 f0 hwr
  have hW1 : w0.heap.size ≤ W1.heap.size := HCS.out.bl.size
  have cg := HCS.out.ct.cell
  have x0 := HCS.out.bx.2 0 _ rfl
  by_cases hLz : L - 1 < 0
  · have HNO : Hid (¬ (aOk (.mk d kid) deep ∧ ((asz (.mk d kid) : Nat) : Int) ≤ L)) := fun hh => by
      have h := hh.2
      have h2 := HSZ.out
      omega
    go_wp2_with fail
    go_ret
    exact CtrAns.no HNO.out HCS.out.ct HCS.out.pa
  by_cases hdz : deep > 240
  · have HNO : Hid (¬ (aOk (.mk d kid) deep ∧ ((asz (.mk d kid) : Nat) : Int) ≤ L)) := fun hh => by
      have h := hh.1.1
      omega
    go_wp2_with fail
    go_ret
    exact CtrAns.no HNO.out HCS.out.ct HCS.out.pa
  have hd10 : deep ≤ 240 := by omega
  have HCq : Hid (∀ o, CS w0 w (W1.alloc o) g (L - 1) [.int .i64 0, .slice d.pa d.pn d.pc, .int .i64 d.e.d.k, .int .i64 d.e.d.op, .slice d.e.d.v.a d.e.d.v.len d.e.d.v.cap, .int .i64 d.e.d.t.t.k, .slice d.e.d.t.t.a d.e.d.t.t.len d.e.d.t.t.cap, .int .i64 d.e.d.t.t.n, .int .i64 d.e.d.t.t.s, .slice d.e.d.ka d.e.d.n d.e.d.kc, .slice d.v.a d.v.len d.v.cap, .slice d.ta nt d.tc, .slice d.ka d.n d.kc]) := fun o => HCS.out.below hW1 (bl_a o)
  have y0 := fun o => (HCq.out o).bx.2 0 _ rfl
  have y1 := fun o => (HCq.out o).bx.2 1 _ rfl
  have y11 := fun o => (HCq.out o).bx.2 11 _ rfl
  have y12 := fun o => (HCq.out o).bx.2 12 _ rfl
  have y10 := fun o => (HCq.out o).bx.2 10 _ rfl
  have y2 := fun o => (HCq.out o).bx.2 2 _ rfl
  have y3 := fun o => (HCq.out o).bx.2 3 _ rfl
  have y4 := fun o => (HCq.out o).bx.2 4 _ rfl
  have y5 := fun o => (HCq.out o).bx.2 5 _ rfl
  have y6 := fun o => (HCq.out o).bx.2 6 _ rfl
  have y7 := fun o => (HCq.out o).bx.2 7 _ rfl
  have y8 := fun o => (HCq.out o).bx.2 8 _ rfl
  have y9 := fun o => (HCq.out o).bx.2 9 _ rfl
  by_cases hn1 : d.n = 0
  rotate_left
  · have HNO : Hid (¬ NodeA d) := fun hh => hn1 (by have h := hh.n; rw [HKV.out] at h; exact h)
    have hne : ((0 : Int) == (d.n : Int)) = false := by simp; omega
    have hnf : ((0 : Int) != (d.n : Int)) = true := by simp; omega
    clear hn1
    go_wp2_with fail
    go_ret
    exact CtrAns.no (aOk_no HNO.out) (HCq.out _).ct (HCq.out _).pa
  have HN : Hid (d.n = 0) := hn1
  have hne : ((0 : Int) == (d.n : Int)) = true := by simp; omega
  have hnf : ((0 : Int) != (d.n : Int)) = false := by simp; omega
  clear hn1
  by_cases hp1 : d.pn ≤ 120
  rotate_left
  · have HNO : Hid (¬ NodeA d) := fun hh => hp1 hh.pn
    have hpz2 : (120 : Int) < (d.pn : Int) := by omega
    clear hp1
    go_wp2_with fail
    go_ret
    exact CtrAns.no (aOk_no HNO.out) (HCq.out _).ct (HCq.out _).pa
  have hpz2 : ¬ (120 : Int) < (d.pn : Int) := by omega
  by_cases ht1 : nt = 0
  rotate_left
  · have HNO : Hid (¬ NodeA d) := fun hh => ht1 (by rw [HNT.out]; exact tb_nil.1 (hh.t0 (by rw [HKV.out]; decide)))
    have htz : (0 : Int) < (nt : Int) := by omega
    clear ht1
    go_wp2_with fail
    go_ret
    exact CtrAns.no (aOk_no HNO.out) (HCq.out _).ct (HCq.out _).pa
  have HT0 : Hid (d.tb.length = 0) := (show d.tb.length = 0 by rw [← HNT.out]; exact ht1)
  have htz : ¬ (0 : Int) < (nt : Int) := by omega
  have htz2 : ¬ (8 : Int) < (nt : Int) := by omega
  clear ht1
  have ZE := fun o => HZE.out (W1.alloc o) (HCq.out o).bl
  go_wp2_with fail
  refine (ZE _).mono ?_
  rintro e w3 ⟨q3, rfl, hq3, hb3⟩
  have HC3 : Hid (CS w0 w w3 g (L - 1) [.int .i64 0, .slice d.pa d.pn d.pc, .int .i64 d.e.d.k, .int .i64 d.e.d.op, .slice d.e.d.v.a d.e.d.v.len d.e.d.v.cap, .int .i64 d.e.d.t.t.k, .slice d.e.d.t.t.a d.e.d.t.t.len d.e.d.t.t.cap, .int .i64 d.e.d.t.t.n, .int .i64 d.e.d.t.t.s, .slice d.e.d.ka d.e.d.n d.e.d.kc, .slice d.v.a d.v.len d.v.cap, .slice d.ta nt d.tc, .slice d.ka d.n d.kc]) := (HCq.out _).below (HCq.out _).bl.size hb3
  clear ZE hb3 HCq y0 y1 y11 y12 y10 y2 y3 y4 y5 y6 y7 y8 y9
  cases q3 with
  | false =>
    have HNO : Hid (¬ NodeA d) := fun hh => by
      have h4 := hq3.2 (hh.e0 (by rw [HKV.out]; unfold hasE; omega))
      cases h4
    clear hq3
    go_wp2_with fail
    go_ret
    exact CtrAns.no (aOk_no HNO.out) HC3.out.ct HC3.out.pa
  | true =>
    have HE0 : Hid (¬ hasE d.k → zeroE d.e) := fun _ => hq3.1 rfl
    have HE1 : Hid (hasE d.k → eOk 120 d.e 1) := fun h => absurd h (by rw [HKV.out]; unfold hasE; omega)
    obtain ⟨L3, hL3e⟩ : ∃ L3, L3 = L - 1 := ⟨_, rfl⟩
    have HL3 : Hid (L3 = L - (1 + 0 : Nat)) := (show L3 = _ by omega)
    have hL30 : 0 ≤ L3 := by omega
    have hL31 : L3 ≤ 100000 := by omega
    rw [← hL3e] at HC3
    clear hq3 hL3e
    have x10 := HC3.out.bx.2 10 _ rfl
    by_cases hv1 : d.v.len = 0
    rotate_left
    · have HNO : Hid (¬ NodeA d) := fun hh => hv1 (HLV.out.1 (hh.v0 (by rw [HKV.out]; unfold hasV; omega)))
      have hvz : (0 : Int) < (d.v.len : Int) := by omega
      clear hv1
      go_wp2_with fail
      go_ret
      exact CtrAns.no (aOk_no HNO.out) HC3.out.ct HC3.out.pa
    have HV1 : Hid (hasV d.k → nameOk d.v.b = true) := fun h => absurd h (by rw [HKV.out]; unfold hasV; omega)
    have HV0 : Hid (¬ hasV d.k → d.v.b = []) := fun _ => HLV.out.2 hv1
    have hvz : ¬ (0 : Int) < (d.v.len : Int) := by omega
    clear hv1
    have x1 := HC3.out.bx.2 1 _ rfl
    have x11 := HC3.out.bx.2 11 _ rfl
    have x12 := HC3.out.bx.2 12 _ rfl
    have HTO : Hid (∀ x ∈ d.tb, x.td.ok = true) := fun x hx => absurd hx (by rw [tb_nil.2 HT0.out]; exact List.not_mem_nil)
    have hnz : ¬ (0 : Int) < (d.n : Int) := by have h := HN.out; omega
    go_wp2_with fail
    clear x1 x11 x12 x10
    go_loopw [10] (fun i wr => ∃ (k : Nat) (Lr : Int), k ≤ d.pn ∧ i = .int .i64 k ∧ 0 ≤ Lr ∧ Lr ≤ 100000 ∧ Hid (Lr = L3 - (k : Nat)) ∧ Hid (∀ j, j < k → ptOk (d.pat j)) ∧ Hid (CS w0 w wr g Lr [.int .i64 0, .slice d.pa d.pn d.pc, .int .i64 d.e.d.k, .int .i64 d.e.d.op, .slice d.e.d.v.a d.e.d.v.len d.e.d.v.cap, .int .i64 d.e.d.t.t.k, .slice d.e.d.t.t.a d.e.d.t.t.len d.e.d.t.t.cap, .int .i64 d.e.d.t.t.n, .int .i64 d.e.d.t.t.s, .slice d.e.d.ka d.e.d.n d.e.d.kc, .slice d.v.a d.v.len d.v.cap, .slice d.ta nt d.tc, .slice d.ka d.n d.kc])) (fun i _ => d.pn - (intOf i).toNat)
    case atStart => exact ⟨0, L3, Nat.zero_le _, rfl, by omega, by omega, (show L3 = L3 - ((0 : Nat) : Int) by omega), fun j hj => absurd hj (Nat.not_lt_zero _), HC3⟩
    case round =>
      clear HC3
      obtain ⟨k, Lr, hk, rfl, hLr0, hLr1, HLR, HOKS, HCr⟩ := hrel
      have x1 := HCr.out.bx.2 1 _ rfl
      have x11 := HCr.out.bx.2 11 _ rfl
      have x12 := HCr.out.bx.2 12 _ rfl
      by_cases hlk : k < d.pn
      · have hlkz : (k : Int) < (d.pn : Int) := by omega
        obtain ⟨b, off, eP, _, hbp, hcp⟩ := HPR.out.resolve_left (by omega)
        have HCP : Hid (∀ i, i < d.pn → ∀ c u, ((d.pat i).cells)[c]? = some u → w0.cell? ⟨b, off + i * 15 + c, none⟩ = some u) := hcp
        have hbp' : b < w0.heap.size := hbp
        have HEP : Hid (d.pa = some ⟨b, off, none⟩) := eP
        clear eP hcp hbp
        have cg := HCr.out.ct.cell
        have fg := HCr.out.ct.fr
        have hwr : IntKind.i64.wrap (Lr - 1) = Lr - 1 := by rw [IntKind.wrap_i64]; omega
        have HC5 : Hid (CS w0 w (wr.setCell ⟨g, 0, none⟩ (.int .i64 (Lr - 1))) g (Lr - 1) [.int .i64 0, .slice d.pa d.pn d.pc, .int .i64 d.e.d.k, .int .i64 d.e.d.op, .slice d.e.d.v.a d.e.d.v.len d.e.d.v.cap, .int .i64 d.e.d.t.t.k, .slice d.e.d.t.t.a d.e.d.t.t.len d.e.d.t.t.cap, .int .i64 d.e.d.t.t.n, .int .i64 d.e.d.t.t.s, .slice d.e.d.ka d.e.d.n d.e.d.kc, .slice d.v.a d.v.len d.v.cap, .slice d.ta nt d.tc, .slice d.ka d.n d.kc]) := HCr.out.past hg hgw ((Past.refl g wr).set 0 _) (HCr.out.ct.set _)
        go_upto_region 15 with fail
        generalize wr.setCell ⟨g, 0, none⟩ (.int .i64 (Lr - 1)) = W5 at *
        clear cg fg hwr x1 x11 x12 HCr
        have cg := HC5.out.ct.cell
        by_cases hLz5 : Lr - 1 < 0
        · have HNO : Hid (¬ (aOk (.mk d kid) deep ∧ ((asz (.mk d kid) : Nat) : Int) ≤ L)) := fun hh => by
            have h2 := HSZ.out
            have h4 := HLR.out
            have h6 := hh.2
            have h8 := HL3.out
            omega
          go_wp2_with fail
          go_ret
          exact CtrAns.no HNO.out HC5.out.ct HC5.out.pa
        have x1 := HC5.out.bx.2 1 _ rfl
        rw [HEP.out] at x1
        have hcx : ∀ c u, ((d.pat k).cells)[c]? = some u → W5.cell? ⟨b, off + k * 15 + c, none⟩ = some u := fun c u hu => (HC5.out.bl.cell (p := ⟨b, off + k * 15 + c, none⟩) hbp').trans (HCP.out k hlk c u hu)
        have p0 := hcx 0 _ rfl
        have p1 := hcx 1 _ rfl
        have p2 := hcx 2 _ rfl
        have p3 := hcx 3 _ rfl
        have p4 := hcx 4 _ rfl
        have p5 := hcx 5 _ rfl
        have p6 := hcx 6 _ rfl
        have p7 := hcx 7 _ rfl
        have p8 := hcx 8 _ rfl
        have p9 := hcx 9 _ rfl
        have p10 := hcx 10 _ rfl
        have p11 := hcx 11 _ rfl
        have p12 := hcx 12 _ rfl
        have p13 := hcx 13 _ rfl
        have p14 := hcx 14 _ rfl
        simp only [Nat.add_zero] at p0
        clear hcx
        have Z := HPT.out k hlk W5 HC5.out.bl
        go_wp2_with fail
        refine Z.mono ?_
        rintro e w6 ⟨q6, rfl, hq6, hb6⟩
        have HC6 : Hid (CS w0 w w6 g (Lr - 1) [.int .i64 0, .slice d.pa d.pn d.pc, .int .i64 d.e.d.k, .int .i64 d.e.d.op, .slice d.e.d.v.a d.e.d.v.len d.e.d.v.cap, .int .i64 d.e.d.t.t.k, .slice d.e.d.t.t.a d.e.d.t.t.len d.e.d.t.t.cap, .int .i64 d.e.d.t.t.n, .int .i64 d.e.d.t.t.s, .slice d.e.d.ka d.e.d.n d.e.d.kc, .slice d.v.a d.v.len d.v.cap, .slice d.ta nt d.tc, .slice d.ka d.n d.kc]) := HC5.out.below HC5.out.bl.size hb6
        clear Z hb6 cg x1 HC5 p0 p1 p2 p3 p4 p5 p6 p7 p8 p9 p10 p11 p12 p13 p14
        cases q6 with
        | false =>
          have HNO : Hid (¬ NodeA d) := fun hh => by
            have h7 := hq6.2 (hh.pt k hlk)
            cases h7
          clear hq6
          go_wp2_with fail
          go_ret
          exact CtrAns.no (aOk_no HNO.out) HC6.out.ct HC6.out.pa
        | true =>
          have HN5 : Hid (ptOk (d.pat k)) := hq6.1 rfl
          clear hq6
          have HL5 : Hid (Lr - 1 = L3 - ((k + 1 : Nat) : Int)) := (show Lr - 1 = _ by have h2 := HLR.out; omega)
          go_wp2_with fail
          go_roundw
          case rel =>
            refine ⟨k + 1, Lr - 1, by omega, by go_num, by omega, by omega, HL5, fun j hj => ?_, HC6⟩
            by_cases e : j = k
            · subst e
              exact HN5.out
            · exact HOKS.out j (by omega)
          case measure => simp [intOf]; omega
      · obtain rfl : k = d.pn := by omega
        have hlkz : ¬ (d.pn : Int) < (d.pn : Int) := by omega
        have HPO : Hid (∀ i, i < d.pn → ptOk (d.pat i)) := HOKS
        have HLe : Hid (Lr = L - (1 + 0 + d.pn : Nat)) := (show Lr = _ by have h1 := HL3.out; have h2 := HLR.out; omega)
        go_wp2_with fail
        refine wp_loop_rounds 1 ?_
        rw [rounds_succ]
        go_wp2_with fail
        refine wp_loop_rounds 1 ?_
        rw [rounds_succ]
        go_wp2_with fail
        have HND : Hid (NodeA d) := ⟨by rw [HKV.out]; decide, by rw [HKV.out]; decide, by rw [HKV.out, HN.out]; rfl, fun h => absurd HKV.out h, by omega, fun _ => tb_nil.2 HT0.out, by rw [HT0.out]; omega, HE1.out, HE0.out, HV1.out, HV0.out, HPO.out, HTO.out⟩
        go_ret
        exact CtrAns.yes ⟨hd10, HND.out, fun i hi => absurd hi (by rw [HN.out]; exact Nat.not_lt_zero _)⟩ (by have h := HSZ.out; rw [HN.out] at h; have h2 : sumN 0 (fun i => asz (kid i)) = 0 := rfl; have h3 := HLe.out; omega) (by have h := HSZ.out; rw [HN.out] at h; have h2 : sumN 0 (fun i => asz (kid i)) = 0 := rfl; have h3 := HLe.out; omega) HCr.out.ct HCr.out.pa
end Go.Proofs.Ytpgbhkkdbkecoaa
