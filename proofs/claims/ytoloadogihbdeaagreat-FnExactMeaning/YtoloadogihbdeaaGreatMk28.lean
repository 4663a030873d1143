import Derived.Test.YtoloadogihbdeaaGreatMk21
import Derived.Test.YtoloadogihbdeaaGreatMk22
import Derived.Test.YtoloadogihbdeaaGreatMk23
import Derived.Test.YtoloadogihbdeaaGreatMk24
import Derived.Test.YtoloadogihbdeaaGreatMk25
import Derived.Test.YtoloadogihbdeaaGreatMk26
import Derived.Test.YtoloadogihbdeaaGreatMk27
namespace Go.Proofs.YtoloadogihbdeaaGreat
open Go.RowKit Go.Deep
set_option maxHeartbeats 40000000
set_option maxRecDepth 100000
theorem l7planOk_out (d : PN) (kid : Nat → PT) (hkv : d.k < 0 ∨ 8 < d.k) (deep L : Int) (g : Nat) (w0 w : World) (hw : Bl w0 w) (hg : w0.heap.size ≤ g) (hc : Ctr w g L) (hL0 : 0 ≤ L) (hL1 : L ≤ 100000) :
 Calls Tryz.prog 75 #[.agg d.ar, .int .i64 deep, .pointer (some ⟨g, 0, none⟩)] w (CtrAns (pOk (.mk d kid) deep) (psz (.mk d kid)) g L w) := by
 have hgw : g < w.heap.size := hc.lt
 have HNO : Hd (¬ NodeP d) := fun hh => by
  have h1 := hh.k0
  have h2 := hh.k8
  omega
 have HCS : Hd (CS w0 w ((w.setCell ⟨g, 0, none⟩ (.int .i64 (L - 1))).alloc (.cells d.ar 46)) g (L - 1) d.cl) := CS.new hw hg hc d.ar 46 (L - 1)
 have c0 := fun o => ((bl_a (w := w) o).cell (p := ⟨g, 0, none⟩) hgw).trans hc.cell
 have f0 := fun o => ((bl_a (w := w) o).frozen (p := ⟨g, 0, none⟩) hgw).trans hc.fr
 have hwr : IntKind.i64.wrap (L - 1) = L - 1 := by rw [IntKind.wrap_i64]; omega
 clear hw hc
 go_enter Tryz.func75, Tryz.ntmps75
 go_upto_region 2 with fail
 generalize ((w.setCell ⟨g, 0, none⟩ (.int .i64 (L - 1))).alloc (.cells d.ar 46)) = W1 at *
 clear c0 f0 hwr
 have cg := HCS.o.ct.cell
 have x0 := HCS.o.bx.2 0 _ rfl
 by_cases hLz : L - 1 < 0
 · clear hkv
   go_wp2
   go_ret
   exact CtrAns.no (pOk_no HNO.o) HCS.o.ct HCS.o.pa
 by_cases hdz : deep > 480
 · clear hkv
   go_wp2
   go_ret
   exact CtrAns.no (pOk_no HNO.o) HCS.o.ct HCS.o.pa
 by_cases hk0 : d.k < 0
 · clear hkv
   go_wp2
   go_ret
   exact CtrAns.no (pOk_no HNO.o) HCS.o.ct HCS.o.pa
 have hk7 : d.k > 8 := by omega
 clear hkv
 go_wp2
 go_ret
 exact CtrAns.no (pOk_no HNO.o) HCS.o.ct HCS.o.pa
theorem l7planOk_any (e : PT) : ∀ (deep L : Int) (g : Nat) (w0 w : World), e.lies 0 w0 → Bl w0 w → w0.heap.size ≤ g → Ctr w g L → 0 ≤ deep → deep ≤ 100000 → 0 ≤ L → L ≤ 100000 →
 Calls Tryz.prog 75 #[.agg e.d.ar, .int .i64 deep, .pointer (some ⟨g, 0, none⟩)] w (CtrAns (pOk e deep) (psz e) g L w) := by
 induction e with
 | nil => exact fun _ _ _ _ _ h => False.elim h
 | mk d kid ih =>
  intro deep L g w0 w hl hw hg hc hd0 hd1 hL0 hL1
  have hk := hl.2.2.2.2.2.2.2
  have IH : ∀ i, i < d.n → ∀ (L' : Int) (W : World), Bl w0 W → Ctr W g L' → 0 ≤ L' → L' ≤ 100000 → deep ≤ 480 → Calls Tryz.prog 75 #[.agg (kid i).d.ar, .int .i64 (deep + 1), .pointer (some ⟨g, 0, none⟩)] W (CtrAns (pOk (kid i) (deep + 1)) (psz (kid i)) g L' W) := fun i hi L' W hb hc' h0 h1 h10 => ih i (deep + 1) L' g w0 W (hk i hi) hb hg hc' (by omega) (by omega) h0 h1
  by_cases hout : d.k < 0 ∨ 8 < d.k
  · exact l7planOk_out d kid hout deep L g w0 w hw hg hc hL0 hL1
  rcases (by omega : d.k = 0 ∨ d.k = 1 ∨ d.k = 2 ∨ d.k = 3 ∨ d.k = 4 ∨ d.k = 5 ∨ d.k = 6 ∨ d.k = 7 ∨ d.k = 8) with h | h | h | h | h | h | h | h | h
  · exact l7planOk_0 d kid h deep L g w0 w hl hw hg hc hd0 hd1 hL0 hL1 IH
  · exact l7planOk_1 d kid h deep L g w0 w hl hw hg hc hd0 hd1 hL0 hL1 IH
  · exact l7planOk_2 d kid h deep L g w0 w hl hw hg hc hd0 hd1 hL0 hL1 IH
  · exact l7planOk_3 d kid h deep L g w0 w hl hw hg hc hd0 hd1 hL0 hL1 IH
  · exact l7planOk_4 d kid h deep L g w0 w hl hw hg hc hd0 hd1 hL0 hL1 IH
  · exact l7planOk_5 d kid h deep L g w0 w hl hw hg hc hd0 hd1 hL0 hL1 IH
  · exact l7planOk_6 d kid h deep L g w0 w hl hw hg hc hd0 hd1 hL0 hL1 IH
  · exact l7planOk_7 d kid h deep L g w0 w hl hw hg hc hd0 hd1 hL0 hL1 IH
  exact l7planOk_8 d kid h deep L g w0 w hl hw hg hc hd0 hd1 hL0 hL1 IH
def pV : PT → List (List Int) → List (List Int)
 | .nil, l => l
 | .mk d kid, l => foldN d.n (fun i acc => pV (kid i) acc) (addV (eV d.e (ptV d.p l)) d.v.b)
def pc : PT → Nat
 | .nil => 0
 | .mk d kid => 3 + esz d.e + 1 + sumN d.n (fun i => pc (kid i))
theorem pV_len (e : PT) : ∀ l, (pV e l).length ≤ l.length + pc e := by
 induction e with
 | nil => exact fun l => nR
 | mk d kid ih =>
  intro l
  have h0 := ptV_len d.p l
  have h1 := eV_len d.e (ptV d.p l)
  have h2 := addV_len (eV d.e (ptV d.p l)) d.v.b
  have h3 := foldN_len (f := fun i acc => pV (kid i) acc) (c := fun i => pc (kid i)) (n := d.n) (fun i l _ => ih i l) (addV (eV d.e (ptV d.p l)) d.v.b)
  show (foldN d.n (fun i acc => pV (kid i) acc) (addV (eV d.e (ptV d.p l)) d.v.b)).length ≤ l.length + (3 + esz d.e + 1 + sumN d.n (fun i => pc (kid i)))
  omega
theorem pc_le {e : PT} : ∀ {deep : Int}, pOk e deep → pc e ≤ 5 * psz e := by
 induction e with
 | nil => exact fun h => False.elim h
 | mk d kid ih =>
  intro deep h
  obtain ⟨_, hn, hk⟩ := h
  have h1 : ∀ m, m ≤ d.n → sumN m (fun i => pc (kid i)) ≤ 5 * sumN m (fun i => psz (kid i)) := by
   intro m
   induction m with
   | zero => exact fun _ => nR
   | succ m ihm =>
    intro hm
    have h2 := ihm (by omega)
    have h3 := ih m (hk m (by omega))
    show sumN m (fun i => pc (kid i)) + pc (kid m) ≤ 5 * (sumN m (fun i => psz (kid i)) + psz (kid m))
    omega
  have h2 := h1 d.n nR
  show 3 + esz d.e + 1 + sumN d.n (fun i => pc (kid i)) ≤ 5 * (ownP d + sumN d.n (fun i => psz (kid i)))
  unfold ownP
  split
  · omega
  rename_i hE
  have h3 := hn.e0 hE
  have h4 : esz d.e ≤ 1 := by
   cases he : d.e with
   | nil => exact nZ
   | mk d2 k2 =>
    rw [he] at h3
    have h5 : d2.n = 0 := h3.2.2.2.2
    show 1 + sumN d2.n _ ≤ 1
    rw [h5]
    exact nR
  omega
theorem l7vars_any (e : PT) : ∀ (v : Value) (L : List SL) (B : Nat) (w0 w : World), e.lies 0 w0 → VL w0 w B v L → Bl w0 w → L.length + pc e ≤ 1000000 → B ≤ w.heap.size → w0.heap.size ≤ B →
 Calls Tryz.prog 76 #[v, .agg e.d.ar] w (AddAns w0 B v (pV e (L.map SL.b)) w) := by
 try unfold PN.ar
 induction e with
 | nil => exact fun _ _ _ _ _ h => False.elim h
 | mk d kid ih =>
  intro v L B w0 w hl hV hw hn hB hwB
  show Calls Tryz.prog 76 #[v, .agg d.ar] w (AddAns w0 B v (foldN d.n (fun i acc => pV (kid i) acc) (addV (eV d.e (ptV d.p (L.map SL.b))) d.v.b)) w)
  obtain ⟨hp, he, hv, _, _, hn20, hR, hk⟩ := hl
  have hac : pc (.mk d kid) = 3 + esz d.e + 1 + sumN d.n (fun i => pc (kid i)) := rfl
  obtain ⟨W, hW⟩ : ∃ W, W = w.alloc (.cells d.ar 46) := ⟨_, rfl⟩
  have hbW : Bl w W := by rw [hW]; exact bl_a _
  have HWE : Hd (W = w.alloc (.cells d.ar 46)) := hW
  have HNV : Hd (v.ownBlock ≠ some w.heap.size) := hV.ne
  have HLS : Hd (LS w0 w W B v v L d.cells W) := ⟨hV.below hbW, Kp.of_below brf, (show Box _ _ _ by rw [hW]; exact Box.new w d.ar 46 _), hw.trans (hbW.mono hw.size), Nat.le_trans hB hbW.size, hV.ne⟩
  have HBW : Hd (Bl w W) := hbW
  have HPT : Hd (BsF 0 w0 d.p.s.v ∧ BsF 0 w0 d.p.p.v ∧ BsF 0 w0 d.p.o.v) := ⟨hp.1.1, hp.2.1.1, hp.2.2.1⟩
  have HEL : Hd (d.e.lies 0 w0) := he
  have HVX : Hd (BsF 0 w0 d.v) := hv
  have HKR : Hd (KRow 0 w0 28 d.ka d.n (fun i => (kid i).d.cells)) := hR
  have HIH : Hd (∀ i, i < d.n → ∀ (v' : Value) (L' : List SL) (W' : World), VL w0 W' B v' L' → Bl w0 W' → L'.length + pc (kid i) ≤ 1000000 → B ≤ W'.heap.size → Cl 76 #[v', .agg (kid i).d.ar] W' (AddAns w0 B v' (pV (kid i) (L'.map SL.b)) W')) := fun i hi v' L' W' h1 h2 h3 h4 => ih i v' L' B w0 W' (hk i hi) h1 h2 h3 h4 hwB
  have HLA : Hd (L.length + 3 + esz d.e + 1 + sumN d.n (fun i => pc (kid i)) ≤ 1000000) := (show _ ≤ 1000000 by omega)
  have HLQ : Hd ((addV (L.map SL.b) d.p.s.v.b).length ≤ 1000000 ∧ (addV (addV (L.map SL.b) d.p.s.v.b) d.p.p.v.b).length ≤ 1000000 ∧ (addV (addV (addV (L.map SL.b) d.p.s.v.b) d.p.p.v.b) d.p.o.v.b).length ≤ 1000000) := by
   have h1 := addV_len (L.map SL.b) d.p.s.v.b
   have h2 := addV_len (addV (L.map SL.b) d.p.s.v.b) d.p.p.v.b
   have h3 := addV_len (addV (addV (L.map SL.b) d.p.s.v.b) d.p.p.v.b) d.p.o.v.b
   have h4 := HLA.o
   rw [List.length_map] at h1
   exact ⟨by omega, by omega, by omega⟩
  have HLE : Hd ((ptV d.p (L.map SL.b)).length + esz d.e ≤ 1000000 ∧ (eV d.e (ptV d.p (L.map SL.b))).length ≤ 1000000) := by
   have h5 := eV_len d.e (ptV d.p (L.map SL.b))
   have h6 := ptV_len d.p (L.map SL.b)
   have h7 := HLA.o
   rw [List.length_map] at h6
   exact ⟨by omega, by omega⟩
  have HLK : Hd (∀ k, k < d.n → (foldN k (fun i acc => pV (kid i) acc) (addV (eV d.e (ptV d.p (L.map SL.b))) d.v.b)).length + pc (kid k) ≤ 1000000) := fun k hk => by
   have h1 := foldN_len (f := (fun i acc => pV (kid i) acc)) (c := fun i => pc (kid i)) (n := k) (fun i l _ => pV_len (kid i) l) (addV (eV d.e (ptV d.p (L.map SL.b))) d.v.b)
   have h2 := addV_len (eV d.e (ptV d.p (L.map SL.b))) d.v.b
   have h5 := eV_len d.e (ptV d.p (L.map SL.b))
   have h6 := ptV_len d.p (L.map SL.b)
   rw [List.length_map] at h6
   have h3 := sumN_mono (f := fun i => pc (kid i)) (show k + 1 ≤ d.n by omega)
   have h4 : sumN (k + 1) (fun i => pc (kid i)) = sumN k (fun i => pc (kid i)) + pc (kid k) := rfl
   have h7 := HLA.o
   omega
  have HS0 : Hd (LS w0 w W B v v L d.cells W.drew) := HLS.o.below bdr
  have HLN1 : Hd (L.length ≤ 1000000) := (show L.length ≤ 1000000 by omega)
  have HF : Hd (∀ w', (Bl w0 w' ∧ Box w' w.heap.size d.cells) → w'.cell? ⟨w.heap.size, 2, none⟩ = some (.slice d.p.s.v.a d.p.s.v.len d.p.s.v.cap) ∧ w'.cell? ⟨w.heap.size, 7, none⟩ = some (.slice d.p.p.v.a d.p.p.v.len d.p.p.v.cap) ∧ w'.cell? ⟨w.heap.size, 12, none⟩ = some (.slice d.p.o.v.a d.p.o.v.len d.p.o.v.cap)) := fun w' hw' => ⟨hw'.2.2 2 _ rfl, hw'.2.2 7 _ rfl, hw'.2.2 12 _ rfl⟩
  clear hR hk ih hv hV hw hn hB hbW hac hp he
  go_enter Tryz.func76, Tryz.ntmps76
  go_upto_region 1 with fail
  rw [← hW]
  clear hW
  go_wp2_with fail
  refine whd (fun w' => Bl w0 w' ∧ Box w' w.heap.size d.cells) ?_ fun hHeld => ?_
  · exact ⟨Below.drew HLS.o.bl, HLS.o.bx.below bdr⟩
  refine tkB 0 6 ?_
  refine tkB 1 7 ?_
  refine tkB 2 8 ?_
  refine tkB 3 9 ?_
  refine tkA 4 10 (v := ?v5) ?y5 ?_
  case y5 => (intro w' hSw; obtain ⟨q1, q2, q3⟩ := HF.o w' hSw; go_simp; (try with_reducible rfl))
  refine tkB 6 12 ?_
  refine tkB 7 13 ?_
  refine tkB 8 14 ?_
  refine tkA 9 15 (v := ?v9) ?y9 ?_
  case y9 => (intro w' hSw; obtain ⟨q1, q2, q3⟩ := HF.o w' hSw; go_simp; (try with_reducible rfl))
  refine tkB 11 17 ?_
  refine tkB 12 18 ?_
  refine tkB 13 19 ?_
  refine tkA 14 20 (v := ?v13) ?y13 ?_
  case y13 => (intro w' hSw; obtain ⟨q1, q2, q3⟩ := HF.o w' hSw; go_simp; (try with_reducible rfl))
  try simp only [Act.put, sA, zA, cA]
  refine rdA 5 fun K hK => ?_
  go_simp
  refine (l4add_any v L d.p.s.v B w0 _ HS0.o.vl HS0.o.bl HPT.o.1 HLN1.o HS0.o.lo).mono ?_
  rintro e z1 ⟨v1, M1, rfl, hV1, hR1, hK1⟩
  have HS1 : Hd (LS w0 w W B v v1 M1 d.cells z1) := HS0.o.step HWE.o HNV.o hwB hV1 hK1
  have HE1 : Hd (M1.map SL.b = addV (L.map SL.b) d.p.s.v.b) := (show _ = _ by rw [hR1])
  clear hV1 hR1 hK1
  have HLN2 : Hd (M1.length ≤ 1000000) := (show M1.length ≤ 1000000 by have h1 := congrArg List.length HE1.o; rw [List.length_map] at h1; have h2 := HLQ.o; omega)
  go_wp2_with fail
  refine hK.out _ _ ?_ fun hHeld => ?_
  · exact ⟨HS1.o.bl, HS1.o.bx⟩
  clear hK K
  try simp only [Act.put, sA, zA, cA]
  refine rdA 10 fun K hK => ?_
  go_simp
  refine (l4add_any v1 M1 d.p.p.v B w0 _ HS1.o.vl HS1.o.bl HPT.o.2.1 HLN2.o HS1.o.lo).mono ?_
  rintro e z2 ⟨v2, M2, rfl, hV2, hR2, hK2⟩
  have HS2 : Hd (LS w0 w W B v v2 M2 d.cells z2) := HS1.o.step HWE.o HNV.o hwB hV2 hK2
  have HE2 : Hd (M2.map SL.b = addV (addV (L.map SL.b) d.p.s.v.b) d.p.p.v.b) := (show _ = _ by rw [hR2, HE1.o])
  clear hV2 hR2 hK2
  have HLN3 : Hd (M2.length ≤ 1000000) := (show M2.length ≤ 1000000 by have h1 := congrArg List.length HE2.o; rw [List.length_map] at h1; have h2 := HLQ.o; omega)
  go_wp2_with fail
  refine hK.out _ _ ?_ fun hHeld => ?_
  · exact ⟨HS2.o.bl, HS2.o.bx⟩
  clear hK K
  try simp only [Act.put, sA, zA, cA]
  refine rdA 15 fun K hK => ?_
  go_simp
  refine (l4add_any v2 M2 d.p.o.v B w0 _ HS2.o.vl HS2.o.bl HPT.o.2.2 HLN3.o HS2.o.lo).mono ?_
  rintro e z3 ⟨v3, M3, rfl, hV3, hR3, hK3⟩
  have HS3 : Hd (LS w0 w W B v v3 M3 d.cells z3) := HS2.o.step HWE.o HNV.o hwB hV3 hK3
  have HE3 : Hd (M3.map SL.b = addV (addV (addV (L.map SL.b) d.p.s.v.b) d.p.p.v.b) d.p.o.v.b) := (show _ = _ by rw [hR3, HE2.o])
  clear hV3 hR3 hK3
  have HLN4 : Hd (M3.length ≤ 1000000) := (show M3.length ≤ 1000000 by have h1 := congrArg List.length HE3.o; rw [List.length_map] at h1; have h2 := HLQ.o; omega)
  go_wp2_with fail
  refine hK.out _ _ ?_ fun hHeld => ?_
  · exact ⟨HS3.o.bl, HS3.o.bx⟩
  clear hK K
  refine tkB 16 0 ?_
  refine wpAnyH_done (by kernel_rfl) ?_ _
  have HE3 : Hd (M3.map SL.b = ptV d.p (L.map SL.b)) := HE3
  clear hHeld HF HS0 HS1 HS2 HE1 HE2 HLN1 HLN2 HLN3 HLN4 HLS
  have HS0 : Hd (LS w0 w W B v v3 M3 d.cells z3.drew) := HS3.o.below bdr
  have HF5 : Hd (∀ w', (Bl w0 w' ∧ Box w' w.heap.size d.cells) → w'.cell? ⟨w.heap.size, 25, none⟩ = some (.slice d.v.a d.v.len d.v.cap) ∧ True) := fun w' hw' => ⟨hw'.2.2 25 _ rfl, trivial⟩
  have HLN1 : Hd (M3.length + esz d.e ≤ 1000000) := (show _ ≤ 1000000 by have h1 := congrArg List.length HE3.o; rw [List.length_map] at h1; rw [h1]; exact HLE.o.1)
  go_wp2_with fail
  refine whd (fun w' => Bl w0 w' ∧ Box w' w.heap.size d.cells) ?_ fun hHeld => ?_
  · exact ⟨Below.drew HS3.o.bl, HS3.o.bx.below bdr⟩
  refine tkB 0 22 ?_
  refine tkB 1 23 ?_
  refine takeq (i := 2) 24 (v := .agg d.e.d.ar) rfl rfl (by kernel_rfl) (by kernel_rfl) (by kernel_rfl) (fun _ _ _ h => h) (yieldsIf_load_mid (by rfl) 42 _ rfl w.heap.size 17 rfl d.e.d.cl _ (fun w' hw' => hw'.2.range 17 _ rfl) Tryz.underlying42 rfl (by kernel_rfl)) hHeld ?_
  refine tkB 4 26 ?_
  refine tkA 5 27 (v := ?v18) ?y18 ?_
  case y18 => (intro w' hSw; obtain ⟨q1, q2⟩ := HF5.o w' hSw; go_simp; (try with_reducible rfl))
  try simp only [Act.put, sA, zA, cA]
  refine rdA 3 fun K hK => ?_
  go_simp
  refine (l4exprVars_any d.e v3 M3 B w0 _ HEL.o HS0.o.vl HS0.o.bl HLN1.o HS0.o.lo hwB).mono ?_
  rintro e z1 ⟨v4, M4, rfl, hV4, hR4, hK4⟩
  have HS4 : Hd (LS w0 w W B v v4 M4 d.cells z1) := HS0.o.step HWE.o HNV.o hwB hV4 hK4
  have HE4 : Hd (M4.map SL.b = eV d.e (ptV d.p (L.map SL.b))) := (show _ = _ by rw [hR4, HE3.o])
  have HLN2 : Hd (M4.length ≤ 1000000) := (show M4.length ≤ 1000000 by have h1 := congrArg List.length HE4.o; rw [List.length_map] at h1; rw [h1]; exact HLE.o.2)
  clear hV4 hR4 hK4
  go_wp2_with fail
  refine hK.out _ _ ?_ fun hHeld => ?_
  · exact ⟨HS4.o.bl, HS4.o.bx⟩
  clear hK K
  try simp only [Act.put, sA, zA, cA]
  refine rdA 6 fun K hK => ?_
  go_simp
  refine (l4add_any v4 M4 d.v B w0 _ HS4.o.vl HS4.o.bl HVX.o HLN2.o HS4.o.lo).mono ?_
  rintro e z2 ⟨v5, M5, rfl, hV5, hR5, hK5⟩
  have HS5 : Hd (LS w0 w W B v v5 M5 d.cells z2) := HS4.o.step HWE.o HNV.o hwB hV5 hK5
  have HE5 : Hd (M5.map SL.b = foldN 0 (fun i acc => pV (kid i) acc) (addV (eV d.e (ptV d.p (L.map SL.b))) d.v.b)) := (show M5.map SL.b = addV (eV d.e (ptV d.p (L.map SL.b))) d.v.b by rw [hR5, HE4.o])
  clear hV5 hR5 hK5
  go_wp2_with fail
  refine hK.out _ _ ?_ fun hHeld => ?_
  · exact ⟨HS5.o.bl, HS5.o.bx⟩
  clear hK K
  refine tkB 7 0 ?_
  refine wpAnyH_done (by kernel_rfl) ?_ _
  clear hHeld HF5 HS0 HS3 HS4 HE3 HE4 HLN1 HLN2
  go_wp2_with fail
  go_loopw [0, 5] (fun lv i wr => ∃ (k : Nat) (v' : Value) (L' : List SL), k ≤ d.n ∧ v' = lv ∧ i = .int .i64 k ∧ Hd (LS w0 w W B v v' L' d.cells wr) ∧ Hd (L'.map SL.b = foldN k (fun i acc => pV (kid i) acc) (addV (eV d.e (ptV d.p (L.map SL.b))) d.v.b))) (fun _ i _ => d.n - (intOf i).toNat)
  case atStart => exact ⟨0, v5, M5, nZ, rfl, rfl, HS5, HE5⟩
  clear HS5 HE5
  obtain ⟨k, v', L', hk, rfl, rfl, HSr, HRr⟩ := hrel
  have x27 := HSr.o.bx.2 27 _ rfl
  by_cases hlk : k < d.n
  · have hlkz : (k : Int) < (d.n : Int) := by omega
    obtain ⟨b, off, eK, _, hbk, hck⟩ := HKR.o.resolve_left (by omega)
    have hcx : wr.rangeAt b (off + k * 28) (kid k).d.cl := fun c u hu => (HSr.o.bl.cell (p := ⟨b, off + k * 28 + c, none⟩) hbk).trans (hck k hlk c u hu)
    have hll : L'.length = (foldN k (fun i acc => pV (kid i) acc) (addV (eV d.e (ptV d.p (L.map SL.b))) d.v.b)).length := by rw [← HRr.o, List.length_map]
    have Z := HIH.o k hlk v' L' wr HSr.o.vl HSr.o.bl (by rw [hll]; exact HLK.o k hlk) HSr.o.lo
    rw [HRr.o] at Z
    have HS : Hd (foldN (k + 1) (fun i acc => pV (kid i) acc) (addV (eV d.e (ptV d.p (L.map SL.b))) d.v.b) = pV (kid k) (foldN k (fun i acc => pV (kid i) acc) (addV (eV d.e (ptV d.p (L.map SL.b))) d.v.b))) := rfl
    rw [eK] at x27
    clear eK hck hll
    go_wp2_with (with_reducible refine wpq_at ?_; refine wpList_load_mid rfl 46 _ rfl b (off + k * 28) rfl (kid k).d.cl _ hcx Tryz.underlying46 rfl (by kernel_rfl) ?_; try simp only [Act.put, sA, zA, cA])
    refine Z.mono ?_
    rintro e w5 ⟨v6, L6, rfl, hV6, hR6, hK6⟩
    have HN1 : Hd (LS w0 w W B v v6 L6 d.cells w5) := HSr.o.step HWE.o HNV.o hwB hV6 hK6
    have HN2 : Hd (L6.map SL.b = foldN (k + 1) (fun i acc => pV (kid i) acc) (addV (eV d.e (ptV d.p (L.map SL.b))) d.v.b)) := (show _ = _ by rw [HS.o]; exact hR6)
    clear Z hcx hV6 hR6 hK6 x27 HSr HRr
    go_wp2
    go_roundw
    case rel => exact ⟨k + 1, v6, L6, by omega, rfl, by go_num, HN1, HN2⟩
    case measure => simp [intOf]; omega
  obtain rfl : k = d.n := by omega
  have hlkz : ¬ (d.n : Int) < (d.n : Int) := by omega
  go_wp2
  go_ret
  exact ⟨_, L', rfl, HSr.o.vl, HRr.o, Kp.pre HBW.o HSr.o.kp⟩
end Go.Proofs.YtoloadogihbdeaaGreat
