import Derived.Test.YtoloadogihbdeaaGreatMk18
import Derived.Test.YtoloadogihbdeaaGreatMk16
namespace Go.Proofs.YtoloadogihbdeaaGreat
open Go.RowKit Go.Deep
set_option maxHeartbeats 40000000
set_option maxRecDepth 100000
variable {a a' : AT} {cs : Array Value} {e' : ET} {k x : Int} {l : List Int} {B b g n sz : Nat} {p p' : PT} {t : TypeId} {v : Value} {W w w0 : World}
theorem hidOf {P : Prop} (h : P) : Hd P := h
def RowQ (w : World) (g : Nat) (v : Value) (sz : Nat) (a : Option Addr) (n : Nat) (C : Nat → List Value) : Prop :=
 n = 0 ∨ ∃ b off, a = some ⟨b, off, none⟩ ∧ b < w.heap.size ∧ b ≠ g ∧ v.ownBlock ≠ some b ∧ ∀ i, i < n → ∀ c u, (C i)[c]? = some u → w.cell? ⟨b, off + i * sz + c, none⟩ = some u
theorem RowQ.of_krow {L : List SL} {a : Option Addr} {C : Nat → List Value} (h : KRow 0 w0 sz a n C) (hV : VQ w0 w B g v L) : RowQ w g v sz a n C := by
 rcases h with h | ⟨b, off, ha, _, hlt, hc⟩
 · exact .inl h
 refine .inr ⟨b, off, ha, Nat.lt_of_lt_of_le hlt hV.bl.size, ?_, fun e => ?_, fun i hi c u hu => (hV.bl.cell (p := ⟨b, off + i * sz + c, none⟩) hlt).trans (hc i hi c u hu)⟩
 · have := hV.gl
   omega
 have h1 := (hV.vl.lo b e).1;have h2 := hV.lo;omega
theorem AT.open {e : AT} (h : e.lies 0 w) : KRow 0 w 15 e.d.pa e.d.pn (fun i => (e.d.pat i).cells) ∧ (∀ i, i < e.d.pn → (e.d.pat i).lies 0 w) ∧ e.d.pn ≤ 1048576 ∧ e.d.e.lies 0 w ∧ BsF 0 w e.d.v ∧ e.d.n ≤ 1048576 ∧ KRow 0 w 13 e.d.ka e.d.n (fun i => (e.kid i).d.cells) ∧ (∀ i, i < e.d.n → (e.kid i).lies 0 w)
 ∧ ac e = 3 * e.d.pn + esz e.d.e + 1 + sumN e.d.n (fun i => ac (e.kid i)) ∧ (∀ l, aV e l = foldN e.d.n (fun i acc => aV (e.kid i) acc) (addV (eV e.d.e (foldN e.d.pn (fun i acc => ptV (e.d.pat i) acc) l)) e.d.v.b)) ∧ e = .mk e.d e.kid := by
 cases e with
 | nil => exact False.elim h
 | mk d kid =>
  obtain ⟨h1, h2, h3, h4, h5, _, _, h8, h9, h10⟩ := h;exact ⟨h1, h2, h3, h4, h5, h8, h9, h10, rfl, fun _ => rfl, rfl⟩
theorem addAlgs_one (kid : Nat → AT) (n : Nat) (v : Value) (L : List SL) (B g : Nat) (w0 w : World) (a : Option Addr) (cap : Nat) (hk : ∀ i, i < n → (kid i).lies 0 w0) (hrow : RowQ w g v 13 a n (fun i => (kid i).d.cells)) (hV : VQ w0 w B g v L) (hL : L.length + sumN n (fun i => ac (kid i)) ≤ 1000000) (hn : n ≤ 1048576)
 (IH : ∀ i, i < n → ∀ (v' : Value) (L' : List SL) (W : World) (a' : Option Addr) (c' : Nat), (∀ j, j < (kid i).d.n → ((kid i).kid j).lies 0 w0) → RowQ W g v' 13 a' (kid i).d.n (fun j => ((kid i).kid j).d.cells) → VQ w0 W B g v' L' → L'.length + sumN (kid i).d.n (fun j => ac ((kid i).kid j)) ≤ 1000000 → (kid i).d.n ≤ 1048576 → Calls Tryz.prog 83 #[.pointer (some ⟨g, 0, none⟩), .slice a' (kid i).d.n c'] W (AddQ w0 B g v' (foldN (kid i).d.n (fun j acc => aV ((kid i).kid j) acc) (L'.map SL.b)) W)) :
 Calls Tryz.prog 83 #[.pointer (some ⟨g, 0, none⟩), .slice a n cap] w (AddQ w0 B g v (foldN n (fun i acc => aV (kid i) acc) (L.map SL.b)) w) := by
 by_cases hn1 : n = 0
 · subst hn1
   have HV := iH hV;clear hV hrow hk hL IH;go_in;go_wp2_with fail
   go_loopw [10] (fun i wr => i = .int .i64 0 ∧ Hd (VQ w0 wr B g v L) ∧ Hd (KQ g v w v wr)) (fun _ _ => 0)
   case atStart => exact ⟨rfl, HV, KQ.of_below brf⟩
   obtain ⟨rfl, HVr, HKr⟩ := hrel;go_wp2;go_end0;exact ⟨v, L, rfl, HVr.o, rfl, HKr.o⟩
 obtain ⟨b, off, rfl, hbw, hbg, hbv, hck⟩ := hrow.resolve_left hn1;have HCK := iH hck;have HBV : Hd (b ≠ g ∧ v.ownBlock ≠ some b) := ⟨hbg, hbv⟩;have HKL := iH hk;have HV0 := iH hV;have HIH := iH IH;have HLK : Hd (∀ k, k < n → (foldN k (fun i acc => aV (kid i) acc) (L.map SL.b)).length + ac (kid k) ≤ 1000000) := fun k hk => by
  have h1 := foldN_len (f := (fun i acc => aV (kid i) acc)) (c := fun i => ac (kid i)) (n := k) (fun i l _ => aV_len (kid i) l) (L.map SL.b);rw [List.length_map] at h1;have h3 := sumN_mono (f := fun i => ac (kid i)) (show k + 1 ≤ n by omega);have h4 : sumN (k + 1) (fun i => ac (kid i)) = sumN k (fun i => ac (kid i)) + ac (kid k) := rfl;omega
 clear hck hrow hk hV hL IH hbg hbv;go_in;go_wp2_with fail
 go_loopw [10] (fun i wr => ∃ (k : Nat) (vr : Value) (Lr : List SL), k ≤ n ∧ i = .int .i64 k ∧ Hd (Lr.map SL.b = (foldN k (fun i acc => aV (kid i) acc) (L.map SL.b))) ∧ Hd (VQ w0 wr B g vr Lr) ∧ Hd (KQ g v w vr wr)) (fun i _ => n - (intOf i).toNat)
 case atStart => exact ⟨0, v, L, nZ, rfl, rfl, HV0, KQ.of_below brf⟩
 clear HV0;obtain ⟨k, vr, Lr, hk, rfl, HRr, HVr, HKr⟩ := hrel;by_cases hlk : k < n;rotate_left
 · obtain rfl : k = n := by omega
   have hlkz : ¬ (k : Int) < (k : Int) := by omega
   go_wp2;go_end0;exact ⟨vr, Lr, rfl, HVr.o, HRr.o, HKr.o⟩
 generalize wr = u at *;have hlkz : (k : Int) < (n : Int) := by omega
 have HOP := hidOf (AT.open (HKL.o k hlk));have hcx : u.rangeAt b (off + k * 13) (kid k).d.cl := fun c x hx => (World.cell?_of_block (w := w) (a := ⟨b, off + k * 13 + c, none⟩) (HKr.o.block b hbw HBV.o.1 HBV.o.2)).trans (HCK.o k hlk c x hx);have HLr : Hd (Lr.length + ac (kid k) ≤ 1000000) := (show _ ≤ 1000000 by have h1 := HLK.o k hlk; have h2 := congrArg List.length HRr.o; rw [List.length_map] at h2; omega);have HQ0 := iH (QS.new HVr.o (kid k).d.ar 52);have HKRp := hidOf HOP.o.1;go_upto_region 3 with (with_reducible refine wpl_at ?_; refine wpList_load_mid rfl 52 _ rfl _ _ rfl (kid k).d.cl _ hcx Tryz.underlying52 rfl (by kernel_rfl) ?_; try simp only [Act.put, sA, zA, cA])
 clear hcx;generalize hWW : (u.alloc (.cells (kid k).d.ar 52)) = W1 at *;clear hWW;have x1 := HQ0.o.bx.2 1 _ rfl;obtain ⟨m, hmm⟩ : ∃ m, m = (kid k).d.pn := ⟨_, rfl⟩;have HMM := iH hmm;rw [← hmm] at x1;by_cases hm1 : m = 0
 · rw [hm1] at x1
   have HR0 : Hd (Lr.map SL.b = foldN (kid k).d.pn (fun i acc => ptV ((kid k).d.pat i) acc) (Lr.map SL.b)) := (show _ = _ by rw [← hmm, hm1]; rfl);clear hm1 hmm;go_wp2_with fail
   clear x1;go_loopw [17] (fun i wr => i = .int .i64 0 ∧ Hd (QS w0 u B g vr vr Lr [.int .i64 (kid k).d.k, .slice (kid k).d.pa (kid k).d.pn (kid k).d.pc, .int .i64 (kid k).d.e.d.k, .int .i64 (kid k).d.e.d.op, .slice (kid k).d.e.d.v.a (kid k).d.e.d.v.len (kid k).d.e.d.v.cap, .int .i64 (kid k).d.e.d.t.t.k, .slice (kid k).d.e.d.t.t.a (kid k).d.e.d.t.t.len (kid k).d.e.d.t.t.cap, .int .i64 (kid k).d.e.d.t.t.n, .int .i64 (kid k).d.e.d.t.t.s, .slice (kid k).d.e.d.ka (kid k).d.e.d.n (kid k).d.e.d.kc, .slice (kid k).d.v.a (kid k).d.v.len (kid k).d.v.cap, .slice (kid k).d.ta (kid k).d.tb.length (kid k).d.tc, .slice (kid k).d.ka (kid k).d.n (kid k).d.kc] wr)) (fun _ _ => 0)
   case atStart => exact ⟨rfl, HQ0⟩
   clear HQ0;obtain ⟨rfl, HQ2⟩ := hrel;have HR2 := HR0;have HLa : Hd (Lr.length + esz (kid k).d.e + 1 + sumN (kid k).d.n (fun i => ac ((kid k).kid i)) ≤ 1000000) := (show _ ≤ 1000000 by
    have h1 := foldN_len (f := (fun i acc => ptV ((kid k).d.pat i) acc)) (c := fun _ => 3) (n := (kid k).d.pn) (fun i l _ => ptV_len ((kid k).d.pat i) l) (Lr.map SL.b)
    rw [sum3, List.length_map] at h1
    have h2 := congrArg List.length HR2.o
    rw [List.length_map] at h2
    have h3 := HLr.o
    have h4 := HOP.o.2.2.2.2.2.2.2.2.1
    omega)
   have s2 := HQ2.o.bx.2 2 _ rfl;have s3 := HQ2.o.bx.2 3 _ rfl;have s4 := HQ2.o.bx.2 4 _ rfl;have s5 := HQ2.o.bx.2 5 _ rfl;have s6 := HQ2.o.bx.2 6 _ rfl;have s7 := HQ2.o.bx.2 7 _ rfl;have s8 := HQ2.o.bx.2 8 _ rfl;have s9 := HQ2.o.bx.2 9 _ rfl;go_wp2_with fail
   refine (addExpr_any (kid k).d.e vr Lr B g w0 _ HOP.o.2.2.2.1 HQ2.o.vq (by have := HLa.o; omega)).mono ?_;rintro e z3 ⟨v3, L3, rfl, hV3, hR3, hK3⟩;have HQ3 := iH (HQ2.o.step hV3 hK3);have HR3 := iH (show _ = _ from hR3.trans (congrArg _ HR2.o));have HLb : Hd (L3.length + 1 + sumN (kid k).d.n (fun i => ac ((kid k).kid i)) ≤ 1000000) := (show _ ≤ 1000000 by have h1 := congrArg List.length hR3; have h2 := eV_len (kid k).d.e (Lr.map SL.b); rw [List.length_map] at h1 h2; have h3 := HLa.o; omega);have s10 := HQ3.o.bx.2 10 _ rfl;clear hV3 hR3 hK3 HQ2 HR2 HLa s2 s3 s4 s5 s6 s7 s8 s9;go_wp2_with fail
   refine (add_any v3 L3 (kid k).d.v B g w0 _ HQ3.o.vq HOP.o.2.2.2.2.1 (by have := HLb.o; omega)).mono ?_;rintro e z4 ⟨v4, L4, rfl, hV4, hR4, hK4⟩;have HQ4 := iH (HQ3.o.step hV4 hK4);have HR4 : Hd (L4.map SL.b = (addV (eV (kid k).d.e (foldN (kid k).d.pn (fun i acc => ptV ((kid k).d.pat i) acc) (Lr.map SL.b))) (kid k).d.v.b)) := (show _ = _ by rw [hR4, HR3.o]);have HLc : Hd (L4.length + sumN (kid k).d.n (fun i => ac ((kid k).kid i)) ≤ 1000000) := (show _ ≤ 1000000 by have h1 := congrArg List.length hR4; have h2 := addV_len (L3.map SL.b) (kid k).d.v.b; rw [List.length_map] at h1 h2; have h3 := HLb.o; omega);have s12 := HQ4.o.bx.2 12 _ rfl;clear hV4 hR4 hK4 HQ3 HR3 HLb s10;go_wp2_with fail
   refine (HIH.o k hlk v4 L4 z4 (kid k).d.ka (kid k).d.kc HOP.o.2.2.2.2.2.2.2.1 (RowQ.of_krow HOP.o.2.2.2.2.2.2.1 HQ4.o.vq) HQ4.o.vq HLc.o HOP.o.2.2.2.2.2.1).mono ?_;rintro e z5 ⟨v5, L5, rfl, hV5, hR5, hK5⟩;have HV5 := iH hV5;have HK5 := iH ((HKr.o.trans HQ4.o.kq).trans hK5);have HR5 : Hd (L5.map SL.b = foldN (k + 1) (fun i acc => aV (kid i) acc) (L.map SL.b)) := (show _ = aV _ _ by rw [hR5, HR4.o, ← HRr.o]; exact (HOP.o.2.2.2.2.2.2.2.2.2.1 _).symm);clear hV5 hR5 hK5 HQ4 HR4 HLc s12;go_wp2;go_roundw
   case rel => exact ⟨k + 1, v5, L5, by omega, by go_num, HR5, HV5, HK5⟩
   case measure => simp [intOf]; omega
 obtain ⟨pb, po, eP, _, hpb, hpc⟩ := HKRp.o.resolve_left (by omega);have HPC := iH hpc;rw [eP] at x1;have hm2 : m ≤ 1048576 := by have := HOP.o.2.2.1; omega
 clear hpc hmm eP HKRp hm1;go_wp2_with fail
 clear x1;go_loopw [17] (fun i wr => ∃ (j : Nat) (v2 : Value) (L2 : List SL), j ≤ m ∧ i = .int .i64 j ∧ Hd (L2.map SL.b = foldN j (fun i acc => ptV ((kid k).d.pat i) acc) (Lr.map SL.b)) ∧ Hd (QS w0 u B g vr v2 L2 [.int .i64 (kid k).d.k, .slice (kid k).d.pa (kid k).d.pn (kid k).d.pc, .int .i64 (kid k).d.e.d.k, .int .i64 (kid k).d.e.d.op, .slice (kid k).d.e.d.v.a (kid k).d.e.d.v.len (kid k).d.e.d.v.cap, .int .i64 (kid k).d.e.d.t.t.k, .slice (kid k).d.e.d.t.t.a (kid k).d.e.d.t.t.len (kid k).d.e.d.t.t.cap, .int .i64 (kid k).d.e.d.t.t.n, .int .i64 (kid k).d.e.d.t.t.s, .slice (kid k).d.e.d.ka (kid k).d.e.d.n (kid k).d.e.d.kc, .slice (kid k).d.v.a (kid k).d.v.len (kid k).d.v.cap, .slice (kid k).d.ta (kid k).d.tb.length (kid k).d.tc, .slice (kid k).d.ka (kid k).d.n (kid k).d.kc] wr)) (fun i _ => m - (intOf i).toNat)
 case atStart => exact ⟨0, vr, Lr, nZ, rfl, rfl, HQ0⟩
 clear HQ0;obtain ⟨j, v2, L2, hj, rfl, HRj, HQ2⟩ := hrel;by_cases hlj : j < m;rotate_left
 · obtain rfl : j = m := by omega
   have hljz : ¬ (j : Int) < (j : Int) := by omega
   have HR2 : Hd (L2.map SL.b = foldN (kid k).d.pn (fun i acc => ptV ((kid k).d.pat i) acc) (Lr.map SL.b)) := (show _ = _ by rw [← HMM.o]; exact HRj.o);have HLa : Hd (L2.length + esz (kid k).d.e + 1 + sumN (kid k).d.n (fun i => ac ((kid k).kid i)) ≤ 1000000) := (show _ ≤ 1000000 by
    have h1 := foldN_len (f := (fun i acc => ptV ((kid k).d.pat i) acc)) (c := fun _ => 3) (n := (kid k).d.pn) (fun i l _ => ptV_len ((kid k).d.pat i) l) (Lr.map SL.b)
    rw [sum3, List.length_map] at h1
    have h2 := congrArg List.length HR2.o
    rw [List.length_map] at h2
    have h3 := HLr.o
    have h4 := HOP.o.2.2.2.2.2.2.2.2.1
    omega)
   have s2 := HQ2.o.bx.2 2 _ rfl;have s3 := HQ2.o.bx.2 3 _ rfl;have s4 := HQ2.o.bx.2 4 _ rfl;have s5 := HQ2.o.bx.2 5 _ rfl;have s6 := HQ2.o.bx.2 6 _ rfl;have s7 := HQ2.o.bx.2 7 _ rfl;have s8 := HQ2.o.bx.2 8 _ rfl;have s9 := HQ2.o.bx.2 9 _ rfl;go_wp2_with fail
   refine (addExpr_any (kid k).d.e v2 L2 B g w0 _ HOP.o.2.2.2.1 HQ2.o.vq (by have := HLa.o; omega)).mono ?_;rintro e z3 ⟨v3, L3, rfl, hV3, hR3, hK3⟩;have HQ3 := iH (HQ2.o.step hV3 hK3);have HR3 := iH (show _ = _ from hR3.trans (congrArg _ HR2.o));have HLb : Hd (L3.length + 1 + sumN (kid k).d.n (fun i => ac ((kid k).kid i)) ≤ 1000000) := (show _ ≤ 1000000 by have h1 := congrArg List.length hR3; have h2 := eV_len (kid k).d.e (L2.map SL.b); rw [List.length_map] at h1 h2; have h3 := HLa.o; omega);have s10 := HQ3.o.bx.2 10 _ rfl;clear hV3 hR3 hK3 HQ2 HR2 HLa s2 s3 s4 s5 s6 s7 s8 s9;go_wp2_with fail
   refine (add_any v3 L3 (kid k).d.v B g w0 _ HQ3.o.vq HOP.o.2.2.2.2.1 (by have := HLb.o; omega)).mono ?_;rintro e z4 ⟨v4, L4, rfl, hV4, hR4, hK4⟩;have HQ4 := iH (HQ3.o.step hV4 hK4);have HR4 : Hd (L4.map SL.b = (addV (eV (kid k).d.e (foldN (kid k).d.pn (fun i acc => ptV ((kid k).d.pat i) acc) (Lr.map SL.b))) (kid k).d.v.b)) := (show _ = _ by rw [hR4, HR3.o]);have HLc : Hd (L4.length + sumN (kid k).d.n (fun i => ac ((kid k).kid i)) ≤ 1000000) := (show _ ≤ 1000000 by have h1 := congrArg List.length hR4; have h2 := addV_len (L3.map SL.b) (kid k).d.v.b; rw [List.length_map] at h1 h2; have h3 := HLb.o; omega);have s12 := HQ4.o.bx.2 12 _ rfl;clear hV4 hR4 hK4 HQ3 HR3 HLb s10;go_wp2_with fail
   refine (HIH.o k hlk v4 L4 z4 (kid k).d.ka (kid k).d.kc HOP.o.2.2.2.2.2.2.2.1 (RowQ.of_krow HOP.o.2.2.2.2.2.2.1 HQ4.o.vq) HQ4.o.vq HLc.o HOP.o.2.2.2.2.2.1).mono ?_;rintro e z5 ⟨v5, L5, rfl, hV5, hR5, hK5⟩;have HV5 := iH hV5;have HK5 := iH ((HKr.o.trans HQ4.o.kq).trans hK5);have HR5 : Hd (L5.map SL.b = foldN (k + 1) (fun i acc => aV (kid i) acc) (L.map SL.b)) := (show _ = aV _ _ by rw [hR5, HR4.o, ← HRr.o]; exact (HOP.o.2.2.2.2.2.2.2.2.2.1 _).symm);clear hV5 hR5 hK5 HQ4 HR4 HLc s12;go_wp2;go_roundw
   case rel => exact ⟨k + 1, v5, L5, by omega, by go_num, HR5, HV5, HK5⟩
   case measure => simp [intOf]; omega
 have hljz : (j : Int) < (m : Int) := by omega
 have hjp : j < (kid k).d.pn := by have := HMM.o; omega
 have hcx : wr.rangeAt pb (po + j * 15) ((kid k).d.pat j).cl := fun c x hx => (HQ2.o.vq.bl.cell (p := ⟨pb, po + j * 15 + c, none⟩) hpb).trans (HPC.o j hjp c x hx);have HL2 : Hd (L2.length + 3 ≤ 1000000) := (show _ ≤ 1000000 by
  have h1 := foldN_len (f := (fun i acc => ptV ((kid k).d.pat i) acc)) (c := fun _ => 3) (n := j) (fun i l _ => ptV_len ((kid k).d.pat i) l) (Lr.map SL.b)
  rw [sum3, List.length_map] at h1
  have h2 := congrArg List.length HRj.o
  rw [List.length_map] at h2
  have h3 := HLr.o
  have h4 := HOP.o.2.2.2.2.2.2.2.2.1
  omega)
 go_wp2_with (with_reducible refine wpl_at ?_; refine wpList_load_mid rfl 39 _ rfl _ _ rfl ((kid k).d.pat j).cl _ hcx Tryz.underlying39 rfl (by kernel_rfl) ?_; try simp only [Act.put, sA, zA, cA])
 refine (addPat_any v2 L2 ((kid k).d.pat j) B g w0 _ (HQ2.o.vq.below (bl_a _)) (HOP.o.2.1 j hjp) HL2.o).mono ?_;rintro e z6 ⟨v6, L6, rfl, hV6, hR6, hK6⟩;have HQ6 := iH ((HQ2.o.below (bl_a _)).step hV6 hK6);have HR6 : Hd (L6.map SL.b = foldN (j + 1) (fun i acc => ptV ((kid k).d.pat i) acc) (Lr.map SL.b)) := (show _ = ptV _ _ by rw [hR6, HRj.o]);clear hV6 hR6 hK6 hcx HQ2 HL2;go_wp2;go_roundw
 case rel => exact ⟨j + 1, v6, L6, by omega, by go_num, HR6, HQ6⟩
 case measure => simp [intOf]; omega
theorem addAlgs_any (e : AT) : ∀ (v : Value) (L : List SL) (B g : Nat) (w0 w : World) (a : Option Addr) (cap : Nat), (∀ i, i < e.d.n → (e.kid i).lies 0 w0) → RowQ w g v 13 a e.d.n (fun i => (e.kid i).d.cells) → VQ w0 w B g v L → L.length + sumN e.d.n (fun i => ac (e.kid i)) ≤ 1000000 → e.d.n ≤ 1048576 →
 Calls Tryz.prog 83 #[.pointer (some ⟨g, 0, none⟩), .slice a e.d.n cap] w (AddQ w0 B g v (foldN e.d.n (fun i acc => aV (e.kid i) acc) (L.map SL.b)) w) := by
 induction e with
 | nil => exact fun v L B g w0 w a cap hk hrow hV hL hn => addAlgs_one _ _ v L B g w0 w a cap hk hrow hV hL hn (fun i hi => absurd hi nN)
 | mk d kid ih => exact fun v L B g w0 w a cap hk hrow hV hL hn => addAlgs_one kid d.n v L B g w0 w a cap hk hrow hV hL hn (fun i _ v' L' W a' c' h1 h2 h3 h4 h5 => ih i v' L' B g w0 W a' c' h1 h2 h3 h4 h5)
theorem addPlan_any (e : PT) : ∀ (v : Value) (L : List SL) (B g : Nat) (w0 w : World), e.lies 0 w0 → VQ w0 w B g v L → L.length + pc e ≤ 1000000 →
 Calls Tryz.prog 89 #[.pointer (some ⟨g, 0, none⟩), .agg e.d.ar] w (AddQ w0 B g v (pV e (L.map SL.b)) w) := by
 induction e with
 | nil => exact fun _ _ _ _ _ _ h => False.elim h
 | mk d kid ih =>
  intro v L B g w0 w hl h hn;show Calls Tryz.prog 89 #[.pointer (some ⟨g, 0, none⟩), .agg d.ar] w (AddQ w0 B g v (pV (.mk d kid) (L.map SL.b)) w);obtain ⟨hp, he, hv, _, _, hn20, hR, hk⟩ := hl;have hsz : pc (.mk d kid) = 3 + esz d.e + 1 + sumN d.n (fun i => pc (kid i)) := rfl;have HIH := iH (fun i (hi : i < d.n) (v' : Value) (L' : List SL) (W : World) (hV : VQ w0 W B g v' L') (hL : L'.length + pc _ ≤ 1000000) => ih i v' L' B g w0 W (hk i hi) hV hL);have HQ0 : Hd (QS w0 w B g v v L d.cells (w.alloc (.cells d.ar 46))) := QS.new h _ 46;have HPX := iH hp;have HEX := iH he;have HVX := iH hv;have HKR := iH hR;have HLA : Hd (L.length + (3 + esz d.e + 1 + sumN d.n (fun i => pc (kid i))) ≤ 1000000) := (show _ ≤ 1000000 by omega);have HLK : Hd (∀ k, k < d.n → (foldN k (fun i acc => pV (kid i) acc) (addV (eV d.e (ptV d.p (L.map SL.b))) d.v.b)).length + pc (kid k) ≤ 1000000) := fun k hk => by
   have h1 := foldN_len (f := (fun i acc => pV (kid i) acc)) (c := fun i => pc (kid i)) (n := k) (fun i l _ => pV_len (kid i) l) (addV (eV d.e (ptV d.p (L.map SL.b))) d.v.b);have h2 := addV_len (eV d.e (ptV d.p (L.map SL.b))) d.v.b;have h5 := eV_len d.e (ptV d.p (L.map SL.b));have h6 := ptV_len d.p (L.map SL.b);rw [List.length_map] at h6;have h3 := sumN_mono (f := fun i => pc (kid i)) (show k + 1 ≤ d.n by omega);have h4 : sumN (k + 1) (fun i => pc (kid i)) = sumN k (fun i => pc (kid i)) + pc (kid k) := rfl;have h7 := HLA.o;omega
  clear h hp he hv hR hk ih hn hsz;go_in;go_upto_region 1 with fail
  generalize hW : (w.alloc (.cells d.ar 46)) = W1 at *;clear hW;have lr := HQ0.o.bx.range 2 d.p.cl rfl;go_wp2_with (with_reducible refine wpq_at ?_; refine ldr rfl rfl rfl Tryz.underlying39 lr rfl ?_; try simp only [Act.put, sA, zA, cA])
  refine (addPat_any v L d.p B g w0 _ HQ0.o.vq HPX.o (by have := HLA.o; omega)).mono ?_;rintro e z1 ⟨v1, L1, rfl, hV1, hR1, hK1⟩;have HQ1 := iH (HQ0.o.step hV1 hK1);have HR1 := iH hR1;have HL1 : Hd (L1.length + (esz d.e + 1) ≤ 1000000) := (show _ ≤ 1000000 by have h1 := congrArg List.length hR1; have h2 := ptV_len d.p (L.map SL.b); rw [List.length_map] at h1 h2; have h3 := HLA.o; omega);clear hV1 hR1 hK1 HQ0 lr;have le := HQ1.o.bx.range 17 d.e.d.cl rfl;go_wp2_with (with_reducible refine wpq_at ?_; refine ldr rfl rfl rfl Tryz.underlying42 le rfl ?_; try simp only [Act.put, sA, zA, cA])
  refine (addExpr_any d.e v1 L1 B g w0 _ HEX.o HQ1.o.vq (by have := HL1.o; omega)).mono ?_;rintro e z2 ⟨v2, L2, rfl, hV2, hR2, hK2⟩;have HQ2 := iH (HQ1.o.step hV2 hK2);have HR2 : Hd (L2.map SL.b = (eV d.e (ptV d.p (L.map SL.b)))) := (show _ = _ by rw [hR2, HR1.o]);have HL2 : Hd (L2.length ≤ 1000000) := (show _ ≤ 1000000 by have h1 := congrArg List.length hR2; have h2 := eV_len d.e (L1.map SL.b); rw [List.length_map] at h1 h2; have h3 := HL1.o; omega);clear hV2 hR2 hK2 HQ1 le;have y25 := HQ2.o.bx.2 25 _ rfl;go_wp2_with fail
  refine (add_any v2 L2 d.v B g w0 _ HQ2.o.vq HVX.o HL2.o).mono ?_;rintro e z3 ⟨v3, L3, rfl, hV3, hR3, hK3⟩;have HQ3 := iH (HQ2.o.step hV3 hK3);have HR3 : Hd (L3.map SL.b = (addV (eV d.e (ptV d.p (L.map SL.b))) d.v.b)) := (show _ = _ by rw [hR3, HR2.o]);clear hV3 hR3 hK3 HQ2 y25;have y27 := HQ3.o.bx.2 27 _ rfl;obtain ⟨n, hnn⟩ : ∃ n, n = d.n := ⟨_, rfl⟩;have HNN := iH hnn;rw [← hnn] at y27;by_cases hn1 : n = 0
  · have HR0 : Hd (L3.map SL.b = pV (.mk d kid) (L.map SL.b)) := (show _ = foldN d.n _ _ by rw [← hnn, hn1, HR3.o]; rfl)
    rw [hn1] at y27;clear hn1 hnn;go_wp2_with fail
    clear y27;go_loopw [21] (fun i wr => i = .int .i64 0 ∧ Hd (QS w0 w B g v v3 L3 d.cells wr)) (fun _ _ => 0)
    case atStart => exact ⟨rfl, HQ3⟩
    obtain ⟨rfl, HQr⟩ := hrel;go_wp2;go_end0;exact ⟨v3, L3, rfl, HQr.o.vq, HR0.o, HQr.o.kq⟩
  obtain ⟨b, off, eK, _, hbk, hck⟩ := HKR.o.resolve_left (by omega);have HCK := iH hck;have hbk' : b < w0.heap.size := hbk;have hn2 : n ≤ 1048576 := by omega
  rw [eK] at y27;clear eK hck hnn hbk HKR;go_wp2_with fail
  clear y27;go_loopw [21] (fun i wr => ∃ (k : Nat) (v' : Value) (L' : List SL), k ≤ n ∧ i = .int .i64 k ∧ Hd (L'.map SL.b = foldN k (fun i acc => pV (kid i) acc) (addV (eV d.e (ptV d.p (L.map SL.b))) d.v.b)) ∧ Hd (QS w0 w B g v v' L' d.cells wr)) (fun i _ => n - (intOf i).toNat)
  case atStart => exact ⟨0, v3, L3, nZ, rfl, HR3, HQ3⟩
  clear HQ3;obtain ⟨k, v', L', hk, rfl, HRr, HQr⟩ := hrel;by_cases hlk : k < n;rotate_left
  · obtain rfl : k = n := by omega
    have hlkz : ¬ (k : Int) < (k : Int) := by omega
    have HR2 : Hd (L'.map SL.b = pV (.mk d kid) (L.map SL.b)) := (show _ = foldN d.n _ _ by rw [← HNN.o]; exact HRr.o);go_wp2;go_end0;exact ⟨v', L', rfl, HQr.o.vq, HR2.o, HQr.o.kq⟩
  have hlkz : (k : Int) < (n : Int) := by omega
  have hcx : wr.rangeAt b (off + k * 28) (kid k).d.cl := fun c u hu => (HQr.o.vq.bl.cell (p := ⟨b, off + k * 28 + c, none⟩) hbk').trans (HCK.o k (by rw [← HNN.o]; exact hlk) c u hu);have HLl : Hd (L'.length + pc (kid k) ≤ 1000000) := (show _ ≤ 1000000 by have h1 := HLK.o k (by rw [← HNN.o]; exact hlk); have h2 := congrArg List.length HRr.o; rw [List.length_map] at h2; omega);have st := (OB.new wr zNa 46).there 0 28 (by simp);have on : ((kid k).d.ar : Array Value).all (·.oneCell') = true := PN.one _;have HBk : Hd (Bl wr ((wr.alloc (.cells zNa 46)).setCells wr.heap.size 0 (kid k).d.cl)) := below_sets _ nR _ _ _ (bl_a _);have HXk : Hd (Box ((wr.alloc (.cells zNa 46)).setCells wr.heap.size 0 (kid k).d.cl) wr.heap.size (kid k).d.cells) := ((OB.new wr #[.int _ 0, .int _ 0, .slice _ 0 0, .int _ 0, .slice _ 0 0, .int _ 0, .int _ 0, .slice _ 0 0, .int _ 0, .slice _ 0 0, .int _ 0, .int _ 0, .slice _ 0 0, .int _ 0, .slice _ 0 0, .int _ 0, .int _ 0, .int _ 0, .int _ 0, .slice _ 0 0, .int _ 0, .slice _ 0 0, .int _ 0, .int _ 0, .slice _ 0 0, .slice _ 0 0, .slice _ 0 0, .slice _ 0 0] 46).put (kid k).d.cells 0 _ (show 0 + 28 ≤ 28 by omega) rfl).box;have HQ4 := iH (HQr.o.below HBk.o);go_upto_region 7 with (first | (with_reducible refine wpq_at ?_; refine wpList_load_mid rfl 46 _ rfl b (off + k * 28) rfl (kid k).d.cl _ hcx Tryz.underlying46 rfl (by kernel_rfl) ?_; try simp only [Act.put, sA, zA, cA]) | (with_reducible refine wpq_at ?_; refine wpList_store_mid rfl 46 _ _ rfl _ _ _ rfl rfl st (by kernel_rfl) on ?_; try simp only [Act.put]))
  generalize ((wr.alloc (.cells zNa 46)).setCells wr.heap.size 0 (kid k).d.cl) = W5 at *;generalize hgg : wr.heap.size = gk at *;clear hcx st on HBk HQr hgg;have lr := HXk.o.range 0 (kid k).d.cl rfl;go_wp2_with (with_reducible refine wpq_at ?_; refine wpList_load_mid rfl 46 _ rfl gk 0 rfl (kid k).d.cl _ lr Tryz.underlying46 rfl (by kernel_rfl) ?_; try simp only [Act.put, sA, zA, cA])
  refine (HIH.o k (by rw [← HNN.o]; exact hlk) v' L' _ HQ4.o.vq HLl.o).mono ?_;rintro e z5 ⟨v5, L5, rfl, hV5, hR5, hK5⟩;have HQ5 := iH (HQ4.o.step hV5 hK5);have HR5 : Hd (L5.map SL.b = foldN (k + 1) (fun i acc => pV (kid i) acc) (addV (eV d.e (ptV d.p (L.map SL.b))) d.v.b)) := (show _ = pV _ _ by rw [hR5, HRr.o]);clear hV5 hR5 hK5 HQ4 HXk lr;go_wp2;go_roundw
  case rel => exact ⟨k + 1, v5, L5, by omega, by go_num, HR5, HQ5⟩
  case measure => simp [intOf]; omega
theorem rowP_of (hb : W.heap.size = b) (hg : b ≠ g) : RowP (W.alloc (.cells cs t)) g 13 (some ⟨b, 0, none⟩) 1 (fun _ => cs.toList) := by
 subst hb;refine .inr ⟨W.heap.size, 0, rfl, by simp, hg, fun i hi c u hu => ?_⟩
 obtain rfl : i = 0 := by omega
 have h := (Box.new W cs t (0, 0)).2 c u hu;rw [show 0 + 0 * 13 + c = c by omega]
 exact h
theorem rowQ_of (hb : W.heap.size = b) (hg : b ≠ g) (hv : v.ownBlock ≠ some b) : RowQ (W.alloc (.cells cs t)) g v 13 (some ⟨b, 0, none⟩) 1 (fun _ => cs.toList) := by
 subst hb;refine .inr ⟨W.heap.size, 0, rfl, by simp, hg, hv, fun i hi c u hu => ?_⟩
 obtain rfl : i = 0 := by omega
 have h := (Box.new W cs t (0, 0)).2 c u hu;rw [show 0 + 0 * 13 + c = c by omega]
 exact h
theorem vq_new (hb : Bl w0 w) (t : TypeId) : VQ w0 (w.alloc (.cells #[.slice none 0 0] t)) w.heap.size w.heap.size (.slice none 0 0) [] :=
 ⟨by simp [go_sem], by simp [go_sem], by simp, VL.nil _ _ _, fun e => (by cases e), hb.size, hb.size, hb.trans ((bl_a _).mono hb.size), by simp⟩
theorem implAlgOk_any (e : AT) (w : World) (h : e.lies 0 w) : Calls Tryz.prog 36 #[.agg e.d.ar] w (Tells (algOk e) w) := by
 have A1 := fun (W : World) (hb : Bl w W) (hc : Ctr W (w.heap.size + 1) 480) (hr : RowP W (w.heap.size + 1) 13 (some ⟨w.heap.size + 1 + 1, 0, none⟩) 1 (fun _ => e.d.cells)) => algsOk_any (some ⟨w.heap.size + 1 + 1, 0, none⟩) 1 1 (fun _ => e) (fun _ => aOk e 1) (fun _ => asz e) 1 240 480 (w.heap.size + 1) w W hr hb (Nat.le_succ _) hc (by omega) (by omega) (by omega) (fun i hi L' W' hb' hc' h0 h1 => algOk_any e 1 L' (w.heap.size + 1) w W' h hb' (Nat.le_succ _) hc' (by omega) (by omega) h0 h1);have HV : Hd (∀ (W : World) (g B b : Nat), VQ w W B g (.slice none 0 0) [] → RowQ W g (.slice none 0 0) 13 (some ⟨b, 0, none⟩) 1 (fun _ => e.d.cells) → ac e ≤ 1000000 → Cl 83 #[.pointer (some ⟨g, 0, none⟩), .slice (some ⟨b, 0, none⟩) 1 1] W (AddQ w B g (.slice none 0 0) (aV e []) W)) := fun W g B b hV hR hL => addAlgs_one _ 1 _ [] B g w W _ 1 (fun _ _ => h) hR hV (by show 0 + (0 + ac e) ≤ _; omega) (by omega) (fun i _ v' L' W' a' c' h1 h2 h3 h4 h5 => addAlgs_any e v' L' B g w W' a' c' h1 h2 h3 h4 h5);have HAC := iH (fun (h : aOk e 1) => ac_le h);clear h;go_in;go_wp2_with fail
 refine Calls.mono (A1 _ ?hb ?hc ?hr) ?_
 case hb => exact bl_alloc (bl_alloc (bl_a _) _) _
 case hc => exact ⟨by simp, by simp [go_sem], by simp [go_sem]⟩
 case hr => exact rowP_of (by simp) (by omega)
 rintro r w3 ⟨q, L', rfl, hq, _, hc3, hp3⟩;have HB3 := iH (show Below _ _ _ from (bl_alloc (bl_alloc (bl_a _) _) _ : Below _ w _).trans (hp3.below (Nat.le_succ _) (by simp; omega)));have HX3 := iH ((((Box.new w _ 52 _).below (bl_a _)).below (bl_a _)).past hp3 (by omega));have HQ : Hd (q = true ↔ aOk e 1 ∧ asz e ≤ 480) := (show (q = true ↔ _) from hq.trans ⟨fun hh => ⟨hh.1 0 (by omega), by have h2 := hh.2; have h3 : sumN 1 (fun _ => asz e) = 0 + asz e := rfl; omega⟩, fun hh => ⟨fun _ _ => hh.1, by have h3 : sumN 1 (fun _ => asz e) = 0 + asz e := rfl; have h2 := hh.2; omega⟩⟩);clear A1 hc3 hp3 hq;cases q
 · have HNO : Hd (¬ algOk e) := fun hh => by have h1 := HQ.o.2 ⟨hh.1, hh.2.1⟩; cases h1
   clear HQ;go_wp2;go_ret;exact Tells.no HNO.o HB3.o
 have HOK := iH (HQ.o.1 rfl);have lr := fun o => (HX3.o.below (bl_a o)).range 0 e.d.cl rfl;clear HQ;go_wp2_with (with_reducible refine wpl_at ?_; refine ldr rfl rfl rfl Tryz.underlying52 (lr _) rfl ?_; try simp only [Act.put, sA, zA, cA])
 clear lr;refine Calls.mono (HV.o _ w3.heap.size w3.heap.size (w3.heap.size + 1) ?hv ?hr ?hl) ?_
 case hv => exact (vq_new HB3.o _).below (bl_a _)
 case hr => exact rowQ_of (by simp) (by omega) (fun e => by cases e)
 case hl => have h1 := HAC.o HOK.o.1; have h2 := HOK.o.2; omega
 rintro r w5 ⟨v5, L5, rfl, hV5, hR5, hK5⟩;obtain ⟨a5, c5, rfl, _⟩ := hV5.vl.form;have HB5 := iH hV5.bl;have x5 := hV5.cell;obtain ⟨n, hnn⟩ : ∃ n, n = L5.length := ⟨_, rfl⟩;rw [← hnn] at x5;have HN : Hd (n = (aV e []).length) := (show n = _ by rw [hnn, ← hR5, List.length_map]);clear hV5 hR5 hK5 hnn HV;by_cases h8 : n ≤ 8
 · have h8z : (n : Int) ≤ 8 := by omega
   have HY : Hd (algOk e) := ⟨HOK.o.1, HOK.o.2, by rw [← HN.o]; exact h8⟩
   go_wp2;go_ret;exact Tells.of ⟨fun _ => HY.o, fun _ => by simp; try omega⟩ HB5.o
 have h8z : ¬ (n : Int) ≤ 8 := by omega
 have HNO : Hd (¬ algOk e) := fun hh => h8 (by rw [HN.o]; exact hh.2.2);go_wp2;go_ret;refine Tells.of ⟨fun h => ?_, fun hp => absurd hp HNO.o⟩ HB5.o;exfalso;simp at h;omega
theorem implPlanOk_any (e : PT) (w : World) (h : e.lies 0 w) : Calls Tryz.prog 38 #[.agg e.d.ar] w (Tells (planOk e) w) := by
 have HP1 := iH (fun (W : World) (hb : Below _ w W) (hc : Ctr W _ _) => planOk_any e 1 1440 (w.heap.size + 1) w W h hb (Nat.le_succ _) hc (by omega) (by omega) (by omega) (by omega));have HV : Hd (∀ (W : World) (g B : Nat), VQ w W B g (.slice none 0 0) [] → pc e ≤ 1000000 → Cl 89 #[.pointer (some ⟨g, 0, none⟩), .agg e.d.ar] W (AddQ w B g (.slice none 0 0) (pV e []) W)) := fun W g B hV hL => addPlan_any e _ [] B g w W h hV (by simpa using hL);have HAC := iH (fun (h : pOk e 1) => pc_le h);clear h;have HX : Hd (Box ((w.alloc (.cells e.d.ar 46)).alloc (.cells #[.int .i64 1440] 131)) w.heap.size e.d.cells) := (Box.new w _ 46 _).below (bl_a _);have HC : Hd (Ctr ((w.alloc (.cells e.d.ar 46)).alloc (.cells #[.int .i64 1440] 131)) (w.heap.size + 1) 1440) := ⟨by simp, by simp [go_sem], by simp [go_sem]⟩
 have HB : Hd (Bl w ((w.alloc (.cells e.d.ar 46)).alloc (.cells #[.int .i64 1440] 131))) := bl_alloc (bl_a _) _;go_in;go_upto_region 2 with fail
 generalize (w.alloc _).alloc _ = W1 at *;have lr : W1.rangeAt w.heap.size 0 e.d.cl := HX.o.range 0 _ rfl;go_wp2_with (with_reducible refine wpq_at ?_; refine ldr rfl rfl rfl Tryz.underlying46 lr rfl ?_; try simp only [Act.put, sA, zA, cA])
 refine (HP1.o W1 HB.o HC.o).mono ?_;rintro r w3 ⟨q, L', rfl, hq, _, hc3, hp3⟩;have HB3 := iH (HB.o.trans (hp3.below (Nat.le_succ _) HB.o.size));have HX3 := iH (HX.o.past hp3 (by omega));have HQ : Hd (q = true ↔ pOk e 1 ∧ psz e ≤ 1440) := (show (q = true ↔ _) from hq.trans ⟨fun hh => ⟨hh.1, by have h2 := hh.2; omega⟩, fun hh => ⟨hh.1, by have h2 := hh.2; omega⟩⟩);clear HP1 hc3 hp3 hq lr HX HC HB;cases q
 · have HNO : Hd (¬ planOk e) := fun hh => by have h1 := HQ.o.2 ⟨hh.1, hh.2.1⟩; cases h1
   clear HQ;go_wp2;go_ret;exact Tells.no HNO.o HB3.o
 have HOK := iH (HQ.o.1 rfl);have lr := fun o => (HX3.o.below (bl_a o)).range 0 e.d.cl rfl;clear HQ;go_wp2_with (with_reducible refine wpq_at ?_; refine ldr rfl rfl rfl Tryz.underlying46 (lr _) rfl ?_; try simp only [Act.put, sA, zA, cA])
 clear lr;refine Calls.mono (HV.o _ w3.heap.size w3.heap.size ?hv ?hl) ?_
 case hv => exact vq_new HB3.o _
 case hl => have h1 := HAC.o HOK.o.1; have h2 := HOK.o.2; omega
 rintro r w5 ⟨v5, L5, rfl, hV5, hR5, hK5⟩;obtain ⟨a5, c5, rfl, _⟩ := hV5.vl.form;have HB5 := iH hV5.bl;have x5 := hV5.cell;obtain ⟨n, hnn⟩ : ∃ n, n = L5.length := ⟨_, rfl⟩;rw [← hnn] at x5;have HN : Hd (n = (pV e []).length) := (show n = _ by rw [hnn, ← hR5, List.length_map]);clear hV5 hR5 hK5 hnn HV;by_cases h8 : n ≤ 8
 · have h8z : (n : Int) ≤ 8 := by omega
   have HY : Hd (planOk e) := ⟨HOK.o.1, HOK.o.2, by rw [← HN.o]; exact h8⟩
   go_wp2;go_ret;exact Tells.of ⟨fun _ => HY.o, fun _ => by simp; try omega⟩ HB5.o
 have h8z : ¬ (n : Int) ≤ 8 := by omega
 have HNO : Hd (¬ planOk e) := fun hh => h8 (by rw [HN.o]; exact hh.2.2);go_wp2;go_ret;refine Tells.of ⟨fun h => ?_, fun hp => absurd hp HNO.o⟩ HB5.o;exfalso;simp at h;omega
theorem krow_keep {w' : World} {a : Option Addr} {C : Nat → List Value} (hR : KRow B w sz a n C) (hk : Stay (rfp a n) w w') : KRow B w' sz a n C := by
 by_cases h0 : n = 0
 · exact .inl h0
 have hx : rfp a n = [blk a] := by unfold rfp; rw [if_neg h0]
 rw [hx] at hk;obtain ⟨b, off, ha, hB, hlt, hc⟩ := hR.resolve_left h0;have hb := hk.1 b (by rw [ha]; simp [blk]);exact .inr ⟨b, off, ha, hB, Nat.lt_of_lt_of_le hlt hk.2, fun i hi c u hu => (World.cell?_of_block (w := w) (a := ⟨b, off + i * sz + c, none⟩) hb).trans (hc i hi c u hu)⟩
theorem ET.same.refl {e : ET} : ∀ {w : World}, e.lies 0 w → e.same e := by
 induction e with
 | nil => exact fun h => False.elim h
 | mk d kid ih => exact fun h => ⟨rfl, rfl, rfl, rfl, rfl, fun i hi => ih i (h.2.2.2.2.2 i hi)⟩
theorem NodeP.same {d d' : PN} (hk : d.k = d'.k) (ho : d.ord = d'.ord) (hp : d.p.same d'.p) (he : d.e.same d'.e) (hv : d.v.b = d'.v.b) (ht : d.tb.map TB.td = d'.tb.map TB.td) (hn : d.n = d'.n) (h : NodeP d) : NodeP d' := by
 obtain ⟨l1, l2⟩ := tds_same ht;refine ⟨hk ▸ h.k0, hk ▸ h.k8, ho ▸ h.o0, ho ▸ h.o5, ?_, fun hh => ?_, fun hh => ?_, fun hh => ?_, fun hh => ?_, l1 ▸ h.tn, fun hh => ?_, fun hh => ?_, fun hh => ?_, fun hh => ?_, l2.1 h.tm⟩
 · rw [← hn, ← hk]; exact h.n
 · exact (ptOk_same hp).1 (h.p1 (hk ▸ hh))
 · exact (zeroP_same hp).1 (h.p0 (hk ▸ hh))
 · rw [← ho]; exact h.oz (hk ▸ hh)
 · have h0 := h.t0 (hk ▸ hh); rw [tb_nil] at h0 ⊢; omega
 · exact (eOk_same he).1 (h.e1 (hk ▸ hh))
 · exact (zeroE_same he).1 (h.e0 (hk ▸ hh))
 · rw [← hv]; exact h.v1 (hk ▸ hh)
 rw [← hv]; exact h.v0 (hk ▸ hh)
theorem PT.same.symm {e : PT} : ∀ {e' : PT}, e.same e' → e'.same e := by
 induction e with
 | nil => exact fun h => False.elim h
 | mk d kid ih =>
  intro e' h;cases e' with
  | nil => exact False.elim h
  | mk d' kid' =>
  obtain ⟨h0, h1, h2, h3, h4, h5, h6, h7⟩ := h;exact ⟨h0.symm, h1.symm, h2.symm, h3.symm, h4.symm, h5.symm, h6.symm, fun i hi => ih i (h7 i (by omega))⟩
theorem PT.same.trans {e : PT} : ∀ {e' e'' : PT}, e.same e' → e'.same e'' → e.same e'' := by
 induction e with
 | nil => exact fun h => False.elim h
 | mk d kid ih =>
  intro e' e'' h k;cases e' with
  | nil => exact False.elim h
  | mk d' kid' =>
  cases e'' with
  | nil => exact False.elim k
  | mk d'' kid'' =>
  obtain ⟨h0, h1, h2, h3, h4, h5, h6, h7⟩ := h;obtain ⟨k0, k1, k2, k3, k4, k5, k6, k7⟩ := k;exact ⟨h0.trans k0, h1.trans k1, h2.trans k2, h3.trans k3, h4.trans k4, h5.trans k5, h6.trans k6, fun i hi => ih i (h7 i hi) (k7 i (by omega))⟩
theorem pOk_imp {e : PT} : ∀ {e' : PT} {deep : Int}, e.same e' → pOk e deep → pOk e' deep := by
 induction e with
 | nil => exact fun h => False.elim h
 | mk d kid ih =>
  intro e' deep h;cases e' with
  | nil => exact False.elim h
  | mk d' kid' =>
  obtain ⟨h0, h1, h2, h3, h4, h5, h6, h7⟩ := h;exact fun hh => ⟨hh.1, NodeP.same h0 h1 h2 h3 h4 h5 h6 hh.2.1, fun i hi => ih i (h7 i (by omega)) (hh.2.2 i (by omega))⟩
theorem psz_same {e : PT} : ∀ {e' : PT}, e.same e' → psz e = psz e' := by
 induction e with
 | nil => exact fun h => False.elim h
 | mk d kid ih =>
  intro e' h;cases e' with
  | nil => exact False.elim h
  | mk d' kid' =>
  obtain ⟨h0, h1, h2, h3, h4, h5, h6, h7⟩ := h;show ownP d + sumN d.n _ = ownP d' + sumN d'.n _;have e1 : ownP d = ownP d' := by
   unfold ownP;rw [h0, esz_same h3]
  rw [e1, ← h6, sumN_congr fun i hi => ih i (h7 i hi)]
theorem pV_same {e : PT} : ∀ {e' : PT} {l : List (List Int)}, e.same e' → pV e l = pV e' l := by
 induction e with
 | nil => exact fun h => False.elim h
 | mk d kid ih =>
  intro e' l h;cases e' with
  | nil => exact False.elim h
  | mk d' kid' =>
  obtain ⟨h0, h1, h2, h3, h4, h5, h6, h7⟩ := h;show foldN d.n _ (addV (eV d.e (ptV d.p l)) d.v.b) = foldN d'.n _ (addV (eV d'.e (ptV d'.p l)) d'.v.b);rw [← h6, ← h4, ptV_same h2, eV_same h3];exact foldN_congr (fun i hi a => ih i (h7 i hi)) _
theorem planOk_same {e e' : PT} (h : e.same e') : planOk e ↔ planOk e' := by
 unfold planOk;rw [psz_same h, pV_same h];exact and_congr_left fun _ => ⟨pOk_imp h, pOk_imp h.symm⟩
def pick (c : List Int) (n : Nat) : Nat × List Int :=
 match c with
 | [] => (0, [])
 | x :: l => if n < 2 then (0, x :: l) else ((x % (n : Int)).toNat, l)
theorem pick_lt (c : List Int) (h : 0 < n) : (pick c n).1 < n := by
 cases c with
 | nil => exact h
 | cons x l =>
  unfold pick;by_cases h2 : n < 2
  · simp only [h2, if_true]
    exact h
  simp only [h2, if_false];have h0 := Int.emod_nonneg x (show (n : Int) ≠ 0 by omega);have h1 := Int.emod_lt_of_pos x (show (0 : Int) < (n : Int) by omega);omega
def PBz : PB := ⟨⟨SL0, ⟨⟨0, none, 0, 0, 0, 0⟩, []⟩⟩, ⟨SL0, ⟨⟨0, none, 0, 0, 0, 0⟩, []⟩⟩, ⟨SL0, ⟨⟨0, none, 0, 0, 0, 0⟩, []⟩⟩⟩
def unitP : PT := .mk ⟨8, 0, PBz, ET0, SL0, none, 0, [], none, 0, 0⟩ (fun _ => .nil)
def nestP (o : Int) (x : PB) (p : PT) : PT := .mk ⟨0, o, x, ET0, SL0, none, 0, [], none, 1, 1⟩ (fun _ => p)
def hashP (p q : PT) : PT := .mk ⟨1, 0, PBz, ET0, SL0, none, 0, [], none, 2, 2⟩ (fun i => if i = 0 then p else q)
def filterP (e : ET) (p : PT) : PT := .mk ⟨5, 0, PBz, e, SL0, none, 0, [], none, 1, 1⟩ (fun _ => p)
def filterA (e : ET) (a : AT) : AT := .mk ⟨5, none, 0, 0, AN0.pat, e, SL0, none, 0, [], none, 1, 1⟩ (fun _ => a)
def bgpF : Nat → List PB → List Int → PT → PT × List Int
 | 0, _, c, p => (p, c)
 | m + 1, l, c, p =>
  match l[(pick c l.length).1]? with
  | none => (p, c)
  | some x => if (pick (pick (pick c l.length).2 6).2 2).1 = 1 then bgpF m (l.eraseIdx (pick c l.length).1) (pick (pick (pick c l.length).2 6).2 2).2 (hashP p (nestP ((pick (pick c l.length).2 6).1 : Nat) x unitP))
    else bgpF m (l.eraseIdx (pick c l.length).1) (pick (pick (pick c l.length).2 6).2 2).2 (nestP ((pick (pick c l.length).2 6).1 : Nat) x p)
def sureB (v : List Int) : AT → Bool
 | .nil => false
 | .mk d kid => if d.k = 0 then (List.range d.pn).any fun i => v != [] && (v == (d.pat i).s.v.b || v == (d.pat i).p.v.b || v == (d.pat i).o.v.b)
   else if d.k = 7 then v != [] && v == d.v.b
   else if d.k = 1 then sureB v (kid 0) || sureB v (kid 1)
   else if d.k = 3 then sureB v (kid 0) && sureB v (kid 1)
   else sureB v (kid 0)
def early1 (e : ET) (a : AT) : AT := .mk ⟨a.d.k, none, 0, 0, AN0.pat, a.d.e, SL0, none, 0, [], none, 2, 2⟩ (fun i => if i = 0 then filterA e (a.kid 0) else a.kid 1)
def early2 (e : ET) (a : AT) : AT := .mk ⟨3, none, 0, 0, AN0.pat, ET0, SL0, none, 0, [], none, 2, 2⟩ (fun i => filterA e (a.kid i))
def early (e : ET) (a : AT) : Option AT :=
 if e.d.k = 2 ∧ e.d.op = 6 then some (filterA (e.kid 0) (filterA (e.kid 1) a))
 else if (a.d.k = 1 ∨ a.d.k = 2 ∨ a.d.k = 4) ∧ (eV e []).all (fun v => sureB v (a.kid 0)) = true then some (early1 e a)
 else if a.d.k = 3 then some (early2 e a)
 else none
def kidsF (f : AT → List Int → PT × List Int) (kid : Nat → AT) : Nat → List Int → (Nat → PT) × List Int
 | 0, c => (fun _ => .nil, c)
 | m + 1, c => (fun i => if i = m then (f (kid m) (kidsF f kid m c).2).1 else (kidsF f kid m c).1 i, (f (kid m) (kidsF f kid m c).2).2)
def planF : Nat → AT → List Int → PT × List Int
 | 0, _, c => (unitP, c)
 | _ + 1, .nil, c => (unitP, c)
 | n + 1, .mk d kid, c =>
  if d.k = 0 then bgpF d.pn ((List.range d.pn).map d.pat) c unitP
  else if d.k = 5 then
   match (if (pick c 2).1 = 1 then early d.e (kid 0) else none) with
   | some b => planF n b (pick c 2).2
   | none => (filterP d.e (planF n (kid 0) (pick c 2).2).1, (planF n (kid 0) (pick c 2).2).2)
  else
   (.mk ⟨d.k, 0, PBz, d.e, d.v, d.ta, d.tc, d.tb, none, d.n, d.n⟩ (if d.k = 1 ∧ (pick (kidsF (planF n) kid d.n c).2 2).1 = 1 then fun i => (kidsF (planF n) kid d.n c).1 (1 - i) else (kidsF (planF n) kid d.n c).1),
    if d.k = 1 then (pick (kidsF (planF n) kid d.n c).2 2).2 else (kidsF (planF n) kid d.n c).2)
def cE : ET → Nat
 | .nil => 2
 | .mk d kid => if d.k = 2 ∧ d.op = 6 then cE (kid 0) * cE (kid 1) + 1 else 2
def mA : AT → Nat
 | .nil => 1
 | .mk d kid => if d.k = 5 then cE d.e * mA (kid 0) else 1 + sumN d.n (fun i => mA (kid i))
theorem cE_two (e : ET) : 2 ≤ cE e := by
 induction e with
 | nil => exact nR
 | mk d kid ih =>
  unfold cE;split
  · have h := Nat.mul_le_mul (ih 0) (ih 1)
    omega
  exact nR
theorem mA_one (a : AT) : 1 ≤ mA a := by
 induction a with
 | nil => exact nR
 | mk d kid ih =>
  unfold mA;split
  · have h := Nat.mul_le_mul (cE_two d.e) (ih 0)
    omega
  omega
theorem mA_filter (e : ET) (a : AT) : mA (filterA e a) = cE e * mA a := by
 unfold filterA;show (if (5 : Int) = 5 then cE e * mA a else _) = _;rw [if_pos rfl]
theorem mA_kid {d : AN} {kid : Nat → AT} {i : Nat} (hi : i < d.n) (h5 : d.k ≠ 5) : mA (kid i) < mA (.mk d kid) := by
 show _ < (if d.k = 5 then _ else 1 + sumN d.n (fun i => mA (kid i)));rw [if_neg h5];have := sumN_le (f := fun i => mA (kid i)) hi;omega
theorem mA_of (e : ET) (a : AT) : mA a < mA (filterA e a) := by
 rw [mA_filter];have h1 := mA_one a;have h2 := Nat.mul_le_mul_right (mA a) (cE_two e);omega
theorem sum_two {f : Nat → Nat} : sumN 2 f = f 0 + f 1 := by show 0 + f 0 + f 1 = _; omega
theorem mA_early {e : ET} {b : AT} (ha : a.d.k ≠ 5 → 2 ≤ a.d.n ∨ ¬ (a.d.k = 1 ∨ a.d.k = 2 ∨ a.d.k = 3 ∨ a.d.k = 4)) (h : early e a = some b) : mA b < mA (filterA e a) := by
 rw [mA_filter];have h1 := mA_one a;unfold early at h;split at h
 · rename_i hand
   cases h;rw [mA_filter, mA_filter];cases e with
   | nil => exact absurd hand.1 (by decide)
   | mk d kid =>
    have hand2 : d.k = 2 ∧ d.op = 6 := hand;have e1 : cE (.mk d kid) = cE (kid 0) * cE (kid 1) + 1 := by
     show (if d.k = 2 ∧ d.op = 6 then cE (kid 0) * cE (kid 1) + 1 else 2) = _;rw [if_pos hand2]
    rw [e1, Nat.succ_mul, Nat.mul_assoc];show cE (kid 0) * (cE (kid 1) * mA a) < _;omega
 have hc := cE_two e;split at h
 · rename_i hk
   cases h;cases a with
   | nil => exact absurd hk.1 (by decide)
   | mk d kid =>
    have hk1 : d.k = 1 ∨ d.k = 2 ∨ d.k = 4 := hk.1;have h5 : d.k ≠ 5 := by omega
    have hn : 2 ≤ d.n := (ha h5).resolve_right fun h => h (by show d.k = 1 ∨ d.k = 2 ∨ d.k = 3 ∨ d.k = 4; omega);have e1 : mA (early1 e (.mk d kid)) = 1 + (cE e * mA (kid 0) + mA (kid 1)) := by
     unfold early1;show (if d.k = 5 then _ else 1 + sumN 2 _) = _;rw [if_neg h5, sum_two];show 1 + (mA (filterA e (kid 0)) + mA (kid 1)) = _;rw [mA_filter]
    have e2 : 1 + (mA (kid 0) + mA (kid 1)) ≤ mA (.mk d kid) := by
     show _ ≤ (if d.k = 5 then _ else 1 + sumN d.n (fun i => mA (kid i)));rw [if_neg h5];have := sumN_mono (f := fun i => mA (kid i)) hn;rw [sum_two] at this;omega
    rw [e1];have h2 := Nat.mul_le_mul_left (cE e) e2;rw [Nat.mul_add, Nat.mul_add, Nat.mul_one] at h2;have h3 := Nat.mul_le_mul_right (mA (kid 1)) hc;have h4 := mA_one (kid 1);omega
 split at h
 · rename_i hk
   cases h;cases a with
   | nil => exact absurd hk (by decide)
   | mk d kid =>
    have hk1 : d.k = 3 := hk;have h5 : d.k ≠ 5 := by omega
    have hn : 2 ≤ d.n := (ha h5).resolve_right fun h => h (by show d.k = 1 ∨ d.k = 2 ∨ d.k = 3 ∨ d.k = 4; omega);have e1 : mA (early2 e (.mk d kid)) = 1 + (cE e * mA (kid 0) + cE e * mA (kid 1)) := by
     unfold early2;show (if (3 : Int) = 5 then _ else 1 + sumN 2 _) = _;rw [if_neg (by decide), sum_two];show 1 + (mA (filterA e (kid 0)) + mA (filterA e (kid 1))) = _;rw [mA_filter, mA_filter]
    have e2 : 1 + (mA (kid 0) + mA (kid 1)) ≤ mA (.mk d kid) := by
     show _ ≤ (if d.k = 5 then _ else 1 + sumN d.n (fun i => mA (kid i)));rw [if_neg h5];have := sumN_mono (f := fun i => mA (kid i)) hn;rw [sum_two] at this;omega
    rw [e1];have h2 := Nat.mul_le_mul_left (cE e) e2;rw [Nat.mul_add, Nat.mul_add, Nat.mul_one] at h2;omega
 cases h
def WE : ET → Prop
 | .nil => True
 | .mk d kid => (d.k = 2 → d.n = 2) ∧ ∀ i, i < d.n → WE (kid i)
theorem eOk.we {lim : Int} {e : ET} : ∀ {deep : Int}, eOk lim e deep → WE e := by
 induction e with
 | nil => exact fun h => False.elim h
 | mk d kid ih =>
  intro deep h;refine ⟨fun hk => ?_, fun i hi => ih i (h.2.2 i hi)⟩;have hn := h.2.1.1;unfold kOk at hn;omega
theorem zeroE.we {e : ET} (h : zeroE e) : WE e := by
 cases e with
 | nil => exact trivial
 | mk d kid =>
  obtain ⟨h1, _, _, _, h5⟩ := h;have h1' : d.k = 0 := h1;have h5' : d.n = 0 := h5;exact ⟨fun h => by omega, fun i hi => by omega⟩
def WA : AT → Prop
 | .nil => False
 | .mk d kid => (0 ≤ d.k ∧ d.k ≤ 7 ∧ d.n = kidsA d.k) ∧ ((d.k ≠ 0 → d.pn = 0) ∧ (d.k ≠ 7 → d.tb = [])) ∧ ((¬ hasE d.k → zeroE d.e) ∧ (¬ hasV d.k → d.v.b = [])) ∧ WE d.e ∧ ∀ i, i < d.n → WA (kid i)
theorem aOk.wa : ∀ {deep : Int}, aOk a deep → WA a := by
 induction a with
 | nil => exact fun h => False.elim h
 | mk d kid ih =>
  intro deep h;obtain ⟨_, hN, hk⟩ := h;refine ⟨⟨hN.k0, hN.k7, hN.n⟩, ⟨hN.p0, hN.t0⟩, ⟨hN.e0, hN.v0⟩, ?_, fun i hi => ih i (hk i hi)⟩;by_cases he : hasE d.k
  · exact (hN.e1 he).we
  exact (hN.e0 he).we
theorem kidsA_two (h : k = 1 ∨ k = 2 ∨ k = 3 ∨ k = 4) : kidsA k = 2 := by
 unfold kidsA;rw [if_neg (by omega), if_neg (by omega)]
theorem kidsA_one (h : k = 5 ∨ k = 6) : kidsA k = 1 := by
 unfold kidsA;rw [if_neg (by omega), if_pos h]
theorem filterA.wa {e : ET} (he : WE e) (ha : WA a) : WA (filterA e a) :=
 ⟨⟨(by show (0 : Int) ≤ 5; decide), (by show (5 : Int) ≤ 7; decide), (kidsA_one (.inl rfl)).symm⟩, ⟨fun _ => rfl, fun _ => rfl⟩, ⟨fun h => absurd (.inr (.inl rfl)) h, fun _ => rfl⟩, he, fun _ _ => ha⟩
theorem WE.kid {e : ET} (h : WE e) (hk : e.d.k = 2) : WE (e.kid 0) ∧ WE (e.kid 1) ∧ e.d.n = 2 := by
 cases e with
 | nil => exact absurd hk (by decide)
 | mk d kid =>
  have hn := h.1 hk;exact ⟨h.2 0 (by omega), h.2 1 (by omega), hn⟩
theorem WA.kid2 (h : WA a) (hk : a.d.k = 1 ∨ a.d.k = 2 ∨ a.d.k = 3 ∨ a.d.k = 4) : WA (a.kid 0) ∧ WA (a.kid 1) ∧ a.d.n = 2 := by
 cases a with
 | nil => exact False.elim h
 | mk d kid =>
  have hk' : d.k = 1 ∨ d.k = 2 ∨ d.k = 3 ∨ d.k = 4 := hk;have hn := h.1.2.2.trans (kidsA_two hk');exact ⟨h.2.2.2.2 0 (by omega), h.2.2.2.2 1 (by omega), hn⟩
theorem early.wa {e : ET} {b : AT} (he : WE e) (ha : WA a) (h : early e a = some b) : WA b := by
 unfold early at h;split at h
 · rename_i hand
   cases h;obtain ⟨h0, h1, _⟩ := he.kid hand.1;exact filterA.wa h0 (filterA.wa h1 ha)
 split at h
 · rename_i hk
   cases h;have hk' : a.d.k = 1 ∨ a.d.k = 2 ∨ a.d.k = 3 ∨ a.d.k = 4 := by rcases hk.1 with h | h | h <;> simp [h]
   obtain ⟨h0, h1, _⟩ := ha.kid2 hk';cases a with
   | nil => exact False.elim ha
   | mk d kid =>
    obtain ⟨a1, _, a3, a4, _⟩ := ha;refine ⟨⟨a1.1, a1.2.1, (kidsA_two hk').symm⟩, ⟨fun _ => rfl, fun _ => rfl⟩, ⟨a3.1, fun _ => rfl⟩, a4, fun i hi => ?_⟩;have hi2 : i = 0 ∨ i = 1 := by
     have : i < 2 := hi;omega
    rcases hi2 with rfl | rfl
    · exact filterA.wa he h0
    exact h1
 split at h
 · rename_i hk
   cases h;obtain ⟨h0, h1, _⟩ := ha.kid2 (.inr (.inr (.inl hk)));refine ⟨⟨(by show (0 : Int) ≤ 3; decide), (by show (3 : Int) ≤ 7; decide), (kidsA_two (.inr (.inr (.inl rfl)))).symm⟩, ⟨fun _ => rfl, fun _ => rfl⟩, ⟨fun _ => ET0_zero, fun _ => rfl⟩, ET0_zero.we, fun i hi => ?_⟩;have hi2 : i = 0 ∨ i = 1 := by
    have : i < 2 := hi;omega
   rcases hi2 with rfl | rfl
   · exact filterA.wa he h0
   exact filterA.wa he h1
 cases h
theorem AT.same.d (h : a.same a') : a.d.k = a'.d.k ∧ a.d.n = a'.d.n ∧ ∀ i, i < a.d.n → (a.kid i).same (a'.kid i) := by
 cases a with
 | nil => cases a' <;> exact False.elim h
 | mk d kid =>
  cases a' with
  | nil => exact False.elim h
  | mk d' kid' =>
   obtain ⟨h1, _, _, _, _, _, h7, h8⟩ := h;exact ⟨h1, h7, h8⟩
theorem ET.same.d {e : ET} (h : e.same e') : e.d.k = e'.d.k ∧ e.d.op = e'.d.op ∧ e.d.n = e'.d.n ∧ ∀ i, i < e.d.n → (e.kid i).same (e'.kid i) := by
 cases e with
 | nil => cases e' <;> exact False.elim h
 | mk d kid =>
  cases e' with
  | nil => exact False.elim h
  | mk d' kid' =>
   obtain ⟨h1, h2, _, _, h5, h6⟩ := h;exact ⟨h1, h2, h5, h6⟩
theorem sureB_same {v : List Int} : ∀ {a' : AT}, WA a → a.same a' → sureB v a = sureB v a' := by
 induction a with
 | nil => exact fun h => False.elim h
 | mk d kid ih =>
  intro a' hw h;cases a' with
  | nil => exact False.elim h
  | mk d' kid' =>
   obtain ⟨⟨w0, w7, wn⟩, _, _, _, wk⟩ := hw;obtain ⟨s1, s2, s3, s4, s5, s6, s7, s8⟩ := h;have hk := fun i (hi : i < d.n) => ih i (wk i hi) (s8 i hi);show (if d.k = 0 then _ else _) = (if d'.k = 0 then _ else _);rw [← s1];by_cases h0 : d.k = 0
   · rw [if_pos h0, if_pos h0, ← s2]
     apply Bool.eq_iff_iff.2;simp only [List.any_eq_true, List.mem_range];have e : ∀ i, i < d.pn → (d.pat i).s.v.b = (d'.pat i).s.v.b ∧ (d.pat i).p.v.b = (d'.pat i).p.v.b ∧ (d.pat i).o.v.b = (d'.pat i).o.v.b := fun i hi => ⟨(s3 i hi).1.1, (s3 i hi).2.1.1, (s3 i hi).2.2.1⟩;constructor
     · rintro ⟨i, hi, h⟩
       obtain ⟨e1, e2, e3⟩ := e i hi;exact ⟨i, hi, by rw [← e1, ← e2, ← e3]; exact h⟩
     rintro ⟨i, hi, h⟩;obtain ⟨e1, e2, e3⟩ := e i hi;exact ⟨i, hi, by rw [e1, e2, e3]; exact h⟩
   rw [if_neg h0, if_neg h0];by_cases h7 : d.k = 7
   · rw [if_pos h7, if_pos h7, s5]
   rw [if_neg h7, if_neg h7];by_cases h5 : d.k = 5 ∨ d.k = 6
   · have hn := wn.trans (kidsA_one h5)
     rw [if_neg (by omega), if_neg (by omega), if_neg (by omega), if_neg (by omega), hk 0 (by omega)]
   have hn := wn.trans (kidsA_two (by omega));rw [hk 0 (by omega), hk 1 (by omega)]
theorem filterA.same {e : ET} (he : e.same e') (ha : a.same a') : (filterA e a).same (filterA e' a') := ⟨rfl, rfl, fun _ hi => absurd hi nN, he, rfl, rfl, rfl, fun _ _ => ha⟩
theorem AT.same.e (h : a.same a') : a.d.e.same a'.d.e := by
 cases a with
 | nil => cases a' <;> exact False.elim h
 | mk d kid =>
  cases a' with
  | nil => exact False.elim h
  | mk d' kid' => exact h.2.2.2.1
theorem early_same {e : ET} (he : WE e) (ha : WA a) (se : e.same e') (sa : a.same a') : (early e a = none ∧ early e' a' = none) ∨ ∃ b b', early e a = some b ∧ early e' a' = some b' ∧ b.same b' := by
 obtain ⟨k1, k2, k3, k4⟩ := se.d;obtain ⟨q1, q2, q3⟩ := sa.d;unfold early;rw [← k1, ← k2, ← q1];by_cases h1 : e.d.k = 2 ∧ e.d.op = 6
 · rw [if_pos h1, if_pos h1]
   obtain ⟨_, _, hn⟩ := he.kid h1.1;exact .inr ⟨_, _, rfl, rfl, filterA.same (k4 0 (by omega)) (filterA.same (k4 1 (by omega)) sa)⟩
 rw [if_neg h1, if_neg h1];by_cases h2 : a.d.k = 1 ∨ a.d.k = 2 ∨ a.d.k = 4
 · obtain ⟨w0, w1, wn⟩ := ha.kid2 (by rcases h2 with h | h | h <;> simp [h])
   have ev : eV e' [] = eV e [] := (eV_same se).symm;have ea : ((eV e' []).all fun v => sureB v (a'.kid 0)) = (eV e []).all fun v => sureB v (a.kid 0) := by
    rw [ev];congr 1;funext v;exact (sureB_same w0 (q3 0 (by omega))).symm
   rw [ea];by_cases h3 : (a.d.k = 1 ∨ a.d.k = 2 ∨ a.d.k = 4) ∧ ((eV e []).all fun v => sureB v (a.kid 0)) = true
   · rw [if_pos h3, if_pos h3]
     refine .inr ⟨_, _, rfl, rfl, q1, rfl, fun i hi => absurd hi nN, sa.e, rfl, rfl, rfl, fun i hi => ?_⟩;have hi2 : i = 0 ∨ i = 1 := by
      have : i < 2 := hi;omega
     rcases hi2 with rfl | rfl
     · exact filterA.same se (q3 0 (by omega))
     exact q3 1 (by omega)
   have h4 : ¬ a.d.k = 3 := by omega
   rw [if_neg h3, if_neg h3, if_neg h4, if_neg h4];exact .inl ⟨rfl, rfl⟩
 have n1 : ¬ ((a.d.k = 1 ∨ a.d.k = 2 ∨ a.d.k = 4) ∧ ((eV e []).all fun v => sureB v (a.kid 0)) = true) := fun h => h2 h.1;have n2 : ¬ ((a.d.k = 1 ∨ a.d.k = 2 ∨ a.d.k = 4) ∧ ((eV e' []).all fun v => sureB v (a'.kid 0)) = true) := fun h => h2 h.1;rw [if_neg n1, if_neg n2];by_cases h4 : a.d.k = 3
 · rw [if_pos h4, if_pos h4]
   obtain ⟨w0, w1, wn⟩ := ha.kid2 (.inr (.inr (.inl h4)));refine .inr ⟨_, _, rfl, rfl, rfl, rfl, fun i hi => absurd hi nN, ⟨rfl, rfl, rfl, rfl, rfl, fun i hi => absurd hi nN⟩, rfl, rfl, rfl, fun i hi => ?_⟩;have hi2 : i = 0 ∨ i = 1 := by
    have : i < 2 := hi;omega
   rcases hi2 with rfl | rfl
   · exact filterA.same se (q3 0 (by omega))
   exact filterA.same se (q3 1 (by omega))
 rw [if_neg h4, if_neg h4];exact .inl ⟨rfl, rfl⟩
theorem PBz.refl : PBz.same PBz := ⟨⟨rfl, rfl⟩, ⟨rfl, rfl⟩, ⟨rfl, rfl⟩⟩
theorem ET0.refl : ET0.same ET0 := ⟨rfl, rfl, rfl, rfl, rfl, fun _ hi => absurd hi nN⟩
theorem unitP.refl : unitP.same unitP := ⟨rfl, rfl, PBz.refl, ET0.refl, rfl, rfl, rfl, fun _ hi => absurd hi nN⟩
theorem nestP.same {o : Int} {x x' : PB} (hx : x.same x') (hp : p.same p') : (nestP o x p).same (nestP o x' p') := ⟨rfl, rfl, hx, ET0.refl, rfl, rfl, rfl, fun _ _ => hp⟩
theorem hashP.same {q q' : PT} (hp : p.same p') (hq : q.same q') : (hashP p q).same (hashP p' q') := ⟨rfl, rfl, PBz.refl, ET0.refl, rfl, rfl, rfl, fun i hi => by
 have hi2 : i = 0 ∨ i = 1 := by
  have : i < 2 := hi;omega
 rcases hi2 with rfl | rfl
 · exact hp
 exact hq⟩
theorem filterP.same {e : ET} (he : e.same e') (hp : p.same p') : (filterP e p).same (filterP e' p') := ⟨rfl, rfl, PBz.refl, he, rfl, rfl, rfl, fun _ _ => hp⟩
def SamL (l l' : List PB) : Prop := l.length = l'.length ∧ ∀ (i : Nat) (x x' : PB), l[i]? = some x → l'[i]? = some x' → x.same x'
theorem SamL.erase {l l' : List PB} (h : SamL l l') (k : Nat) : SamL (l.eraseIdx k) (l'.eraseIdx k) := by
 refine ⟨by rw [List.length_eraseIdx, List.length_eraseIdx, h.1], fun i x x' h1 h2 => ?_⟩
 rw [List.getElem?_eraseIdx] at h1 h2;by_cases hi : i < k
 · rw [if_pos hi] at h1 h2
   exact h.2 i x x' h1 h2
 rw [if_neg hi] at h1 h2;exact h.2 (i + 1) x x' h1 h2
theorem bgpF_same : ∀ (m : Nat) {l l' : List PB} {p p' : PT} (c : List Int), SamL l l' → p.same p' → (bgpF m l c p).1.same (bgpF m l' c p').1 ∧ (bgpF m l c p).2 = (bgpF m l' c p').2
 | 0, _, _, _, _, _, _, hp => ⟨hp, rfl⟩
 | m + 1, l, l', p, p', c, hl, hp => by
   unfold bgpF
   rw [← hl.1]
   cases h1 : l[(pick c l.length).1]? with
   | none =>
    have h2 : l'[(pick c l.length).1]? = none := by
     rw [List.getElem?_eq_none_iff] at h1 ⊢;rw [← hl.1];exact h1
    rw [h2];exact ⟨hp, rfl⟩
   | some x =>
    have hlt : (pick c l.length).1 < l'.length := by
     have := (List.getElem?_eq_some_iff.1 h1).1;rw [← hl.1];exact this
    have h2 := List.getElem?_eq_getElem hlt;have hx := hl.2 _ _ _ h1 h2;rw [h2];simp only;split
    · exact bgpF_same m _ (hl.erase _) (hashP.same hp (nestP.same hx unitP.refl))
    exact bgpF_same m _ (hl.erase _) (nestP.same hx hp)
theorem kidsF_same {f : AT → List Int → PT × List Int} {kid kid' : Nat → AT} : ∀ (m : Nat) (c : List Int), (∀ i, i < m → ∀ c, (f (kid i) c).1.same (f (kid' i) c).1 ∧ (f (kid i) c).2 = (f (kid' i) c).2) →
 (∀ i, i < m → ((kidsF f kid m c).1 i).same ((kidsF f kid' m c).1 i)) ∧ (kidsF f kid m c).2 = (kidsF f kid' m c).2
 | 0, c, _ => ⟨fun i hi => absurd hi nN, rfl⟩
 | m + 1, c, h => by
   obtain ⟨h1, h2⟩ := kidsF_same m c fun i hi => h i (by omega)
   have h3 := h m (by omega) (kidsF f kid m c).2
   refine ⟨fun i hi => ?_, ?_⟩
   · show (if i = m then _ else _ : PT).same (if i = m then _ else _)
     by_cases e : i = m
     · rw [if_pos e, if_pos e, ← h2]
       exact h3.1
     rw [if_neg e, if_neg e]
     exact h1 i (by omega)
   show (f (kid m) _).2 = (f (kid' m) _).2
   rw [← h2]
   exact h3.2
theorem planF_same : ∀ (n : Nat) {a a' : AT} (c : List Int), WA a → a.same a' → (planF n a c).1.same (planF n a' c).1 ∧ (planF n a c).2 = (planF n a' c).2
 | 0, _, _, _, _, _ => ⟨unitP.refl, rfl⟩
 | n + 1, .nil, a', c, hw, _ => False.elim hw
 | n + 1, .mk d kid, .nil, c, _, h => False.elim h
 | n + 1, .mk d kid, .mk d' kid', c, hw, h => by
   have hw0 := hw
   have h0 := h
   obtain ⟨⟨w0, w7, wn⟩, _, _, we, wk⟩ := hw
   obtain ⟨s1, s2, s3, s4, s5, s6, s7, s8⟩ := h
   unfold planF
   rw [← s1]
   by_cases k0 : d.k = 0
   · rw [if_pos k0, if_pos k0, ← s2]
     refine bgpF_same _ _ ⟨by simp, fun i x x' h1 h2 => ?_⟩ unitP.refl
     rw [List.getElem?_map] at h1 h2
     by_cases hi : i < d.pn
     · rw [List.getElem?_range hi] at h1 h2
       simp only [Option.map_some, Option.some.injEq] at h1 h2
       subst h1 h2
       exact s3 i hi
     rw [List.getElem?_eq_none (by simp; omega)] at h1
     cases h1
   rw [if_neg k0, if_neg k0]
   by_cases k5 : d.k = 5
   · rw [if_pos k5, if_pos k5]
     have hn := wn.trans (kidsA_one (.inl k5))
     have hk := planF_same n (pick c 2).2 (wk 0 (by omega)) (s8 0 (by omega))
     by_cases hp : (pick c 2).1 = 1
     · rw [if_pos hp, if_pos hp]
       rcases early_same we (wk 0 (by omega)) s4 (s8 0 (by omega)) with ⟨e1, e2⟩ | ⟨b, b', e1, e2, e3⟩
       · rw [e1, e2]
         exact ⟨filterP.same s4 hk.1, hk.2⟩
       rw [e1, e2]
       exact planF_same n _ (early.wa we (wk 0 (by omega)) e1) e3
     rw [if_neg hp, if_neg hp]
     exact ⟨filterP.same s4 hk.1, hk.2⟩
   rw [if_neg k5, if_neg k5, ← s7]
   obtain ⟨h1, h2⟩ := kidsF_same (f := planF n) (kid := kid) (kid' := kid') d.n c fun i hi c => planF_same n c (wk i hi) (s8 i hi)
   rw [← h2]
   refine ⟨⟨rfl, rfl, PBz.refl, s4, s5, s6, rfl, fun i hi => ?_⟩, rfl⟩
   have hi' : i < d.n := hi
   by_cases hs : d.k = 1 ∧ (pick (kidsF (planF n) kid d.n c).2 2).1 = 1
   · rw [if_pos hs, if_pos hs]
     have hn := wn.trans (kidsA_two (.inl hs.1))
     exact h1 (1 - i) (by omega)
   rw [if_neg hs, if_neg hs]
   exact h1 i hi'
def NumR (B : Nat) (w : World) (g : Nat) (a : Option Addr) (cs : List Int) : Prop := cs = [] ∨ ∃ b off, a = some ⟨b, off, none⟩ ∧ b < w.heap.size ∧ (b ≠ g ∧ b < B) ∧ ∀ i x, cs[i]? = some x → w.cell? ⟨b, off + i, none⟩ = some (.int .i64 x)
structure CH (B : Nat) (w : World) (g : Nat) (cs : List Int) : Prop where
 h : ∃ a cap, OB w g [.slice a cs.length cap] ∧ cs.length ≤ cap ∧ NumR B w g a cs
 r : ∀ x ∈ cs, -9223372036854775808 ≤ x ∧ x ≤ 9223372036854775807
theorem tmod_emod (x : Int) (h : 2 ≤ n) : (if Int.tmod x n < 0 then Int.tmod x n + n else Int.tmod x n) = x % (n : Int) := by
 have h0 := Int.emod_nonneg x (show (n : Int) ≠ 0 by omega);have h1 := Int.emod_lt_of_pos x (show (0 : Int) < (n : Int) by omega);rw [Int.tmod_eq_emod];by_cases hc : 0 ≤ x ∨ (n : Int) ∣ x
 · rw [if_pos hc]
   rw [if_neg (by omega)];omega
 rw [if_neg hc];have e : ((Int.natAbs (n : Int) : Nat) : Int) = n := by omega
 rw [e, if_pos (by omega)];omega
theorem pick_low (h : n < 2) : pick (x :: l) n = (0, x :: l) := by
 unfold pick;simp [h]
theorem pick_next (h : 2 ≤ n) : pick (x :: l) n = ((x % (n : Int)).toNat, l) := by
 unfold pick;have : ¬ n < 2 := by omega
 simp [this]
def Amg (B : Nat) (w : World) (g : Nat) (cs : List Int) (n : Nat) (e : Ending) (w' : World) : Prop := ∃ k : Int, e = .returned (.int .i64 k) ∧ Hd (k = ((pick cs n).1 : Nat)) ∧ CH B w' g (pick cs n).2 ∧ But g w w'
theorem among_any (g n : Nat) (cs : List Int) (w : World) (h : CH B w g cs) (hn : n ≤ 1048576) :
 Calls Tryz.prog 86 #[.pointer (some ⟨g, 0, none⟩), .int .i64 n] w (Amg B w g cs n) := by
 have H := iH h;obtain ⟨⟨a, cap, ho, hcap, hr⟩, hx⟩ := h;have HG := iH ho.1;have c0 := (ho.2 0 _ rfl).1;have f0 := (ho.2 0 _ rfl).2;by_cases h2 : n < 2
 · have e : Hd ((pick cs n).1 = 0 ∧ (pick cs n).2 = cs) := by
    show (pick cs n).1 = 0 ∧ _;cases cs with
    | nil => exact ⟨rfl, rfl⟩
    | cons x l => rw [pick_low h2]; exact ⟨rfl, rfl⟩
   have hd : (n : Int) < 2 := by omega
   clear hr hx ho hcap;go_in;go_wp2;go_ret;exact ⟨0, rfl, (show (0 : Int) = _ by rw [e.o.1]; rfl), by rw [e.o.2]; exact H.o, But.refl _ _⟩
 have hd : ¬ (n : Int) < 2 := by omega
 cases cs with
 | nil =>
  clear hr hx ho hcap;go_in;go_wp2;go_ret;exact ⟨0, rfl, rfl, H.o, But.refl _ _⟩
 | cons x l =>
  obtain ⟨b, off, rfl, hb, hne, hc⟩ := hr.resolve_left (by simp);have cx : w.cell? ⟨b, off, none⟩ = some (.int .i64 x) := by have h := hc 0 x rfl; simpa using h
  have HC := iH hc;have HX := iH hx;have HN : Hd (pick (x :: l) n = ((x % (n : Int)).toNat, l)) := pick_next (by omega);have HO := iH ho;have HE := iH (tmod_emod x (n := n) (by omega));have h0 := Int.emod_nonneg x (show (n : Int) ≠ 0 by omega);have hlen := iH hcap;have hn0 : ¬ (n : Int) = 0 := by omega
  have hl1 : ¬ ((l.length : Int) + 1 = 0) := by omega
  clear hr hx ho hcap hc;have hN1 : ∀ v a' cap', v = Value.slice a' l.length cap' → l.length ≤ cap' → (l = [] ∨ a' = some ⟨b, off + 1, none⟩) → CH B (w.setCell ⟨g, 0, none⟩ v) g (pick (x :: l) n).2 := fun v a' cap' hv hl ha => by
   rw [HN.o, hv];refine ⟨⟨a', cap', HO.o.set 0 _, hl, ha.imp id fun ha => ⟨b, off + 1, ha, by simpa using hb, hne, fun i y hy => ?_⟩⟩, fun y hy => HX.o y (List.mem_cons_of_mem _ hy)⟩
   rw [cell_set_other (.inl hne.1)];have h := HC.o (i + 1) y hy;rwa [show off + (i + 1) = off + 1 + i by omega] at h
  have hE1 : ∀ k : Int, k = x % (n : Int) → k = ((pick (x :: l) n).1 : Nat) := fun k hk => by rw [HN.o, hk]; exact (Int.toNat_of_nonneg h0).symm
  have HN1 := iH hN1;have HE1 := iH hE1;have hlt := Int.emod_lt_of_pos x (show (0 : Int) < (n : Int) by omega);clear hN1 hE1;by_cases hs : Int.tmod x n < 0
  · go_in
    go_wp2;all_goals
     go_ret;refine ⟨_, rfl, HE1.o _ ?_, HN1.o _ _ _ rfl (by have := hlen.o; simp at this; omega) ?_, (But.refl g w).set 0 _⟩
     · have e := HE.o
       rw [if_pos hs] at e;rw [e];(unfold wrap64; omega)
     have := hlen.o;simp only [List.length_cons] at this;first | exact .inr rfl | exact .inl (List.eq_nil_of_length_eq_zero (by omega))
  go_in;go_wp2;all_goals
   go_ret;refine ⟨_, rfl, HE1.o _ ?_, HN1.o _ _ _ rfl (by have := hlen.o; simp at this; omega) ?_, (But.refl g w).set 0 _⟩
   · have e := HE.o
     rw [if_neg (Int.not_lt.2 hs)] at e;exact e
   have := hlen.o;simp only [List.length_cons] at this;first | exact .inr rfl | exact .inl (List.eq_nil_of_length_eq_zero (by omega))
end Go.Proofs.YtoloadogihbdeaaGreat
