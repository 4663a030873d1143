import Derived.Test.YthljoojcpbignaaGreatDoorMk22
import Derived.Test.YthljoojcpbignaaGreatDoorMk33
namespace Go.Proofs.YthljoojcpbignaaGreatDoor
open Go.RowKit Go.Deep
set_option maxHeartbeats 40000000
set_option maxRecDepth 100000
theorem groupOkP_of (a : Option Addr) (cap n : Nat) (kid : Nat → UT) (p L : Int) (g : Nat) (w0 w : World) (hn : n ≤ 1048576) (hR : KRow 0 w0 28 a n (fun i => (kid i).d.cells)) (hw : Bl w0 w) (hg : w0.heap.size ≤ g) (hc : Ctr w g L) (hL0 : 0 ≤ L) (hL1 : L ≤ 100000)
 (IH : ∀ i, i < n → ∀ (L' : Int) (W : World), Bl w0 W → Ctr W g L' → 0 ≤ L' → L' ≤ 100000 → Calls Tryz.prog 70 #[.pointer (some ⟨g, 0, none⟩), .agg #[.int .i64 p, .int .i64 10, .int .i64 (kid i).d.k, .slice (kid i).d.p.s.v.a (kid i).d.p.s.v.len (kid i).d.p.s.v.cap, .int .i64 (kid i).d.p.s.t.t.k, .slice (kid i).d.p.s.t.t.a (kid i).d.p.s.t.t.len (kid i).d.p.s.t.t.cap, .int .i64 (kid i).d.p.s.t.t.n, .int .i64 (kid i).d.p.s.t.t.s, .slice (kid i).d.p.p.v.a (kid i).d.p.p.v.len (kid i).d.p.p.v.cap, .int .i64 (kid i).d.p.p.t.t.k, .slice (kid i).d.p.p.t.t.a (kid i).d.p.p.t.t.len (kid i).d.p.p.t.t.cap, .int .i64 (kid i).d.p.p.t.t.n, .int .i64 (kid i).d.p.p.t.t.s, .slice (kid i).d.p.o.v.a (kid i).d.p.o.v.len (kid i).d.p.o.v.cap, .int .i64 (kid i).d.p.o.t.t.k, .slice (kid i).d.p.o.t.t.a (kid i).d.p.o.t.t.len (kid i).d.p.o.t.t.cap, .int .i64 (kid i).d.p.o.t.t.n, .int .i64 (kid i).d.p.o.t.t.s, .int .i64 (kid i).d.e.d.k, .int .i64 (kid i).d.e.d.op, .slice (kid i).d.e.d.v.a (kid i).d.e.d.v.len (kid i).d.e.d.v.cap, .int .i64 (kid i).d.e.d.t.t.k, .slice (kid i).d.e.d.t.t.a (kid i).d.e.d.t.t.len (kid i).d.e.d.t.t.cap, .int .i64 (kid i).d.e.d.t.t.n, .int .i64 (kid i).d.e.d.t.t.s, .slice (kid i).d.e.d.ka (kid i).d.e.d.n (kid i).d.e.d.kc, .slice (kid i).d.v.a (kid i).d.v.len (kid i).d.v.cap, .slice (kid i).d.ta (kid i).d.tb.length (kid i).d.tc, .slice (kid i).d.aa (kid i).d.an (kid i).d.ac, .slice (kid i).d.ba (kid i).d.bn (kid i).d.bc]] W (CtrAns (uOk (kid i) p) (usz (kid i)) g L' W)) :
 Calls Tryz.prog 42 #[.pointer (some ⟨g, 0, none⟩), .slice a n cap, .agg #[.int .i64 p, .int .i64 10]] w (CtrAns (∀ i, i < n → uOk (kid i) p) (sumN n (fun i => usz (kid i))) g L w) := by
 have hgw := hc.lt
 have hsz := hw.size
 have HCS : Hd (CS w0 w (w.alloc (.cells #[.int .i64 p, .int .i64 10] 69)) g L [.int .i64 p, .int .i64 10]) := ⟨Box.new w #[.int .i64 p, .int .i64 10] 69 (0, 0), hc.below (bl_a _), Past.of_below (bl_a _), hw.trans ((bl_a _).mono hw.size)⟩
 have HI := iH IH
 have HR := iH hR
 clear IH hc hw hR
 go_in
 go_upto_region 1 with fail
 generalize (w.alloc (.cells #[.int .i64 p, .int .i64 10] 69)) = W1 at *
 go_wp2_with fail
 go_loopw [11] (fun i wr => ∃ (k : Nat) (Lr : Int), k ≤ n ∧ i = .int .i64 k ∧ 0 ≤ Lr ∧ Lr ≤ 100000 ∧ Hd (Lr = L - (sumN k (fun i => usz (kid i)) : Nat)) ∧ Hd (∀ j, j < k → uOk (kid j) p) ∧ Hd (CS w0 w wr g Lr [.int .i64 p, .int .i64 10])) (fun i _ => n - (intOf i).toNat)
 case atStart => exact ⟨0, L, nZ, rfl, hL0, hL1, (show L = L - ((0 : Nat) : Int) by omega), fun j hj => absurd hj nN, HCS⟩
 clear HCS
 obtain ⟨k, Lr, hk, rfl, hLr0, hLr1, HLR, HOKS, HCr⟩ := hrel
 by_cases hlk : k < n
 · have hlkz : (k : Int) < (n : Int) := by omega
   obtain ⟨b, off, rfl, _, hlt, hck⟩ := HR.o.resolve_left (by omega)
   have hcx : wr.rangeAt b (off + k * 28) (kid k).d.cl := fun c u hu => (HCr.o.bl.cell (p := ⟨b, off + k * 28 + c, none⟩) hlt).trans (hck k hlk c u hu)
   have hth := (OB.new wr zUa 103).there 0 28 (by simp)
   have one1 : ((kid k).d.ar : Array Value).all (·.oneCell') = true := UN.one (kid k).d
   have hrr := World.rangeAt_setCells_same _ wr.heap.size 0 (kid k).d.cl hth
   have HCB : Hd (CS w0 w ((wr.alloc (.cells zUa 103)).setCells wr.heap.size 0 (kid k).d.cl) g Lr [.int .i64 p, .int .i64 10]) := HCr.o.below HCr.o.bl.size (below_sets wr.heap.size nR _ _ _ (bl_a _))
   go_wp2_with (first | (with_reducible refine wpq_at ?_; refine wpList_load_mid rfl 103 _ rfl b (off + k * 28) rfl (kid k).d.cl _ hcx Tryz.underlying103 rfl (by kernel_rfl) ?_; try simp only [Act.put, sA, zA, cA]) | (with_reducible refine wpq_at ?_; refine store_stop 103 (.tmp 8) (.tmp 14) rfl ?_))
   change wpList _ _ _ _ _ _
   refine wpList_store_mid rfl 103 _ _ rfl wr.heap.size 0 (kid k).d.ar rfl rfl hth (by kernel_rfl) one1 ?_
   try simp only [Act.put]
   generalize ((wr.alloc (.cells zUa 103)).setCells wr.heap.size 0 (kid k).d.cl) = WB at *
   clear hcx hth one1 hck
   have x0 := HCB.o.bx.2 0 _ rfl
   have x1 := HCB.o.bx.2 1 _ rfl
   have Z := HI.o k hlk Lr WB HCB.o.bl HCB.o.ct hLr0 hLr1
   go_wp2_with (with_reducible refine wpq_at ?_; refine wpList_load_mid rfl 103 _ rfl wr.heap.size 0 rfl (kid k).d.cl _ hrr Tryz.underlying103 rfl (by kernel_rfl) ?_; try simp only [Act.put, sA, zA, cA])
   refine Z.mono ?_
   rintro e w5 ⟨q5, L5, rfl, hq5, hL5, hc5, hp5⟩
   have HC5 := iH (HCB.o.past hg hgw hp5 hc5)
   have HS : Hd (sumN (k + 1) (fun i => usz (kid i)) = sumN k (fun i => usz (kid i)) + usz (kid k)) := rfl
   clear Z hrr hc5 hp5 HCB HCr x0 x1
   cases q5
   · have HNO : Hd (¬ ((∀ i, i < n → uOk (kid i) p) ∧ ((sumN n (fun i => usz (kid i)) : Nat) : Int) ≤ L)) := fun hh => by
      have h1 := hh.1 k hlk
      have h3 := sumN_mono (f := fun i => usz (kid i)) (show k + 1 ≤ n by omega)
      have h4 := HLR.o
      have h5 := HS.o
      have h6 := hh.2
      have h7 := hq5.2 ⟨h1, by omega⟩
      cases h7
     clear hq5 hL5
     go_wp2
     go_ret
     exact CtrAns.no HNO.o HC5.o.ct HC5.o.pa
   obtain ⟨h51, h52⟩ := hq5.1 rfl
   have h53 := hL5 rfl
   have HN5 := iH h51
   have HL5 : Hd (L5 = L - (sumN (k + 1) (fun i => usz (kid i)) : Nat)) := (show L5 = _ by have h1 := HS.o; have h2 := HLR.o; omega)
   have hL50 : 0 ≤ L5 := by omega
   have hL51 : L5 ≤ 100000 := by omega
   clear h51 h52 h53 hq5 hL5
   go_wp2
   go_roundw
   case rel =>
    refine ⟨k + 1, L5, by omega, by go_num, hL50, hL51, HL5, fun j hj => ?_, HC5⟩
    by_cases e : j = k
    · subst e
      exact HN5.o
    exact HOKS.o j (by omega)
   case measure => simp [intOf]; omega
 obtain rfl : k = n := by omega
 have hlkz : ¬ (k : Int) < (k : Int) := by omega
 have HFL : Hd (((sumN k (fun i => usz (kid i)) : Nat) : Int) ≤ L ∧ Lr = L - (sumN k (fun i => usz (kid i)) : Nat)) := (show _ ∧ _ by have h4 := HLR.o; omega)
 go_wp2
 go_ret
 exact CtrAns.yes HOKS.o HFL.o.1 HFL.o.2 HCr.o.ct HCr.o.pa
theorem elemOkP_any (e : UT) : ∀ (p L : Int) (g : Nat) (w0 w : World), e.lies 0 w0 → Bl w0 w → w0.heap.size ≤ g → Ctr w g L → 0 ≤ p → p ≤ 100000 → 0 ≤ L → L ≤ 100000 →
 Calls Tryz.prog 70 #[.pointer (some ⟨g, 0, none⟩), .agg #[.int .i64 p, .int .i64 10, .int .i64 e.d.k, .slice e.d.p.s.v.a e.d.p.s.v.len e.d.p.s.v.cap, .int .i64 e.d.p.s.t.t.k, .slice e.d.p.s.t.t.a e.d.p.s.t.t.len e.d.p.s.t.t.cap, .int .i64 e.d.p.s.t.t.n, .int .i64 e.d.p.s.t.t.s, .slice e.d.p.p.v.a e.d.p.p.v.len e.d.p.p.v.cap, .int .i64 e.d.p.p.t.t.k, .slice e.d.p.p.t.t.a e.d.p.p.t.t.len e.d.p.p.t.t.cap, .int .i64 e.d.p.p.t.t.n, .int .i64 e.d.p.p.t.t.s, .slice e.d.p.o.v.a e.d.p.o.v.len e.d.p.o.v.cap, .int .i64 e.d.p.o.t.t.k, .slice e.d.p.o.t.t.a e.d.p.o.t.t.len e.d.p.o.t.t.cap, .int .i64 e.d.p.o.t.t.n, .int .i64 e.d.p.o.t.t.s, .int .i64 e.d.e.d.k, .int .i64 e.d.e.d.op, .slice e.d.e.d.v.a e.d.e.d.v.len e.d.e.d.v.cap, .int .i64 e.d.e.d.t.t.k, .slice e.d.e.d.t.t.a e.d.e.d.t.t.len e.d.e.d.t.t.cap, .int .i64 e.d.e.d.t.t.n, .int .i64 e.d.e.d.t.t.s, .slice e.d.e.d.ka e.d.e.d.n e.d.e.d.kc, .slice e.d.v.a e.d.v.len e.d.v.cap, .slice e.d.ta e.d.tb.length e.d.tc, .slice e.d.aa e.d.an e.d.ac, .slice e.d.ba e.d.bn e.d.bc]] w (CtrAns (uOk e p) (usz e) g L w) := by
 induction e with
 | nil => exact fun _ _ _ _ _ h => False.elim h
 | mk d ka kb ia ib =>
  intro p L g w0 w hl hw hg hc hp0 hp1 hL0 hL1
  obtain ⟨_, _, _, _, _, ⟨an, aR⟩, ⟨bn, bR⟩, hka, hkb⟩ := id hl
  exact elemOk_of d ka kb p L g w0 w hl hw hg hc hp0 hp1 hL0 hL1
   (fun L' W hb hc' h0 h1 h10 => groupOkP_of d.aa d.ac d.an ka (p + 1) L' g w0 W an aR hb hg hc' h0 h1 fun i hi L2 W2 hb2 hc2 h02 h12 => ia i (p + 1) L2 g w0 W2 (hka i hi) hb2 hg hc2 (by omega) (by omega) h02 h12)
   (fun L' W hb hc' h0 h1 h10 => groupOkP_of d.ba d.bc d.bn kb (p + 1) L' g w0 W bn bR hb hg hc' h0 h1 fun i hi L2 W2 hb2 hc2 h02 h12 => ib i (p + 1) L2 g w0 W2 (hkb i hi) hb2 hg hc2 (by omega) (by omega) h02 h12)
def GQ (w0 : World) (B g : Nat) (e : UT) : Prop :=
 (∀ (v : Value) (L : List SL) (W : World), VQ w0 W B g v L → L.length + sumN e.d.an (fun i => uc (e.ka i)) ≤ 1000000 → Calls Tryz.prog 57 #[.pointer (some ⟨g, 0, none⟩), .slice e.d.aa e.d.an e.d.ac] W (AddQ w0 B g v (gV e.d.an e.ka (L.map SL.b)) W)) ∧
 (∀ (v : Value) (L : List SL) (W : World), VQ w0 W B g v L → L.length + sumN e.d.bn (fun i => uc (e.kb i)) ≤ 1000000 → Calls Tryz.prog 57 #[.pointer (some ⟨g, 0, none⟩), .slice e.d.ba e.d.bn e.d.bc] W (AddQ w0 B g v (gV e.d.bn e.kb (L.map SL.b)) W))
theorem addGroup_of (a : Option Addr) (cap n : Nat) (kid : Nat → UT) (v : Value) (L : List SL) (B g : Nat) (w0 w : World) (hn : n ≤ 1048576) (hR : KRow 0 w0 28 a n (fun i => (kid i).d.cells)) (hk : ∀ i, i < n → (kid i).lies 0 w0) (hV : VQ w0 w B g v L) (hm : L.length + sumN n (fun i => uc (kid i)) ≤ 1000000)
 (IH : ∀ i, i < n → GQ w0 B g (kid i)) :
 Calls Tryz.prog 57 #[.pointer (some ⟨g, 0, none⟩), .slice a n cap] w (AddQ w0 B g v (gV n kid (L.map SL.b)) w) := by
 have HV0 := iH hV
 have HR := iH hR
 have HI := iH IH
 have HEL := iH (fun i (hi : i < n) => (hk i hi).parts)
 have HNE := iH (fun i (hi : i < n) => (hk i hi).ne)
 have HLK : Hd (∀ k, k < n → (foldN k (fun i acc => uV (kid i) acc) (L.map SL.b)).length + uc (kid k) ≤ 1000000) := fun k hk => by
  have h1 := foldN_len (f := (fun i acc => uV (kid i) acc)) (c := fun i => uc (kid i)) (n := k) (fun i l _ => uV_len (kid i) l) (L.map SL.b)
  rw [List.length_map] at h1
  have h3 := sumN_mono (f := fun i => uc (kid i)) (show k + 1 ≤ n by omega)
  have h4 : sumN (k + 1) (fun i => uc (kid i)) = sumN k (fun i => uc (kid i)) + uc (kid k) := rfl
  omega
 clear hR IH hk hV hm
 go_in
 go_wp2_with fail
 go_loopw [8] (fun i wr => ∃ (k : Nat) (v' : Value) (L' : List SL), k ≤ n ∧ i = .int .i64 k ∧ Hd (L'.map SL.b = foldN k (fun i acc => uV (kid i) acc) (L.map SL.b)) ∧ Hd (VQ w0 wr B g v' L') ∧ Hd (KQ g v w v' wr)) (fun i _ => n - (intOf i).toNat)
 case atStart => exact ⟨0, v, L, nZ, rfl, rfl, HV0, KQ.of_below brf⟩
 clear HV0
 obtain ⟨k, v', L', hk, rfl, HR0, HVr, HKr⟩ := hrel
 by_cases hlk : k < n
 rotate_left
 · obtain rfl : k = n := by omega
   have hlkz : ¬ (k : Int) < (k : Int) := by omega
   go_wp2
   go_end0
   exact ⟨v', L', rfl, HVr.o, HR0.o, HKr.o⟩
 have hlkz : (k : Int) < (n : Int) := by omega
 obtain ⟨b, off, rfl, _, hlt, hck⟩ := HR.o.resolve_left (by omega)
 have hcx : wr.rangeAt b (off + k * 28) (kid k).d.cl := fun c u hu => (HVr.o.bl.cell (p := ⟨b, off + k * 28 + c, none⟩) hlt).trans (hck k hlk c u hu)
 have hth := (OB.new wr zUa 103).there 0 28 (by simp)
 have one1 : ((kid k).d.ar : Array Value).all (·.oneCell') = true := UN.one (kid k).d
 have HBk : Hd (Bl wr ((wr.alloc (.cells zUa 103)).setCells wr.heap.size 0 (kid k).d.cl)) := below_sets _ nR _ _ _ (bl_a _)
 have HQ0 : Hd (QS w0 wr B g v' v' L' (kid k).d.cells ((wr.alloc (.cells zUa 103)).setCells wr.heap.size 0 (kid k).d.cl)) := ⟨HVr.o.below HBk.o, KQ.of_below HBk.o, ((OB.new wr zUa 103).put (kid k).d.cl 0 (kid k).d.cl (show 0 + 28 ≤ 28 by omega) rfl).box, fun e => by have := (HVr.o.vl.lo _ e).2; omega, HVr.o.lt⟩
 have HUC := iH (uc_at (HNE.o k hlk))
 have HB0 : Hd (L'.length + (3 + esz (kid k).d.e + 1 + (sumN (kid k).d.an (fun i => uc ((kid k).ka i)) + sumN (kid k).d.bn (fun i => uc ((kid k).kb i)))) ≤ 1000000) := (show _ ≤ _ by have h1 := congrArg List.length HR0.o; rw [List.length_map] at h1; have h2 := HLK.o k hlk; have h3 := HUC.o; omega)
 have HIK := iH (HI.o k hlk)
 have HEK := iH (HEL.o k hlk)
 have HSU : Hd (foldN (k + 1) (fun i acc => uV (kid i) acc) (L.map SL.b) = (gV (kid k).d.bn (kid k).kb (gV (kid k).d.an (kid k).ka (addV (eV (kid k).d.e (ptV (kid k).d.p (foldN k (fun i acc => uV (kid i) acc) (L.map SL.b)))) (kid k).d.v.b)))) := (show uV (kid k) _ = _ from uV_at (HNE.o k hlk))
 go_wp2_with (first | (with_reducible refine wpq_at ?_; refine wpList_load_mid rfl 103 _ rfl b (off + k * 28) rfl (kid k).d.cl _ hcx Tryz.underlying103 rfl (by kernel_rfl) ?_; try simp only [Act.put, sA, zA, cA]) | (with_reducible refine wpq_at ?_; refine store_stop 103 (.tmp 5) (.tmp 11) rfl ?_))
 change wpList _ _ _ _ _ _
 refine wpList_store_mid rfl 103 _ _ rfl wr.heap.size 0 (kid k).d.ar rfl rfl hth (by kernel_rfl) one1 ?_
 try simp only [Act.put]
 generalize ((wr.alloc (.cells zUa 103)).setCells wr.heap.size 0 (kid k).d.cl) = W1 at *
 clear hcx hth one1 hck HBk
 have lp := HQ0.o.bx.range 1 (kid k).d.p.cl rfl
 go_wp2_with (with_reducible refine wpq_at ?_; refine wpList_load_mid rfl 97 _ rfl wr.heap.size 1 rfl (kid k).d.p.cl _ lp Tryz.underlying97 rfl (by kernel_rfl) ?_; try simp only [Act.put, sA, zA, cA])
 clear lp
 refine (addPat_any v' L' (kid k).d.p B g w0 _ HQ0.o.vq HEK.o.1 (by have := HB0.o; omega)).mono ?_
 rintro e z1 ⟨v1, L1, rfl, hV1, hR1, hK1⟩
 have HQ1 := iH (HQ0.o.step hV1 hK1)
 have HR1 : Hd (L1.map SL.b = (ptV (kid k).d.p (foldN k (fun i acc => uV (kid i) acc) (L.map SL.b)))) := (show _ = _ by rw [hR1, HR0.o])
 have HB1 : Hd (L1.length + (esz (kid k).d.e + 1 + (sumN (kid k).d.an (fun i => uc ((kid k).ka i)) + sumN (kid k).d.bn (fun i => uc ((kid k).kb i)))) ≤ 1000000) := (show _ ≤ _ by have h1 := congrArg List.length HR1.o; have h0 := congrArg List.length HR0.o; rw [List.length_map] at h1 h0; have h2 := ptV_len (kid k).d.p (foldN k (fun i acc => uV (kid i) acc) (L.map SL.b)); have h3 := HB0.o; omega)
 clear hV1 hR1 hK1 HQ0 HR0
 have le := HQ1.o.bx.range 16 (kid k).d.e.d.cl rfl
 go_wp2_with (with_reducible refine wpq_at ?_; refine wpList_load_mid rfl 100 _ rfl wr.heap.size 16 rfl (kid k).d.e.d.cl _ le Tryz.underlying100 rfl (by kernel_rfl) ?_; try simp only [Act.put, sA, zA, cA])
 clear le
 refine (addExpr_any (kid k).d.e v1 L1 B g w0 _ HEK.o.2.1 HQ1.o.vq (by have := HB1.o; omega)).mono ?_
 rintro e z2 ⟨v2, L2, rfl, hV2, hR2, hK2⟩
 have HQ2 := iH (HQ1.o.step hV2 hK2)
 have HR2 : Hd (L2.map SL.b = (eV (kid k).d.e (ptV (kid k).d.p (foldN k (fun i acc => uV (kid i) acc) (L.map SL.b))))) := (show _ = _ by rw [hR2, HR1.o])
 have HB2 : Hd (L2.length + (1 + (sumN (kid k).d.an (fun i => uc ((kid k).ka i)) + sumN (kid k).d.bn (fun i => uc ((kid k).kb i)))) ≤ 1000000) := (show _ ≤ _ by have h1 := congrArg List.length HR2.o; have h0 := congrArg List.length HR1.o; rw [List.length_map] at h1 h0; have h2 := eV_len (kid k).d.e (ptV (kid k).d.p (foldN k (fun i acc => uV (kid i) acc) (L.map SL.b))); have h3 := HB1.o; omega)
 clear hV2 hR2 hK2 HQ1 HR1
 have y24 := HQ2.o.bx.2 24 _ rfl
 go_wp2_with fail
 clear y24
 refine (add_any v2 L2 (kid k).d.v B g w0 _ HQ2.o.vq HEK.o.2.2 (by have := HB2.o; omega)).mono ?_
 rintro e z3 ⟨v3, L3, rfl, hV3, hR3, hK3⟩
 have HQ3 := iH (HQ2.o.step hV3 hK3)
 have HR3 : Hd (L3.map SL.b = (addV (eV (kid k).d.e (ptV (kid k).d.p (foldN k (fun i acc => uV (kid i) acc) (L.map SL.b)))) (kid k).d.v.b)) := (show _ = _ by rw [hR3, HR2.o])
 have HB3 : Hd (L3.length + (sumN (kid k).d.an (fun i => uc ((kid k).ka i)) + sumN (kid k).d.bn (fun i => uc ((kid k).kb i))) ≤ 1000000) := (show _ ≤ _ by have h1 := congrArg List.length HR3.o; have h0 := congrArg List.length HR2.o; rw [List.length_map] at h1 h0; have h2 := addV_len (eV (kid k).d.e (ptV (kid k).d.p (foldN k (fun i acc => uV (kid i) acc) (L.map SL.b)))) (kid k).d.v.b; have h3 := HB2.o; omega)
 clear hV3 hR3 hK3 HQ2 HR2
 have y26 := HQ3.o.bx.2 26 _ rfl
 go_wp2_with fail
 clear y26
 refine (HIK.o.1 v3 L3 _ HQ3.o.vq (by have := HB3.o; omega)).mono ?_
 rintro e z4 ⟨v4, L4, rfl, hV4, hR4, hK4⟩
 have HQ4 := iH (HQ3.o.step hV4 hK4)
 have HR4 : Hd (L4.map SL.b = (gV (kid k).d.an (kid k).ka (addV (eV (kid k).d.e (ptV (kid k).d.p (foldN k (fun i acc => uV (kid i) acc) (L.map SL.b)))) (kid k).d.v.b))) := (show _ = _ by rw [hR4, HR3.o])
 have HB4 : Hd (L4.length + sumN (kid k).d.bn (fun i => uc ((kid k).kb i)) ≤ 1000000) := (show _ ≤ _ by have h1 := congrArg List.length HR4.o; have h0 := congrArg List.length HR3.o; rw [List.length_map] at h1 h0; have h2 := gV_len (kid k).d.an (kid k).ka (addV (eV (kid k).d.e (ptV (kid k).d.p (foldN k (fun i acc => uV (kid i) acc) (L.map SL.b)))) (kid k).d.v.b); have h3 := HB3.o; omega)
 clear hV4 hR4 hK4 HQ3 HR3
 have y27 := HQ4.o.bx.2 27 _ rfl
 go_wp2_with fail
 clear y27
 refine (HIK.o.2 v4 L4 _ HQ4.o.vq (by have := HB4.o; omega)).mono ?_
 rintro e z5 ⟨v5, L5, rfl, hV5, hR5, hK5⟩
 have HQ5 := iH (HQ4.o.step hV5 hK5)
 have HR5 : Hd (L5.map SL.b = (gV (kid k).d.bn (kid k).kb (gV (kid k).d.an (kid k).ka (addV (eV (kid k).d.e (ptV (kid k).d.p (foldN k (fun i acc => uV (kid i) acc) (L.map SL.b)))) (kid k).d.v.b)))) := (show _ = _ by rw [hR5, HR4.o])
 skip
 clear hV5 hR5 hK5 HQ4 HR4
 have HRE := iH (show _ = _ from HR5.o.trans HSU.o.symm)
 have HKE := iH (HKr.o.trans HQ5.o.kq)
 go_wp2
 go_roundw
 case rel => exact ⟨k + 1, v5, L5, by omega, by go_num, HRE, HQ5.o.vq, HKE⟩
 case measure => simp [intOf]; omega
theorem addGroup_any (e : UT) : ∀ (w0 : World) (B g : Nat), e.lies 0 w0 → GQ w0 B g e := by
 induction e with
 | nil => exact fun _ _ _ h => False.elim h
 | mk d ka kb ia ib =>
  intro w0 B g hl
  obtain ⟨_, _, _, _, _, ⟨an, aR⟩, ⟨bn, bR⟩, hka, hkb⟩ := hl
  exact ⟨fun v L W h1 h2 => addGroup_of d.aa d.ac d.an ka v L B g w0 W an aR hka h1 h2 fun i hi => ia i w0 B g (hka i hi), fun v L W h1 h2 => addGroup_of d.ba d.bc d.bn kb v L B g w0 W bn bR hkb h1 h2 fun i hi => ib i w0 B g (hkb i hi)⟩
end Go.Proofs.YthljoojcpbignaaGreatDoor
