import Derived.Test.YtoloadogihbdeaaGreatMk46
namespace Go.Proofs.YtoloadogihbdeaaGreat
open Go.RowKit Go.Deep
set_option maxHeartbeats 40000000
set_option maxRecDepth 100000
def cellsAt (p : Int) (d : PN) : List Value := .int .i64 p :: .int .i64 480 :: d.cells
theorem planOk_any (e : PT) : ∀ (p L : Int) (g : Nat) (w0 w : World), e.lies 0 w0 → Bl w0 w → w0.heap.size ≤ g → Ctr w g L → 0 ≤ p → p ≤ 100000 → 0 ≤ L → L ≤ 100000 →
 Calls Tryz.prog 88 #[.pointer (some ⟨g, 0, none⟩), .agg #[.int .i64 p, .int .i64 480, .int .i64 e.d.k, .int .i64 e.d.ord, .slice e.d.p.s.v.a e.d.p.s.v.len e.d.p.s.v.cap, .int .i64 e.d.p.s.t.t.k, .slice e.d.p.s.t.t.a e.d.p.s.t.t.len e.d.p.s.t.t.cap, .int .i64 e.d.p.s.t.t.n, .int .i64 e.d.p.s.t.t.s, .slice e.d.p.p.v.a e.d.p.p.v.len e.d.p.p.v.cap, .int .i64 e.d.p.p.t.t.k, .slice e.d.p.p.t.t.a e.d.p.p.t.t.len e.d.p.p.t.t.cap, .int .i64 e.d.p.p.t.t.n, .int .i64 e.d.p.p.t.t.s, .slice e.d.p.o.v.a e.d.p.o.v.len e.d.p.o.v.cap, .int .i64 e.d.p.o.t.t.k, .slice e.d.p.o.t.t.a e.d.p.o.t.t.len e.d.p.o.t.t.cap, .int .i64 e.d.p.o.t.t.n, .int .i64 e.d.p.o.t.t.s, .int .i64 e.d.e.d.k, .int .i64 e.d.e.d.op, .slice e.d.e.d.v.a e.d.e.d.v.len e.d.e.d.v.cap, .int .i64 e.d.e.d.t.t.k, .slice e.d.e.d.t.t.a e.d.e.d.t.t.len e.d.e.d.t.t.cap, .int .i64 e.d.e.d.t.t.n, .int .i64 e.d.e.d.t.t.s, .slice e.d.e.d.ka e.d.e.d.n e.d.e.d.kc, .slice e.d.v.a e.d.v.len e.d.v.cap, .slice e.d.ta e.d.tb.length e.d.tc, .slice e.d.ka e.d.n e.d.kc]] w (CtrAns (pOk e p) (psz e) g L w) := by
 induction e with
 | nil => exact fun _ _ _ _ _ h => False.elim h
 | mk d kid ih =>
  intro p L g w0 w hl hw hg hc hp0 hp1 hL0 hL1
  show Calls Tryz.prog 88 #[.pointer (some ⟨g, 0, none⟩), .agg #[.int .i64 p, .int .i64 480, .int .i64 d.k, .int .i64 d.ord, .slice d.p.s.v.a d.p.s.v.len d.p.s.v.cap, .int .i64 d.p.s.t.t.k, .slice d.p.s.t.t.a d.p.s.t.t.len d.p.s.t.t.cap, .int .i64 d.p.s.t.t.n, .int .i64 d.p.s.t.t.s, .slice d.p.p.v.a d.p.p.v.len d.p.p.v.cap, .int .i64 d.p.p.t.t.k, .slice d.p.p.t.t.a d.p.p.t.t.len d.p.p.t.t.cap, .int .i64 d.p.p.t.t.n, .int .i64 d.p.p.t.t.s, .slice d.p.o.v.a d.p.o.v.len d.p.o.v.cap, .int .i64 d.p.o.t.t.k, .slice d.p.o.t.t.a d.p.o.t.t.len d.p.o.t.t.cap, .int .i64 d.p.o.t.t.n, .int .i64 d.p.o.t.t.s, .int .i64 d.e.d.k, .int .i64 d.e.d.op, .slice d.e.d.v.a d.e.d.v.len d.e.d.v.cap, .int .i64 d.e.d.t.t.k, .slice d.e.d.t.t.a d.e.d.t.t.len d.e.d.t.t.cap, .int .i64 d.e.d.t.t.n, .int .i64 d.e.d.t.t.s, .slice d.e.d.ka d.e.d.n d.e.d.kc, .slice d.v.a d.v.len d.v.cap, .slice d.ta d.tb.length d.tc, .slice d.ka d.n d.kc]] w (CtrAns (pOk (.mk d kid) p) (psz (.mk d kid)) g L w)
  have hgw : g < w.heap.size := hc.lt
  have hsz : w0.heap.size ≤ w.heap.size := hw.size
  have HOWN : Hd (∀ W, Bl w0 W → Cl 125 #[.agg d.ar] W (Tells (HasP d) W)) := fun W hb => hasOwnP_any d kid W (PT.lies.upper (uB hb) hl)
  obtain ⟨_, he, _, _, _, hn, hR, hk⟩ := hl
  have HEXP : Hd (∀ (L' : Int) (W : World), Bl w0 W → Ctr W g L' → 0 ≤ L' → L' ≤ 100000 → Cl 127 #[.pointer (some ⟨g, 0, none⟩), .agg #[.int .i64 1, .int .i64 120, .int .i64 d.e.d.k, .int .i64 d.e.d.op, .slice d.e.d.v.a d.e.d.v.len d.e.d.v.cap, .int .i64 d.e.d.t.t.k, .slice d.e.d.t.t.a d.e.d.t.t.len d.e.d.t.t.cap, .int .i64 d.e.d.t.t.n, .int .i64 d.e.d.t.t.s, .slice d.e.d.ka d.e.d.n d.e.d.kc]] W (CtrAns (eOk 120 d.e 1) (esz d.e) g L' W)) := fun L' W hb hc' h0 h1 => exprOk_any d.e 1 120 L' g w0 W he hb hg hc' (by omega) (by omega) (by omega) h0 h1
  have HIH : Hd (∀ i, i < d.n → ∀ (L' : Int) (W : World), Bl w0 W → Ctr W g L' → 0 ≤ L' → L' ≤ 100000 → p ≤ 480 → Cl 88 #[.pointer (some ⟨g, 0, none⟩), .agg #[.int .i64 (p + 1), .int .i64 480, .int .i64 (kid i).d.k, .int .i64 (kid i).d.ord, .slice (kid i).d.p.s.v.a (kid i).d.p.s.v.len (kid i).d.p.s.v.cap, .int .i64 (kid i).d.p.s.t.t.k, .slice (kid i).d.p.s.t.t.a (kid i).d.p.s.t.t.len (kid i).d.p.s.t.t.cap, .int .i64 (kid i).d.p.s.t.t.n, .int .i64 (kid i).d.p.s.t.t.s, .slice (kid i).d.p.p.v.a (kid i).d.p.p.v.len (kid i).d.p.p.v.cap, .int .i64 (kid i).d.p.p.t.t.k, .slice (kid i).d.p.p.t.t.a (kid i).d.p.p.t.t.len (kid i).d.p.p.t.t.cap, .int .i64 (kid i).d.p.p.t.t.n, .int .i64 (kid i).d.p.p.t.t.s, .slice (kid i).d.p.o.v.a (kid i).d.p.o.v.len (kid i).d.p.o.v.cap, .int .i64 (kid i).d.p.o.t.t.k, .slice (kid i).d.p.o.t.t.a (kid i).d.p.o.t.t.len (kid i).d.p.o.t.t.cap, .int .i64 (kid i).d.p.o.t.t.n, .int .i64 (kid i).d.p.o.t.t.s, .int .i64 (kid i).d.e.d.k, .int .i64 (kid i).d.e.d.op, .slice (kid i).d.e.d.v.a (kid i).d.e.d.v.len (kid i).d.e.d.v.cap, .int .i64 (kid i).d.e.d.t.t.k, .slice (kid i).d.e.d.t.t.a (kid i).d.e.d.t.t.len (kid i).d.e.d.t.t.cap, .int .i64 (kid i).d.e.d.t.t.n, .int .i64 (kid i).d.e.d.t.t.s, .slice (kid i).d.e.d.ka (kid i).d.e.d.n (kid i).d.e.d.kc, .slice (kid i).d.v.a (kid i).d.v.len (kid i).d.v.cap, .slice (kid i).d.ta (kid i).d.tb.length (kid i).d.tc, .slice (kid i).d.ka (kid i).d.n (kid i).d.kc]] W (CtrAns (pOk (kid i) (p + 1)) (psz (kid i)) g L' W)) := fun i hi L' W hb hc' h0 h1 h10 => ih i (p + 1) L' g w0 W (hk i hi) hb hg hc' (by omega) (by omega) h0 h1
  have HKR : Hd (KRow 0 w0 28 d.ka d.n (fun i => (kid i).d.cells)) := hR
  have hnb : d.n ≤ 1048576 := hn
  have HCS : Hd (CS w0 w (w.alloc (.cells #[.int .i64 p, .int .i64 480, .int .i64 d.k, .int .i64 d.ord, .slice d.p.s.v.a d.p.s.v.len d.p.s.v.cap, .int .i64 d.p.s.t.t.k, .slice d.p.s.t.t.a d.p.s.t.t.len d.p.s.t.t.cap, .int .i64 d.p.s.t.t.n, .int .i64 d.p.s.t.t.s, .slice d.p.p.v.a d.p.p.v.len d.p.p.v.cap, .int .i64 d.p.p.t.t.k, .slice d.p.p.t.t.a d.p.p.t.t.len d.p.p.t.t.cap, .int .i64 d.p.p.t.t.n, .int .i64 d.p.p.t.t.s, .slice d.p.o.v.a d.p.o.v.len d.p.o.v.cap, .int .i64 d.p.o.t.t.k, .slice d.p.o.t.t.a d.p.o.t.t.len d.p.o.t.t.cap, .int .i64 d.p.o.t.t.n, .int .i64 d.p.o.t.t.s, .int .i64 d.e.d.k, .int .i64 d.e.d.op, .slice d.e.d.v.a d.e.d.v.len d.e.d.v.cap, .int .i64 d.e.d.t.t.k, .slice d.e.d.t.t.a d.e.d.t.t.len d.e.d.t.t.cap, .int .i64 d.e.d.t.t.n, .int .i64 d.e.d.t.t.s, .slice d.e.d.ka d.e.d.n d.e.d.kc, .slice d.v.a d.v.len d.v.cap, .slice d.ta d.tb.length d.tc, .slice d.ka d.n d.kc] 144)) g L (cellsAt p d)) := ⟨Box.new w #[.int .i64 p, .int .i64 480, .int .i64 d.k, .int .i64 d.ord, .slice d.p.s.v.a d.p.s.v.len d.p.s.v.cap, .int .i64 d.p.s.t.t.k, .slice d.p.s.t.t.a d.p.s.t.t.len d.p.s.t.t.cap, .int .i64 d.p.s.t.t.n, .int .i64 d.p.s.t.t.s, .slice d.p.p.v.a d.p.p.v.len d.p.p.v.cap, .int .i64 d.p.p.t.t.k, .slice d.p.p.t.t.a d.p.p.t.t.len d.p.p.t.t.cap, .int .i64 d.p.p.t.t.n, .int .i64 d.p.p.t.t.s, .slice d.p.o.v.a d.p.o.v.len d.p.o.v.cap, .int .i64 d.p.o.t.t.k, .slice d.p.o.t.t.a d.p.o.t.t.len d.p.o.t.t.cap, .int .i64 d.p.o.t.t.n, .int .i64 d.p.o.t.t.s, .int .i64 d.e.d.k, .int .i64 d.e.d.op, .slice d.e.d.v.a d.e.d.v.len d.e.d.v.cap, .int .i64 d.e.d.t.t.k, .slice d.e.d.t.t.a d.e.d.t.t.len d.e.d.t.t.cap, .int .i64 d.e.d.t.t.n, .int .i64 d.e.d.t.t.s, .slice d.e.d.ka d.e.d.n d.e.d.kc, .slice d.v.a d.v.len d.v.cap, .slice d.ta d.tb.length d.tc, .slice d.ka d.n d.kc] 144 (0, 0), hc.below (bl_a _), Past.of_below (bl_a _), hw.trans ((bl_a _).mono hsz)⟩
  have AD := admits_any g L p 480 _ HCS.o.ct hL0 hL1
  have HSZ : Hd (psz (.mk d kid) = ownP d + sumN d.n (fun i => psz (kid i))) := rfl
  have HOW : Hd (1 ≤ ownP d) := (show _ ≤ _ by unfold ownP; omega)
  clear he hn hR hk ih hw hc
  go_enter Tryz.func88, Tryz.ntmps88
  go_upto_region 1 with fail
  generalize (w.alloc (.cells #[.int .i64 p, .int .i64 480, .int .i64 d.k, .int .i64 d.ord, .slice d.p.s.v.a d.p.s.v.len d.p.s.v.cap, .int .i64 d.p.s.t.t.k, .slice d.p.s.t.t.a d.p.s.t.t.len d.p.s.t.t.cap, .int .i64 d.p.s.t.t.n, .int .i64 d.p.s.t.t.s, .slice d.p.p.v.a d.p.p.v.len d.p.p.v.cap, .int .i64 d.p.p.t.t.k, .slice d.p.p.t.t.a d.p.p.t.t.len d.p.p.t.t.cap, .int .i64 d.p.p.t.t.n, .int .i64 d.p.p.t.t.s, .slice d.p.o.v.a d.p.o.v.len d.p.o.v.cap, .int .i64 d.p.o.t.t.k, .slice d.p.o.t.t.a d.p.o.t.t.len d.p.o.t.t.cap, .int .i64 d.p.o.t.t.n, .int .i64 d.p.o.t.t.s, .int .i64 d.e.d.k, .int .i64 d.e.d.op, .slice d.e.d.v.a d.e.d.v.len d.e.d.v.cap, .int .i64 d.e.d.t.t.k, .slice d.e.d.t.t.a d.e.d.t.t.len d.e.d.t.t.cap, .int .i64 d.e.d.t.t.n, .int .i64 d.e.d.t.t.s, .slice d.e.d.ka d.e.d.n d.e.d.kc, .slice d.v.a d.v.len d.v.cap, .slice d.ta d.tb.length d.tc, .slice d.ka d.n d.kc] 144)) = W1 at *
  have x0 := HCS.o.bx.2 0 _ rfl
  have x1 := HCS.o.bx.2 1 _ rfl
  go_wp2_with fail
  refine AD.mono ?_
  rintro e w1 ⟨q1, rfl, hq1', hc1, hp1'⟩
  have HC1 : Hd (CS w0 w w1 g (L - 1) (cellsAt p d)) := HCS.o.past hg hgw hp1' hc1
  clear AD hc1 hp1' HCS x0 x1
  cases q1
  · have HNO : Hd (¬ (pOk (.mk d kid) p ∧ ((psz (.mk d kid) : Nat) : Int) ≤ L)) := fun hh => by
     have h1 := HSZ.o
     have h0 := HOW.o
     have h2 := hh.2
     have h3 := hh.1.1
     have h4 := hq1'.2 ⟨by omega, h3⟩
     cases h4
    clear hq1'
    go_wp2
    go_ret
    exact CtrAns.no HNO.o HC1.o.ct HC1.o.pa
  obtain ⟨hLp, hpq⟩ := hq1'.1 rfl
  clear hq1'
  have lr := HC1.o.bx.range 2 d.cl rfl
  go_wp2_with (with_reducible refine wpq_at ?_; refine wpq_stop 46 _ rfl ?_)
  change wpList _ _ _ _ _ _
  refine wpq_load ?hw 46 _ rfl w.heap.size 2 rfl d.cl _ lr Tryz.underlying46 rfl (by kernel_rfl) ?_
  case hw => rfl
  simp only [Act.put, sA, zA, cA]
  go_wp2_with fail
  refine (HOWN.o w1 HC1.o.bl).mono ?_
  rintro e w2 ⟨q2, rfl, hq2, hb2⟩
  have HC2 : Hd (CS w0 w w2 g (L - 1) (cellsAt p d)) := HC1.o.below HC1.o.bl.size hb2
  clear hb2 HC1 HOWN lr
  cases q2
  · have HNO : Hd (¬ (pOk (.mk d kid) p ∧ ((psz (.mk d kid) : Nat) : Int) ≤ L)) := fun hh => by
     have h := hq2.2 (HasP.node.1 hh.1.2.1).1
     cases h
    clear hq2
    go_wp2
    go_ret
    exact CtrAns.no HNO.o HC2.o.ct HC2.o.pa
  have HOWN2 : Hd (HasP d) := hq2.1 rfl
  clear hq2
  have lr := HC2.o.bx.range 2 d.cl rfl
  go_wp2_with (with_reducible refine wpq_at ?_; refine ldr rfl rfl rfl Tryz.underlying46 lr rfl ?_; try simp only [Act.put, sA, zA, cA])
  refine (hasExprP_any d w2).mono ?_
  rintro e w4 ⟨q4, rfl, hq4, hb4⟩
  have HC4 : Hd (CS w0 w w4 g (L - 1) (cellsAt p d)) := HC2.o.below HC2.o.bl.size hb4
  clear hb4 HC2 lr
  obtain ⟨L3, hL3⟩ : ∃ L3, L3 = L - 1 := ⟨_, rfl⟩
  rw [← hL3] at HC4
  have HL3 : Hd (L3 = L - 1) := hL3
  have h30 : 0 ≤ L3 := by omega
  have h31 : L3 ≤ 100000 := by omega
  clear hL3
  cases q4
  · have HNE : Hd (¬ hasE d.k) := fun hh => by have h := hq4.2 hh; cases h
    have HEX : Hd (hasE d.k → eOk 120 d.e 1) := fun h => absurd h HNE.o
    have HLX : Hd (L3 = L - (ownP d : Nat)) := (show _ = _ by have h1 := HL3.o; have h2 : ownP d = 1 + 0 := (show 1 + (if d.k = 2 ∨ d.k = 5 ∨ d.k = 6 then esz d.e else 0) = _ by rw [if_neg (show ¬ (d.k = 2 ∨ d.k = 5 ∨ d.k = 6) from HNE.o)]); omega)
    have hX0 := h30
    have hX1 := h31
    clear hq4 HL3 HNE HEXP
    have x29 := HC4.o.bx.2 29 _ rfl
    go_wp2_with fail
    clear x29
    go_loopw [35] (fun i wr => ∃ (k : Nat) (Lr : Int), k ≤ d.n ∧ i = .int .i64 k ∧ 0 ≤ Lr ∧ Lr ≤ 100000 ∧ Hd (Lr = L3 - (sumN k (fun i => psz (kid i)) : Nat)) ∧ Hd (∀ j, j < k → pOk (kid j) (p + 1)) ∧ Hd (CS w0 w wr g Lr (cellsAt p d))) (fun i _ => d.n - (intOf i).toNat)
    case atStart => exact ⟨0, L3, nZ, rfl, hX0, hX1, (show L3 = L3 - ((0 : Nat) : Int) by omega), fun j hj => absurd hj nN, HC4⟩
    clear HC4
    obtain ⟨k, Lr, hk, rfl, hLr0, hLr1, HLR, HOKS, HCr⟩ := hrel
    by_cases hlk : k < d.n
    rotate_left
    · obtain rfl : k = d.n := by omega
      have hlkz : ¬ (d.n : Int) < (d.n : Int) := by omega
      go_wp2
      go_ret
      have h1 := HSZ.o
      have h2 := HLX.o
      have h4 := HLR.o
      exact CtrAns.yes ⟨hpq, HasP.node.2 ⟨HOWN2.o, HEX.o⟩, HOKS.o⟩ (by omega) (by omega) HCr.o.ct HCr.o.pa
    have hlkz : (k : Int) < (d.n : Int) := by omega
    obtain ⟨b, off, eK, _, hbk, hck⟩ := HKR.o.resolve_left (by omega)
    have hcx : wr.rangeAt b (off + k * 28) (kid k).d.cl := fun c u hu => (HCr.o.bl.cell (p := ⟨b, off + k * 28 + c, none⟩) hbk).trans (hck k hlk c u hu)
    have HEK : Hd (d.ka = some ⟨b, off, none⟩) := eK
    clear hck
    have st : (wr.alloc (.cells zNa 46)).there wr.heap.size 0 28 := (OB.new wr zNa 46).there 0 28 (by simp)
    have on : ((kid k).d.ar : Array Value).all (·.oneCell') = true := PN.one (kid k).d
    have HBk : Hd (Bl wr ((wr.alloc (.cells zNa 46)).setCells wr.heap.size 0 (kid k).d.cl)) := below_sets _ nR _ _ _ (bl_a _)
    have HXk : Hd (Box ((wr.alloc (.cells zNa 46)).setCells wr.heap.size 0 (kid k).d.cl) wr.heap.size (kid k).d.cells) := ((OB.new wr zNa 46).put (kid k).d.cells 0 (kid k).d.cells (show 0 + 28 ≤ 28 by omega) rfl).box
    have HC5 : Hd (CS w0 w ((wr.alloc (.cells zNa 46)).setCells wr.heap.size 0 (kid k).d.cl) g Lr (cellsAt p d)) := HCr.o.below HCr.o.bl.size HBk.o
    rw [eK]
    clear eK
    go_upto_region 8 with (first | (with_reducible refine wpq_at ?_; refine wpList_load_mid rfl 46 _ rfl b (off + k * 28) rfl (kid k).d.cl _ hcx Tryz.underlying46 rfl (by kernel_rfl) ?_; try simp only [Act.put, sA, zA, cA]) | (with_reducible refine wpq_at ?_; refine wpList_store_mid rfl 46 _ _ rfl _ _ _ rfl rfl st (by kernel_rfl) on ?_; try simp only [Act.put]))
    generalize ((wr.alloc (.cells zNa 46)).setCells wr.heap.size 0 (kid k).d.cl) = W5 at *
    have HGK : Hd (w.heap.size ≤ wr.heap.size) := HCr.o.pa.size
    generalize hgg : wr.heap.size = gk at *
    clear hcx st on HBk HCr hgg
    refine whd (fun w' => Bl w0 w' ∧ Box w' w.heap.size (cellsAt p d) ∧ Box w' gk (kid k).d.cells) ?_ fun hHeld => ?_
    · exact ⟨Below.drew HC5.o.bl, HC5.o.bx.below bdr, HXk.o.below bdr⟩
    refine tkB 0 39 ?_
    refine tkB 1 40 ?_
    refine tkA 2 41 (v := ?v3) ?y3 ?_
    case y3 => (intro w' hSw; have q1 := hSw.2.1.2 0 _ rfl; have q2 := hSw.2.1.2 1 _ rfl; go_simp; (try with_reducible rfl))
    try simp only [Act.put, sA, zA, cA]
    refine takeq (i := 4) 43 (v := .agg (kid k).d.ar) rfl rfl (by kernel_rfl) (by kernel_rfl) (by kernel_rfl) (fun _ _ _ h => h) (yieldsIf_load_mid (by rfl) 46 _ rfl gk 0 rfl (kid k).d.cl _ (fun w' hw' => hw'.2.2.range 0 _ rfl) Tryz.underlying46 rfl (by kernel_rfl)) hHeld ?_
    try simp only [Act.put, sA, zA, cA]
    refine rdA 3 fun K hK => ?_
    go_simp
    refine (placeBelow_any p 480 _ hp0 hp1).mono ?_
    rintro e z1 ⟨rfl, hb1⟩
    have HCz : Hd (CS w0 w z1 g Lr (cellsAt p d)) := (HC5.o.below HC5.o.bl.size bdr).below (HC5.o.below HC5.o.bl.size bdr).bl.size hb1
    have HXz : Hd (Box z1 gk (kid k).d.cells) := (HXk.o.below bdr).below hb1
    clear hb1
    go_wp2_with fail
    refine hK.out _ _ ?_ fun hHeld => ?_
    · exact ⟨HCz.o.bl, HCz.o.bx, HXz.o⟩
    clear hK K
    refine tkB 5 44 ?_
    refine rdA 6 fun K hK => ?_
    go_simp
    refine (HIH.o k hlk Lr z1 HCz.o.bl HCz.o.ct hLr0 hLr1 hpq).mono ?_
    rintro e w5 ⟨q5, L5, rfl, hq5, hL5, hc5, hp5⟩
    have HC6 : Hd (CS w0 w w5 g L5 (cellsAt p d)) := HCz.o.past hg hgw hp5 hc5
    have HXw : Hd (Box w5 gk (kid k).d.cells) := HXz.o.past hp5 (by have h1 := HGK.o; omega)
    have HS : Hd (sumN (k + 1) (fun i => psz (kid i)) = sumN k (fun i => psz (kid i)) + psz (kid k)) := rfl
    clear hc5 hp5
    cases q5
    · have HNO : Hd (¬ (pOk (.mk d kid) p ∧ ((psz (.mk d kid) : Nat) : Int) ≤ L)) := fun hh => by
       have h1 := hh.1.2.2 k hlk
       have h3 := sumN_mono (f := (fun i => psz (kid i))) (show k + 1 ≤ d.n by omega)
       have h4 := HLR.o
       have h5 := HS.o
       have h6 := hh.2
       have h8 := HLX.o
       have h9 := HSZ.o
       have h7 := hq5.2 ⟨h1, by omega⟩
       cases h7
      clear hq5 hL5
      go_wp2_with fail
      refine hK.out _ _ ?_ fun hHeld => ?_
      · exact ⟨HC6.o.bl, HC6.o.bx, HXw.o⟩
      clear hK K
      refine tkB 7 46 ?_
      refine wpAnyH_done (by kernel_rfl) ?_ _
      clear hHeld HC5 HCz HXk HXz HXw
      go_wp2
      go_ret
      exact CtrAns.no HNO.o HC6.o.ct HC6.o.pa
    obtain ⟨h51, h52⟩ := hq5.1 rfl
    have h53 := hL5 rfl
    have HN5 : Hd (pOk (kid k) (p + 1)) := h51
    have HL5 : Hd (L5 = L3 - (sumN (k + 1) (fun i => psz (kid i)) : Nat)) := (show L5 = _ by have h1 := HS.o; have h2 := HLR.o; omega)
    have hL50 : 0 ≤ L5 := by omega
    have hL51 : L5 ≤ 100000 := by omega
    clear h51 h52 h53 hq5 hL5
    go_wp2_with fail
    refine hK.out _ _ ?_ fun hHeld => ?_
    · exact ⟨HC6.o.bl, HC6.o.bx, HXw.o⟩
    clear hK K
    refine tkB 7 46 ?_
    refine wpAnyH_done (by kernel_rfl) ?_ _
    clear hHeld HC5 HCz HXk HXz HXw
    go_wp2
    go_roundw
    case rel =>
     refine ⟨k + 1, L5, by omega, by go_num, hL50, hL51, HL5, fun j hj => ?_, HC6⟩
     by_cases e : j = k
     · subst e
       exact HN5.o
     exact HOKS.o j (by omega)
    case measure => simp [intOf]; omega
  have HYE : Hd (hasE d.k) := hq4.1 rfl
  clear hq4
  have le := HC4.o.bx.range 19 d.e.d.cl rfl
  go_wp2_with (with_reducible refine wpq_at ?_; refine wpq_stop 42 _ rfl ?_)
  change wpList _ _ _ _ _ _
  refine wpq_load ?hw 42 _ rfl w.heap.size 19 rfl d.e.d.cl _ le Tryz.underlying42 rfl (by kernel_rfl) ?_
  case hw => rfl
  simp only [Act.put, sA, zA, cA]
  go_wp2_with fail
  refine (HEXP.o L3 w4 HC4.o.bl HC4.o.ct h30 h31).mono ?_
  rintro e w6 ⟨q6, L6, rfl, hq6, hL6, hc6, hp6⟩
  have HC6 : Hd (CS w0 w w6 g L6 (cellsAt p d)) := HC4.o.past hg hgw hp6 hc6
  clear hc6 hp6 HC4 HEXP le
  have HOE : Hd (ownP d = 1 + esz d.e) := (show 1 + (if d.k = 2 ∨ d.k = 5 ∨ d.k = 6 then esz d.e else 0) = _ by rw [if_pos (show d.k = 2 ∨ d.k = 5 ∨ d.k = 6 from HYE.o)])
  cases q6
  · have HNO : Hd (¬ (pOk (.mk d kid) p ∧ ((psz (.mk d kid) : Nat) : Int) ≤ L)) := fun hh => by
     have h1 := HSZ.o
     have h0 := HOE.o
     have h2 := hh.2
     have h3 := HL3.o
     have h := hq6.2 ⟨hh.1.2.1.e1 HYE.o, by omega⟩
     cases h
    clear hq6 hL6
    go_wp2
    go_ret
    exact CtrAns.no HNO.o HC6.o.ct HC6.o.pa
  obtain ⟨h61, h62⟩ := hq6.1 rfl
  have h63 := hL6 rfl
  have HEX : Hd (hasE d.k → eOk 120 d.e 1) := fun _ => h61
  have HLX : Hd (L6 = L - (ownP d : Nat)) := (show _ = _ by have h1 := HL3.o; have h2 := HOE.o; omega)
  have hX0 : 0 ≤ L6 := by omega
  have hX1 : L6 ≤ 100000 := by omega
  clear h61 h62 h63 hq6 hL6 HL3 HYE HOE
  have x29 := HC6.o.bx.2 29 _ rfl
  go_wp2_with fail
  clear x29
  go_loopw [35] (fun i wr => ∃ (k : Nat) (Lr : Int), k ≤ d.n ∧ i = .int .i64 k ∧ 0 ≤ Lr ∧ Lr ≤ 100000 ∧ Hd (Lr = L6 - (sumN k (fun i => psz (kid i)) : Nat)) ∧ Hd (∀ j, j < k → pOk (kid j) (p + 1)) ∧ Hd (CS w0 w wr g Lr (cellsAt p d))) (fun i _ => d.n - (intOf i).toNat)
  case atStart => exact ⟨0, L6, nZ, rfl, hX0, hX1, (show L6 = L6 - ((0 : Nat) : Int) by omega), fun j hj => absurd hj nN, HC6⟩
  clear HC6
  obtain ⟨k, Lr, hk, rfl, hLr0, hLr1, HLR, HOKS, HCr⟩ := hrel
  by_cases hlk : k < d.n
  rotate_left
  · obtain rfl : k = d.n := by omega
    have hlkz : ¬ (d.n : Int) < (d.n : Int) := by omega
    go_wp2
    go_ret
    have h1 := HSZ.o
    have h2 := HLX.o
    have h4 := HLR.o
    exact CtrAns.yes ⟨hpq, HasP.node.2 ⟨HOWN2.o, HEX.o⟩, HOKS.o⟩ (by omega) (by omega) HCr.o.ct HCr.o.pa
  have hlkz : (k : Int) < (d.n : Int) := by omega
  obtain ⟨b, off, eK, _, hbk, hck⟩ := HKR.o.resolve_left (by omega)
  have hcx : wr.rangeAt b (off + k * 28) (kid k).d.cl := fun c u hu => (HCr.o.bl.cell (p := ⟨b, off + k * 28 + c, none⟩) hbk).trans (hck k hlk c u hu)
  have HEK : Hd (d.ka = some ⟨b, off, none⟩) := eK
  clear hck
  have st : (wr.alloc (.cells zNa 46)).there wr.heap.size 0 28 := (OB.new wr zNa 46).there 0 28 (by simp)
  have on : ((kid k).d.ar : Array Value).all (·.oneCell') = true := PN.one (kid k).d
  have HBk : Hd (Bl wr ((wr.alloc (.cells zNa 46)).setCells wr.heap.size 0 (kid k).d.cl)) := below_sets _ nR _ _ _ (bl_a _)
  have HXk : Hd (Box ((wr.alloc (.cells zNa 46)).setCells wr.heap.size 0 (kid k).d.cl) wr.heap.size (kid k).d.cells) := ((OB.new wr zNa 46).put (kid k).d.cells 0 (kid k).d.cells (show 0 + 28 ≤ 28 by omega) rfl).box
  have HC5 : Hd (CS w0 w ((wr.alloc (.cells zNa 46)).setCells wr.heap.size 0 (kid k).d.cl) g Lr (cellsAt p d)) := HCr.o.below HCr.o.bl.size HBk.o
  rw [eK]
  clear eK
  go_upto_region 8 with (first | (with_reducible refine wpq_at ?_; refine wpList_load_mid rfl 46 _ rfl b (off + k * 28) rfl (kid k).d.cl _ hcx Tryz.underlying46 rfl (by kernel_rfl) ?_; try simp only [Act.put, sA, zA, cA]) | (with_reducible refine wpq_at ?_; refine wpList_store_mid rfl 46 _ _ rfl _ _ _ rfl rfl st (by kernel_rfl) on ?_; try simp only [Act.put]))
  generalize ((wr.alloc (.cells zNa 46)).setCells wr.heap.size 0 (kid k).d.cl) = W5 at *
  have HGK : Hd (w.heap.size ≤ wr.heap.size) := HCr.o.pa.size
  generalize hgg : wr.heap.size = gk at *
  clear hcx st on HBk HCr hgg
  refine whd (fun w' => Bl w0 w' ∧ Box w' w.heap.size (cellsAt p d) ∧ Box w' gk (kid k).d.cells) ?_ fun hHeld => ?_
  · exact ⟨Below.drew HC5.o.bl, HC5.o.bx.below bdr, HXk.o.below bdr⟩
  refine tkB 0 39 ?_
  refine tkB 1 40 ?_
  refine tkA 2 41 (v := ?v9) ?y9 ?_
  case y9 => (intro w' hSw; have q1 := hSw.2.1.2 0 _ rfl; have q2 := hSw.2.1.2 1 _ rfl; go_simp; (try with_reducible rfl))
  try simp only [Act.put, sA, zA, cA]
  refine takeq (i := 4) 43 (v := .agg (kid k).d.ar) rfl rfl (by kernel_rfl) (by kernel_rfl) (by kernel_rfl) (fun _ _ _ h => h) (yieldsIf_load_mid (by rfl) 46 _ rfl gk 0 rfl (kid k).d.cl _ (fun w' hw' => hw'.2.2.range 0 _ rfl) Tryz.underlying46 rfl (by kernel_rfl)) hHeld ?_
  try simp only [Act.put, sA, zA, cA]
  refine rdA 3 fun K hK => ?_
  go_simp
  refine (placeBelow_any p 480 _ hp0 hp1).mono ?_
  rintro e z1 ⟨rfl, hb1⟩
  have HCz : Hd (CS w0 w z1 g Lr (cellsAt p d)) := (HC5.o.below HC5.o.bl.size bdr).below (HC5.o.below HC5.o.bl.size bdr).bl.size hb1
  have HXz : Hd (Box z1 gk (kid k).d.cells) := (HXk.o.below bdr).below hb1
  clear hb1
  go_wp2_with fail
  refine hK.out _ _ ?_ fun hHeld => ?_
  · exact ⟨HCz.o.bl, HCz.o.bx, HXz.o⟩
  clear hK K
  refine tkB 5 44 ?_
  refine rdA 6 fun K hK => ?_
  go_simp
  refine (HIH.o k hlk Lr z1 HCz.o.bl HCz.o.ct hLr0 hLr1 hpq).mono ?_
  rintro e w5 ⟨q5, L5, rfl, hq5, hL5, hc5, hp5⟩
  have HC6 : Hd (CS w0 w w5 g L5 (cellsAt p d)) := HCz.o.past hg hgw hp5 hc5
  have HXw : Hd (Box w5 gk (kid k).d.cells) := HXz.o.past hp5 (by have h1 := HGK.o; omega)
  have HS : Hd (sumN (k + 1) (fun i => psz (kid i)) = sumN k (fun i => psz (kid i)) + psz (kid k)) := rfl
  clear hc5 hp5
  cases q5
  · have HNO : Hd (¬ (pOk (.mk d kid) p ∧ ((psz (.mk d kid) : Nat) : Int) ≤ L)) := fun hh => by
     have h1 := hh.1.2.2 k hlk
     have h3 := sumN_mono (f := (fun i => psz (kid i))) (show k + 1 ≤ d.n by omega)
     have h4 := HLR.o
     have h5 := HS.o
     have h6 := hh.2
     have h8 := HLX.o
     have h9 := HSZ.o
     have h7 := hq5.2 ⟨h1, by omega⟩
     cases h7
    clear hq5 hL5
    go_wp2_with fail
    refine hK.out _ _ ?_ fun hHeld => ?_
    · exact ⟨HC6.o.bl, HC6.o.bx, HXw.o⟩
    clear hK K
    refine tkB 7 46 ?_
    refine wpAnyH_done (by kernel_rfl) ?_ _
    clear hHeld HC5 HCz HXk HXz HXw
    go_wp2
    go_ret
    exact CtrAns.no HNO.o HC6.o.ct HC6.o.pa
  obtain ⟨h51, h52⟩ := hq5.1 rfl
  have h53 := hL5 rfl
  have HN5 : Hd (pOk (kid k) (p + 1)) := h51
  have HL5 : Hd (L5 = L6 - (sumN (k + 1) (fun i => psz (kid i)) : Nat)) := (show L5 = _ by have h1 := HS.o; have h2 := HLR.o; omega)
  have hL50 : 0 ≤ L5 := by omega
  have hL51 : L5 ≤ 100000 := by omega
  clear h51 h52 h53 hq5 hL5
  go_wp2_with fail
  refine hK.out _ _ ?_ fun hHeld => ?_
  · exact ⟨HC6.o.bl, HC6.o.bx, HXw.o⟩
  clear hK K
  refine tkB 7 46 ?_
  refine wpAnyH_done (by kernel_rfl) ?_ _
  clear hHeld HC5 HCz HXk HXz HXw
  go_wp2
  go_roundw
  case rel =>
   refine ⟨k + 1, L5, by omega, by go_num, hL50, hL51, HL5, fun j hj => ?_, HC6⟩
   by_cases e : j = k
   · subst e
     exact HN5.o
   exact HOKS.o j (by omega)
  case measure => simp [intOf]; omega
end Go.Proofs.YtoloadogihbdeaaGreat
