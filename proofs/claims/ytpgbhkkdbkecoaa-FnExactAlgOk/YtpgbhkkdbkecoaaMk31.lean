/- Texts put together: TreY -/
import Derived.Test.YtpgbhkkdbkecoaaMk30
/- TreY -/
namespace Go.Proofs.Ytpgbhkkdbkecoaa
open Go.RowKit Go.Deep
set_option maxRecDepth 100000

set_option maxHeartbeats 16000000 in
theorem algOk_any (e : AT) : ∀ (p L : Int) (g : Nat) (w0 w : World), e.lies 0 w0 → Below w0.heap.size w0 w → w0.heap.size ≤ g → Ctr w g L → 0 ≤ p → p ≤ 100000 → 0 ≤ L → L ≤ 100000 →
    Calls Try.prog 55 #[.pointer (some ⟨g, 0, none⟩), .agg #[.int .i64 p, .int .i64 240, .int .i64 e.d.k, .slice e.d.pa e.d.pn e.d.pc, .int .i64 e.d.e.d.k, .int .i64 e.d.e.d.op, .slice e.d.e.d.v.a e.d.e.d.v.len e.d.e.d.v.cap, .int .i64 e.d.e.d.t.t.k, .slice e.d.e.d.t.t.a e.d.e.d.t.t.len e.d.e.d.t.t.cap, .int .i64 e.d.e.d.t.t.n, .int .i64 e.d.e.d.t.t.s, .slice e.d.e.d.ka e.d.e.d.n e.d.e.d.kc, .slice e.d.v.a e.d.v.len e.d.v.cap, .slice e.d.ta e.d.tb.length e.d.tc, .slice e.d.ka e.d.n e.d.kc]] w (CtrAns (aOk e p) (asz e) g L w) := by
  induction e with
  | nil => exact fun _ _ _ _ _ h => False.elim h
  | mk d kid ih =>
    intro p L g w0 w hl hw hg hc hp0 hp1 hL0 hL1
    show Calls Try.prog 55 #[.pointer (some ⟨g, 0, none⟩), .agg #[.int .i64 p, .int .i64 240, .int .i64 d.k, .slice d.pa d.pn d.pc, .int .i64 d.e.d.k, .int .i64 d.e.d.op, .slice d.e.d.v.a d.e.d.v.len d.e.d.v.cap, .int .i64 d.e.d.t.t.k, .slice d.e.d.t.t.a d.e.d.t.t.len d.e.d.t.t.cap, .int .i64 d.e.d.t.t.n, .int .i64 d.e.d.t.t.s, .slice d.e.d.ka d.e.d.n d.e.d.kc, .slice d.v.a d.v.len d.v.cap, .slice d.ta d.tb.length d.tc, .slice d.ka d.n d.kc]] w (CtrAns (aOk (.mk d kid) p) (asz (.mk d kid)) g L w)
    have hgw : g < w.heap.size := hc.lt
    have hsz : w0.heap.size ≤ w.heap.size := hw.size
    have HOWN : Hid (∀ W, Below w0.heap.size w0 W → Calls Try.prog 77 #[.agg #[.int .i64 d.k, .slice d.pa d.pn d.pc, .int .i64 d.e.d.k, .int .i64 d.e.d.op, .slice d.e.d.v.a d.e.d.v.len d.e.d.v.cap, .int .i64 d.e.d.t.t.k, .slice d.e.d.t.t.a d.e.d.t.t.len d.e.d.t.t.cap, .int .i64 d.e.d.t.t.n, .int .i64 d.e.d.t.t.s, .slice d.e.d.ka d.e.d.n d.e.d.kc, .slice d.v.a d.v.len d.v.cap, .slice d.ta d.tb.length d.tc, .slice d.ka d.n d.kc]] W (Tells (HasA d) W)) := fun W hb => hasOwnA_any d kid W (AT.lies.upper (Upper.of_below hb) hl)
    obtain ⟨_, _, hpn, he, _, _, _, hn, hR, hk⟩ := hl
    have HEXP : Hid (∀ (L' : Int) (W : World), Below w0.heap.size w0 W → Ctr W g L' → 0 ≤ L' → L' ≤ 100000 → Calls Try.prog 67 #[.pointer (some ⟨g, 0, none⟩), .agg #[.int .i64 1, .int .i64 120, .int .i64 d.e.d.k, .int .i64 d.e.d.op, .slice d.e.d.v.a d.e.d.v.len d.e.d.v.cap, .int .i64 d.e.d.t.t.k, .slice d.e.d.t.t.a d.e.d.t.t.len d.e.d.t.t.cap, .int .i64 d.e.d.t.t.n, .int .i64 d.e.d.t.t.s, .slice d.e.d.ka d.e.d.n d.e.d.kc]] W (CtrAns (eOk 120 d.e 1) (esz d.e) g L' W)) := fun L' W hb hc' h0 h1 => exprOk_any d.e 1 120 L' g w0 W he hb hg hc' (by omega) (by omega) (by omega) h0 h1
    have HIH : Hid (∀ i, i < d.n → ∀ (L' : Int) (W : World), Below w0.heap.size w0 W → Ctr W g L' → 0 ≤ L' → L' ≤ 100000 → p ≤ 240 → Calls Try.prog 55 #[.pointer (some ⟨g, 0, none⟩), .agg #[.int .i64 (p + 1), .int .i64 240, .int .i64 (kid i).d.k, .slice (kid i).d.pa (kid i).d.pn (kid i).d.pc, .int .i64 (kid i).d.e.d.k, .int .i64 (kid i).d.e.d.op, .slice (kid i).d.e.d.v.a (kid i).d.e.d.v.len (kid i).d.e.d.v.cap, .int .i64 (kid i).d.e.d.t.t.k, .slice (kid i).d.e.d.t.t.a (kid i).d.e.d.t.t.len (kid i).d.e.d.t.t.cap, .int .i64 (kid i).d.e.d.t.t.n, .int .i64 (kid i).d.e.d.t.t.s, .slice (kid i).d.e.d.ka (kid i).d.e.d.n (kid i).d.e.d.kc, .slice (kid i).d.v.a (kid i).d.v.len (kid i).d.v.cap, .slice (kid i).d.ta (kid i).d.tb.length (kid i).d.tc, .slice (kid i).d.ka (kid i).d.n (kid i).d.kc]] W (CtrAns (aOk (kid i) (p + 1)) (asz (kid i)) g L' W)) := fun i hi L' W hb hc' h0 h1 h10 => ih i (p + 1) L' g w0 W (hk i hi) hb hg hc' (by omega) (by omega) h0 h1
    have HKR : Hid (KRow 0 w0 13 d.ka d.n (fun i => (kid i).d.cells)) := hR
    have HNB : Hid (d.n ≤ 1048576) := hn
    have HPB : Hid (d.pn ≤ 1048576) := hpn
    have HCS : Hid (CS w0 w (w.alloc (.cells #[.int .i64 p, .int .i64 240, .int .i64 d.k, .slice d.pa d.pn d.pc, .int .i64 d.e.d.k, .int .i64 d.e.d.op, .slice d.e.d.v.a d.e.d.v.len d.e.d.v.cap, .int .i64 d.e.d.t.t.k, .slice d.e.d.t.t.a d.e.d.t.t.len d.e.d.t.t.cap, .int .i64 d.e.d.t.t.n, .int .i64 d.e.d.t.t.s, .slice d.e.d.ka d.e.d.n d.e.d.kc, .slice d.v.a d.v.len d.v.cap, .slice d.ta d.tb.length d.tc, .slice d.ka d.n d.kc] 119)) g L [.int .i64 p, .int .i64 240, .int .i64 d.k, .slice d.pa d.pn d.pc, .int .i64 d.e.d.k, .int .i64 d.e.d.op, .slice d.e.d.v.a d.e.d.v.len d.e.d.v.cap, .int .i64 d.e.d.t.t.k, .slice d.e.d.t.t.a d.e.d.t.t.len d.e.d.t.t.cap, .int .i64 d.e.d.t.t.n, .int .i64 d.e.d.t.t.s, .slice d.e.d.ka d.e.d.n d.e.d.kc, .slice d.v.a d.v.len d.v.cap, .slice d.ta d.tb.length d.tc, .slice d.ka d.n d.kc]) := ⟨Box.new w #[.int .i64 p, .int .i64 240, .int .i64 d.k, .slice d.pa d.pn d.pc, .int .i64 d.e.d.k, .int .i64 d.e.d.op, .slice d.e.d.v.a d.e.d.v.len d.e.d.v.cap, .int .i64 d.e.d.t.t.k, .slice d.e.d.t.t.a d.e.d.t.t.len d.e.d.t.t.cap, .int .i64 d.e.d.t.t.n, .int .i64 d.e.d.t.t.s, .slice d.e.d.ka d.e.d.n d.e.d.kc, .slice d.v.a d.v.len d.v.cap, .slice d.ta d.tb.length d.tc, .slice d.ka d.n d.kc] 119 (0, 0), hc.below (bl_a _), Past.of_below (bl_a _), hw.trans ((bl_a _).mono hsz)⟩
    have AD := admits_any g L p 240 _ HCS.out.ct hL0 hL1
    have HSZ : Hid (asz (.mk d kid) = ownA d + sumN d.n (fun i => asz (kid i))) := rfl
    have HOW : Hid (1 + d.pn ≤ ownA d) := (show _ ≤ _ by unfold ownA; omega)
    clear he hpn hn hR hk ih hw hc
    go_enter Try.func55, Try.ntmps55
    go_wp2_with fail
    refine AD.mono ?_
    rintro e w1 ⟨q1, rfl, hq1', hc1, hp1'⟩
    have HC1 : Hid (CS w0 w w1 g (L - 1) [.int .i64 p, .int .i64 240, .int .i64 d.k, .slice d.pa d.pn d.pc, .int .i64 d.e.d.k, .int .i64 d.e.d.op, .slice d.e.d.v.a d.e.d.v.len d.e.d.v.cap, .int .i64 d.e.d.t.t.k, .slice d.e.d.t.t.a d.e.d.t.t.len d.e.d.t.t.cap, .int .i64 d.e.d.t.t.n, .int .i64 d.e.d.t.t.s, .slice d.e.d.ka d.e.d.n d.e.d.kc, .slice d.v.a d.v.len d.v.cap, .slice d.ta d.tb.length d.tc, .slice d.ka d.n d.kc]) := HCS.out.past hg hgw hp1' hc1
    clear AD hc1 hp1' HCS
    cases q1 with
    | false =>
      have HNO : Hid (¬ (aOk (.mk d kid) p ∧ ((asz (.mk d kid) : Nat) : Int) ≤ L)) := fun hh => by
        have h1 := HSZ.out
        have h0 := HOW.out
        have h2 := hh.2
        have h3 := hh.1.1
        have h4 := hq1'.2 ⟨by omega, h3⟩
        cases h4
      clear hq1'
      go_wp2_with fail
      go_ret
      exact CtrAns.no HNO.out HC1.out.ct HC1.out.pa
    | true =>
      obtain ⟨hLp, hpq⟩ := hq1'.1 rfl
      clear hq1'
      have y2 := HC1.out.bx.2 2 _ rfl
      have y3 := HC1.out.bx.2 3 _ rfl
      have y4 := HC1.out.bx.2 4 _ rfl
      have y5 := HC1.out.bx.2 5 _ rfl
      have y6 := HC1.out.bx.2 6 _ rfl
      have y7 := HC1.out.bx.2 7 _ rfl
      have y8 := HC1.out.bx.2 8 _ rfl
      have y9 := HC1.out.bx.2 9 _ rfl
      have y10 := HC1.out.bx.2 10 _ rfl
      have y11 := HC1.out.bx.2 11 _ rfl
      have y12 := HC1.out.bx.2 12 _ rfl
      have y13 := HC1.out.bx.2 13 _ rfl
      have y14 := HC1.out.bx.2 14 _ rfl
      have OW := HOWN.out w1 HC1.out.bl
      go_wp2_with fail
      refine OW.mono ?_
      rintro e w2 ⟨q2, rfl, hq2, hb2⟩
      have HC2 : Hid (CS w0 w w2 g (L - 1) [.int .i64 p, .int .i64 240, .int .i64 d.k, .slice d.pa d.pn d.pc, .int .i64 d.e.d.k, .int .i64 d.e.d.op, .slice d.e.d.v.a d.e.d.v.len d.e.d.v.cap, .int .i64 d.e.d.t.t.k, .slice d.e.d.t.t.a d.e.d.t.t.len d.e.d.t.t.cap, .int .i64 d.e.d.t.t.n, .int .i64 d.e.d.t.t.s, .slice d.e.d.ka d.e.d.n d.e.d.kc, .slice d.v.a d.v.len d.v.cap, .slice d.ta d.tb.length d.tc, .slice d.ka d.n d.kc]) := HC1.out.below HC1.out.bl.size hb2
      clear OW hb2 HC1 HOWN y2 y3 y4 y5 y6 y7 y8 y9 y10 y11 y12 y13 y14
      cases q2 with
      | false =>
        have HNO : Hid (¬ (aOk (.mk d kid) p ∧ ((asz (.mk d kid) : Nat) : Int) ≤ L)) := fun hh => by
          have h := hq2.2 (HasA.node.1 hh.1.2.1).1
          cases h
        clear hq2
        go_wp2_with fail
        go_ret
        exact CtrAns.no HNO.out HC2.out.ct HC2.out.pa
      | true =>
        have HOWN2 : Hid (HasA d) := hq2.1 rfl
        clear hq2
        have y3 := HC2.out.bx.2 3 _ rfl
        have SP := spares_any g (L - 1) d.pn w2 HC2.out.ct (by omega) (by omega) (by omega) (by have := HPB.out; omega)
        go_wp2_with fail
        refine SP.mono ?_
        rintro e w3 ⟨rfl, hc3, hp3⟩
        have HC3 : Hid (CS w0 w w3 g (L - 1 - (d.pn : Int)) [.int .i64 p, .int .i64 240, .int .i64 d.k, .slice d.pa d.pn d.pc, .int .i64 d.e.d.k, .int .i64 d.e.d.op, .slice d.e.d.v.a d.e.d.v.len d.e.d.v.cap, .int .i64 d.e.d.t.t.k, .slice d.e.d.t.t.a d.e.d.t.t.len d.e.d.t.t.cap, .int .i64 d.e.d.t.t.n, .int .i64 d.e.d.t.t.s, .slice d.e.d.ka d.e.d.n d.e.d.kc, .slice d.v.a d.v.len d.v.cap, .slice d.ta d.tb.length d.tc, .slice d.ka d.n d.kc]) := HC2.out.past hg hgw hp3 hc3
        clear SP hc3 hp3 HC2 y3
        by_cases hs : 0 ≤ L - 1 - (d.pn : Int)
        rotate_left
        · have hsd : decide (0 ≤ L - 1 - (d.pn : Int)) = false := by simp; omega
          have HNO : Hid (¬ (aOk (.mk d kid) p ∧ ((asz (.mk d kid) : Nat) : Int) ≤ L)) := fun hh => by
            have h1 := HSZ.out
            have h0 := HOW.out
            have h2 := hh.2
            omega
          rw [hsd]
          clear hs hsd
          go_wp2_with fail
          go_ret
          exact CtrAns.no HNO.out HC3.out.ct HC3.out.pa
        have hsd : decide (0 ≤ L - 1 - (d.pn : Int)) = true := by simp; omega
        rw [hsd]
        clear hsd
        obtain ⟨L3, hL3⟩ : ∃ L3, L3 = L - 1 - (d.pn : Int) := ⟨_, rfl⟩
        rw [← hL3] at HC3
        have HL3 : Hid (L3 = L - 1 - (d.pn : Int)) := hL3
        have h30 : 0 ≤ L3 := by omega
        have h31 : L3 ≤ 100000 := by omega
        clear hL3 hs
        have y2 := HC3.out.bx.2 2 _ rfl
        have y3 := HC3.out.bx.2 3 _ rfl
        have y4 := HC3.out.bx.2 4 _ rfl
        have y5 := HC3.out.bx.2 5 _ rfl
        have y6 := HC3.out.bx.2 6 _ rfl
        have y7 := HC3.out.bx.2 7 _ rfl
        have y8 := HC3.out.bx.2 8 _ rfl
        have y9 := HC3.out.bx.2 9 _ rfl
        have y10 := HC3.out.bx.2 10 _ rfl
        have y11 := HC3.out.bx.2 11 _ rfl
        have y12 := HC3.out.bx.2 12 _ rfl
        have y13 := HC3.out.bx.2 13 _ rfl
        have y14 := HC3.out.bx.2 14 _ rfl
        go_wp2_with fail
        refine (hasExpr_any d w3).mono ?_
        rintro e w4 ⟨q4, rfl, hq4, hb4⟩
        have HC4 : Hid (CS w0 w w4 g L3 [.int .i64 p, .int .i64 240, .int .i64 d.k, .slice d.pa d.pn d.pc, .int .i64 d.e.d.k, .int .i64 d.e.d.op, .slice d.e.d.v.a d.e.d.v.len d.e.d.v.cap, .int .i64 d.e.d.t.t.k, .slice d.e.d.t.t.a d.e.d.t.t.len d.e.d.t.t.cap, .int .i64 d.e.d.t.t.n, .int .i64 d.e.d.t.t.s, .slice d.e.d.ka d.e.d.n d.e.d.kc, .slice d.v.a d.v.len d.v.cap, .slice d.ta d.tb.length d.tc, .slice d.ka d.n d.kc]) := HC3.out.below HC3.out.bl.size hb4
        clear hb4 HC3 y2 y3 y4 y5 y6 y7 y8 y9 y10 y11 y12 y13 y14
        cases q4 with
        | false =>
          have HNE : Hid (¬ hasE d.k) := fun hh => by have h := hq4.2 hh; cases h
          have HEX : Hid (hasE d.k → eOk 120 d.e 1) := fun h => absurd h HNE.out
          have HLX : Hid (L3 = L - (ownA d : Nat)) := (show _ = _ by have h1 := HL3.out; have h2 : ownA d = 1 + 0 + d.pn := (show 1 + (if d.k = 2 ∨ d.k = 5 ∨ d.k = 6 then esz d.e else 0) + d.pn = _ by rw [if_neg (show ¬ (d.k = 2 ∨ d.k = 5 ∨ d.k = 6) from HNE.out)]); omega)
          have hX0 := h30
          have hX1 := h31
          clear hq4 HL3 HNE HEXP
          go_upto_region 5 with fail
          refine wp_region_held_drew (S := fun w' => Below w0.heap.size w0 w' ∧ Box w' w.heap.size [.int .i64 p, .int .i64 240, .int .i64 d.k, .slice d.pa d.pn d.pc, .int .i64 d.e.d.k, .int .i64 d.e.d.op, .slice d.e.d.v.a d.e.d.v.len d.e.d.v.cap, .int .i64 d.e.d.t.t.k, .slice d.e.d.t.t.a d.e.d.t.t.len d.e.d.t.t.cap, .int .i64 d.e.d.t.t.n, .int .i64 d.e.d.t.t.s, .slice d.e.d.ka d.e.d.n d.e.d.kc, .slice d.v.a d.v.len d.v.cap, .slice d.ta d.tb.length d.tc, .slice d.ka d.n d.kc]) (by kernel_rfl) ?_ (fun hHeld => ?_)
          · exact ⟨Below.drew HC4.out.bl, HC4.out.bx.below (Below.drew (Below.refl _ _))⟩
          refine takeq (i := 0) 38 (v := ?v1) rfl rfl (by kernel_rfl) (by kernel_rfl) (by kernel_rfl) (fun _ _ _ h => h) (Or.inl ⟨by rfl, ?y1⟩) hHeld ?r1
          case y1 => (intro w' hSw; skip; go_simp; (try with_reducible rfl))
          try simp only [Act.put, List.setIfInBounds_toArray, List.set_cons_zero, List.set_cons_succ]
          refine takeq (i := 1) 39 (v := ?v2) rfl rfl (by kernel_rfl) (by kernel_rfl) (by kernel_rfl) (fun _ _ _ h => h) (Or.inl ⟨by rfl, ?y2⟩) hHeld ?r2
          case y2 => (intro w' hSw; skip; go_simp; (try with_reducible rfl))
          try simp only [Act.put, List.setIfInBounds_toArray, List.set_cons_zero, List.set_cons_succ]
          refine takeq (i := 2) 40 (v := ?v3) rfl rfl (by kernel_rfl) (by kernel_rfl) (by kernel_rfl) (fun _ _ _ h => h) (Or.inl ⟨by rfl, ?y3⟩) hHeld ?r3
          case y3 => (intro w' hSw; have q1 := hSw.2.2 0 _ rfl; have q2 := hSw.2.2 1 _ rfl; go_simp; (try with_reducible rfl))
          try simp only [Act.put, List.setIfInBounds_toArray, List.set_cons_zero, List.set_cons_succ]
          refine takeq (i := 4) 42 (v := ?v4) rfl rfl (by kernel_rfl) (by kernel_rfl) (by kernel_rfl) (fun _ _ _ h => h) (Or.inl ⟨by rfl, ?y4⟩) hHeld ?r4
          case y4 => (intro w' hSw; skip; go_simp; (try with_reducible rfl))
          try simp only [Act.put, List.setIfInBounds_toArray, List.set_cons_zero, List.set_cons_succ]
          refine takeq (i := 5) 43 (v := ?v5) rfl rfl (by kernel_rfl) (by kernel_rfl) (by kernel_rfl) (fun _ _ _ h => h) (Or.inl ⟨by rfl, ?y5⟩) hHeld ?r5
          case y5 => (intro w' hSw; skip; go_simp; (try with_reducible rfl))
          try simp only [Act.put, List.setIfInBounds_toArray, List.set_cons_zero, List.set_cons_succ]
          refine takeq (i := 6) 44 (v := ?v6) rfl rfl (by kernel_rfl) (by kernel_rfl) (by kernel_rfl) (fun _ _ _ h => h) (Or.inl ⟨by rfl, ?y6⟩) hHeld ?r6
          case y6 => (intro w' hSw; have q1 := hSw.2.2 14 _ rfl; go_simp; (try with_reducible rfl))
          try simp only [Act.put, List.setIfInBounds_toArray, List.set_cons_zero, List.set_cons_succ]
          refine wpAnyH_ready (rs := [3]) (by kernel_rfl) (by simp) ?_
          refine AllReadyH.cons rfl (fun K hK => ?_) AllReadyH.nil
          go_simp
          refine (placeBelow_any p 240 _ hp0 hp1).mono ?_
          rintro e z1 ⟨rfl, hb1⟩
          have HCz : Hid (CS w0 w z1 g L3 [.int .i64 p, .int .i64 240, .int .i64 d.k, .slice d.pa d.pn d.pc, .int .i64 d.e.d.k, .int .i64 d.e.d.op, .slice d.e.d.v.a d.e.d.v.len d.e.d.v.cap, .int .i64 d.e.d.t.t.k, .slice d.e.d.t.t.a d.e.d.t.t.len d.e.d.t.t.cap, .int .i64 d.e.d.t.t.n, .int .i64 d.e.d.t.t.s, .slice d.e.d.ka d.e.d.n d.e.d.kc, .slice d.v.a d.v.len d.v.cap, .slice d.ta d.tb.length d.tc, .slice d.ka d.n d.kc]) := (HC4.out.below HC4.out.bl.size (Below.drew (Below.refl _ _))).below (HC4.out.below HC4.out.bl.size (Below.drew (Below.refl _ _))).bl.size hb1
          clear hb1
          go_wp2_with fail
          refine hK.out _ _ ?_ (fun hHeld => ?_)
          · exact ⟨HCz.out.bl, HCz.out.bx⟩
          clear hK K
          try simp only [Act.put, List.setIfInBounds_toArray, List.set_cons_zero, List.set_cons_succ]
          refine wpAnyH_ready (rs := [7]) (by kernel_rfl) (by simp) ?_
          refine AllReadyH.cons rfl (fun K hK => ?_) AllReadyH.nil
          go_simp
          refine (algsOk_any d.ka d.n d.kc kid (fun i => aOk (kid i) (p + 1)) (fun i => asz (kid i)) (p + 1) 240 L3 g w0 z1 (RowP.of_krow HKR.out HCz.out.bl hg) HCz.out.bl hg HCz.out.ct HNB.out hX0 hX1 (fun i hi L' W hb hc' h0 h1 => HIH.out i hi L' W hb hc' h0 h1 hpq)).mono ?_
          rintro e w5 ⟨q5, L5, rfl, hq5, hL5, hc5, hp5⟩
          have HC5 : Hid (CS w0 w w5 g L5 [.int .i64 p, .int .i64 240, .int .i64 d.k, .slice d.pa d.pn d.pc, .int .i64 d.e.d.k, .int .i64 d.e.d.op, .slice d.e.d.v.a d.e.d.v.len d.e.d.v.cap, .int .i64 d.e.d.t.t.k, .slice d.e.d.t.t.a d.e.d.t.t.len d.e.d.t.t.cap, .int .i64 d.e.d.t.t.n, .int .i64 d.e.d.t.t.s, .slice d.e.d.ka d.e.d.n d.e.d.kc, .slice d.v.a d.v.len d.v.cap, .slice d.ta d.tb.length d.tc, .slice d.ka d.n d.kc]) := HCz.out.past hg hgw hp5 hc5
          have HE : Hid (q5 = true ↔ aOk (.mk d kid) p ∧ ((asz (.mk d kid) : Nat) : Int) ≤ L) := (show (q5 = true ↔ _) from hq5.trans ⟨fun h => ⟨⟨hpq, HasA.node.2 ⟨HOWN2.out, HEX.out⟩, h.1⟩, by have h1 := HSZ.out; have h2 := HLX.out; have h3 := h.2; omega⟩, fun h => ⟨h.1.2.2, by have h1 := HSZ.out; have h2 := HLX.out; have h3 := h.2; omega⟩⟩)
          have HLL : Hid (q5 = true → L5 = L - (asz (.mk d kid) : Nat)) := (show (q5 = true → _) from fun h => by have h0 := hL5 h; have h1 := HSZ.out; have h2 := HLX.out; omega)
          clear hq5 hL5 hc5 hp5
          go_wp2_with fail
          refine hK.out _ _ ?_ (fun hHeld => ?_)
          · exact ⟨HC5.out.bl, HC5.out.bx⟩
          clear hK K
          try simp only [Act.put, List.setIfInBounds_toArray, List.set_cons_zero, List.set_cons_succ]
          refine takeq (i := 8) 4 (v := ?v7) rfl rfl (by kernel_rfl) (by kernel_rfl) (by kernel_rfl) (fun _ _ _ h => h) (Or.inl ⟨by rfl, ?y7⟩) hHeld ?r7
          case y7 => (intro w' hSw; skip; go_simp; (try with_reducible rfl))
          try simp only [Act.put, List.setIfInBounds_toArray, List.set_cons_zero, List.set_cons_succ]
          refine wpAnyH_done (by kernel_rfl) ?_ _
          clear hHeld HCz
          go_wp2_with fail
          go_ret
          exact ⟨q5, L5, rfl, HE.out, HLL.out, HC5.out.ct, HC5.out.pa⟩
        | true =>
          have HYE : Hid (hasE d.k) := hq4.1 rfl
          clear hq4
          have y4 := HC4.out.bx.2 4 _ rfl
          have y5 := HC4.out.bx.2 5 _ rfl
          have y6 := HC4.out.bx.2 6 _ rfl
          have y7 := HC4.out.bx.2 7 _ rfl
          have y8 := HC4.out.bx.2 8 _ rfl
          have y9 := HC4.out.bx.2 9 _ rfl
          have y10 := HC4.out.bx.2 10 _ rfl
          have y11 := HC4.out.bx.2 11 _ rfl
          go_wp2_with fail
          refine (HEXP.out L3 w4 HC4.out.bl HC4.out.ct h30 h31).mono ?_
          rintro e w6 ⟨q6, L6, rfl, hq6, hL6, hc6, hp6⟩
          have HC6 : Hid (CS w0 w w6 g L6 [.int .i64 p, .int .i64 240, .int .i64 d.k, .slice d.pa d.pn d.pc, .int .i64 d.e.d.k, .int .i64 d.e.d.op, .slice d.e.d.v.a d.e.d.v.len d.e.d.v.cap, .int .i64 d.e.d.t.t.k, .slice d.e.d.t.t.a d.e.d.t.t.len d.e.d.t.t.cap, .int .i64 d.e.d.t.t.n, .int .i64 d.e.d.t.t.s, .slice d.e.d.ka d.e.d.n d.e.d.kc, .slice d.v.a d.v.len d.v.cap, .slice d.ta d.tb.length d.tc, .slice d.ka d.n d.kc]) := HC4.out.past hg hgw hp6 hc6
          clear hc6 hp6 HC4 HEXP y4 y5 y6 y7 y8 y9 y10 y11
          have HOE : Hid (ownA d = 1 + esz d.e + d.pn) := (show 1 + (if d.k = 2 ∨ d.k = 5 ∨ d.k = 6 then esz d.e else 0) + d.pn = _ by rw [if_pos (show d.k = 2 ∨ d.k = 5 ∨ d.k = 6 from HYE.out)])
          cases q6 with
          | false =>
            have HNO : Hid (¬ (aOk (.mk d kid) p ∧ ((asz (.mk d kid) : Nat) : Int) ≤ L)) := fun hh => by
              have h1 := HSZ.out
              have h0 := HOE.out
              have h2 := hh.2
              have h3 := HL3.out
              have h := hq6.2 ⟨hh.1.2.1.e1 HYE.out, by omega⟩
              cases h
            clear hq6 hL6
            go_wp2_with fail
            go_ret
            exact CtrAns.no HNO.out HC6.out.ct HC6.out.pa
          | true =>
            obtain ⟨h61, h62⟩ := hq6.1 rfl
            have h63 := hL6 rfl
            have HEX : Hid (hasE d.k → eOk 120 d.e 1) := fun _ => h61
            have HLX : Hid (L6 = L - (ownA d : Nat)) := (show _ = _ by have h1 := HL3.out; have h2 := HOE.out; omega)
            have hX0 : 0 ≤ L6 := by omega
            have hX1 : L6 ≤ 100000 := by omega
            clear h61 h62 h63 hq6 hL6 HL3 HYE HOE
            go_upto_region 5 with fail
            refine wp_region_held_drew (S := fun w' => Below w0.heap.size w0 w' ∧ Box w' w.heap.size [.int .i64 p, .int .i64 240, .int .i64 d.k, .slice d.pa d.pn d.pc, .int .i64 d.e.d.k, .int .i64 d.e.d.op, .slice d.e.d.v.a d.e.d.v.len d.e.d.v.cap, .int .i64 d.e.d.t.t.k, .slice d.e.d.t.t.a d.e.d.t.t.len d.e.d.t.t.cap, .int .i64 d.e.d.t.t.n, .int .i64 d.e.d.t.t.s, .slice d.e.d.ka d.e.d.n d.e.d.kc, .slice d.v.a d.v.len d.v.cap, .slice d.ta d.tb.length d.tc, .slice d.ka d.n d.kc]) (by kernel_rfl) ?_ (fun hHeld => ?_)
            · exact ⟨Below.drew HC6.out.bl, HC6.out.bx.below (Below.drew (Below.refl _ _))⟩
            refine takeq (i := 0) 38 (v := ?v8) rfl rfl (by kernel_rfl) (by kernel_rfl) (by kernel_rfl) (fun _ _ _ h => h) (Or.inl ⟨by rfl, ?y8⟩) hHeld ?r8
            case y8 => (intro w' hSw; skip; go_simp; (try with_reducible rfl))
            try simp only [Act.put, List.setIfInBounds_toArray, List.set_cons_zero, List.set_cons_succ]
            refine takeq (i := 1) 39 (v := ?v9) rfl rfl (by kernel_rfl) (by kernel_rfl) (by kernel_rfl) (fun _ _ _ h => h) (Or.inl ⟨by rfl, ?y9⟩) hHeld ?r9
            case y9 => (intro w' hSw; skip; go_simp; (try with_reducible rfl))
            try simp only [Act.put, List.setIfInBounds_toArray, List.set_cons_zero, List.set_cons_succ]
            refine takeq (i := 2) 40 (v := ?v10) rfl rfl (by kernel_rfl) (by kernel_rfl) (by kernel_rfl) (fun _ _ _ h => h) (Or.inl ⟨by rfl, ?y10⟩) hHeld ?r10
            case y10 => (intro w' hSw; have q1 := hSw.2.2 0 _ rfl; have q2 := hSw.2.2 1 _ rfl; go_simp; (try with_reducible rfl))
            try simp only [Act.put, List.setIfInBounds_toArray, List.set_cons_zero, List.set_cons_succ]
            refine takeq (i := 4) 42 (v := ?v11) rfl rfl (by kernel_rfl) (by kernel_rfl) (by kernel_rfl) (fun _ _ _ h => h) (Or.inl ⟨by rfl, ?y11⟩) hHeld ?r11
            case y11 => (intro w' hSw; skip; go_simp; (try with_reducible rfl))
            try simp only [Act.put, List.setIfInBounds_toArray, List.set_cons_zero, List.set_cons_succ]
            refine takeq (i := 5) 43 (v := ?v12) rfl rfl (by kernel_rfl) (by kernel_rfl) (by kernel_rfl) (fun _ _ _ h => h) (Or.inl ⟨by rfl, ?y12⟩) hHeld ?r12
            case y12 => (intro w' hSw; skip; go_simp; (try with_reducible rfl))
            try simp only [Act.put, List.setIfInBounds_toArray, List.set_cons_zero, List.set_cons_succ]
            refine takeq (i := 6) 44 (v := ?v13) rfl rfl (by kernel_rfl) (by kernel_rfl) (by kernel_rfl) (fun _ _ _ h => h) (Or.inl ⟨by rfl, ?y13⟩) hHeld ?r13
            case y13 => (intro w' hSw; have q1 := hSw.2.2 14 _ rfl; go_simp; (try with_reducible rfl))
            try simp only [Act.put, List.setIfInBounds_toArray, List.set_cons_zero, List.set_cons_succ]
            refine wpAnyH_ready (rs := [3]) (by kernel_rfl) (by simp) ?_
            refine AllReadyH.cons rfl (fun K hK => ?_) AllReadyH.nil
            go_simp
            refine (placeBelow_any p 240 _ hp0 hp1).mono ?_
            rintro e z1 ⟨rfl, hb1⟩
            have HCz : Hid (CS w0 w z1 g L6 [.int .i64 p, .int .i64 240, .int .i64 d.k, .slice d.pa d.pn d.pc, .int .i64 d.e.d.k, .int .i64 d.e.d.op, .slice d.e.d.v.a d.e.d.v.len d.e.d.v.cap, .int .i64 d.e.d.t.t.k, .slice d.e.d.t.t.a d.e.d.t.t.len d.e.d.t.t.cap, .int .i64 d.e.d.t.t.n, .int .i64 d.e.d.t.t.s, .slice d.e.d.ka d.e.d.n d.e.d.kc, .slice d.v.a d.v.len d.v.cap, .slice d.ta d.tb.length d.tc, .slice d.ka d.n d.kc]) := (HC6.out.below HC6.out.bl.size (Below.drew (Below.refl _ _))).below (HC6.out.below HC6.out.bl.size (Below.drew (Below.refl _ _))).bl.size hb1
            clear hb1
            go_wp2_with fail
            refine hK.out _ _ ?_ (fun hHeld => ?_)
            · exact ⟨HCz.out.bl, HCz.out.bx⟩
            clear hK K
            try simp only [Act.put, List.setIfInBounds_toArray, List.set_cons_zero, List.set_cons_succ]
            refine wpAnyH_ready (rs := [7]) (by kernel_rfl) (by simp) ?_
            refine AllReadyH.cons rfl (fun K hK => ?_) AllReadyH.nil
            go_simp
            refine (algsOk_any d.ka d.n d.kc kid (fun i => aOk (kid i) (p + 1)) (fun i => asz (kid i)) (p + 1) 240 L6 g w0 z1 (RowP.of_krow HKR.out HCz.out.bl hg) HCz.out.bl hg HCz.out.ct HNB.out hX0 hX1 (fun i hi L' W hb hc' h0 h1 => HIH.out i hi L' W hb hc' h0 h1 hpq)).mono ?_
            rintro e w5 ⟨q5, L5, rfl, hq5, hL5, hc5, hp5⟩
            have HC5 : Hid (CS w0 w w5 g L5 [.int .i64 p, .int .i64 240, .int .i64 d.k, .slice d.pa d.pn d.pc, .int .i64 d.e.d.k, .int .i64 d.e.d.op, .slice d.e.d.v.a d.e.d.v.len d.e.d.v.cap, .int .i64 d.e.d.t.t.k, .slice d.e.d.t.t.a d.e.d.t.t.len d.e.d.t.t.cap, .int .i64 d.e.d.t.t.n, .int .i64 d.e.d.t.t.s, .slice d.e.d.ka d.e.d.n d.e.d.kc, .slice d.v.a d.v.len d.v.cap, .slice d.ta d.tb.length d.tc, .slice d.ka d.n d.kc]) := HCz.out.past hg hgw hp5 hc5
            have HE : Hid (q5 = true ↔ aOk (.mk d kid) p ∧ ((asz (.mk d kid) : Nat) : Int) ≤ L) := (show (q5 = true ↔ _) from hq5.trans ⟨fun h => ⟨⟨hpq, HasA.node.2 ⟨HOWN2.out, HEX.out⟩, h.1⟩, by have h1 := HSZ.out; have h2 := HLX.out; have h3 := h.2; omega⟩, fun h => ⟨h.1.2.2, by have h1 := HSZ.out; have h2 := HLX.out; have h3 := h.2; omega⟩⟩)
            have HLL : Hid (q5 = true → L5 = L - (asz (.mk d kid) : Nat)) := (show (q5 = true → _) from fun h => by have h0 := hL5 h; have h1 := HSZ.out; have h2 := HLX.out; omega)
            clear hq5 hL5 hc5 hp5
            go_wp2_with fail
            refine hK.out _ _ ?_ (fun hHeld => ?_)
            · exact ⟨HC5.out.bl, HC5.out.bx⟩
            clear hK K
            try simp only [Act.put, List.setIfInBounds_toArray, List.set_cons_zero, List.set_cons_succ]
            refine takeq (i := 8) 4 (v := ?v14) rfl rfl (by kernel_rfl) (by kernel_rfl) (by kernel_rfl) (fun _ _ _ h => h) (Or.inl ⟨by rfl, ?y14⟩) hHeld ?r14
            case y14 => (intro w' hSw; skip; go_simp; (try with_reducible rfl))
            try simp only [Act.put, List.setIfInBounds_toArray, List.set_cons_zero, List.set_cons_succ]
            refine wpAnyH_done (by kernel_rfl) ?_ _
            clear hHeld HCz
            go_wp2_with fail
            go_ret
            exact ⟨q5, L5, rfl, HE.out, HLL.out, HC5.out.ct, HC5.out.pa⟩
end Go.Proofs.Ytpgbhkkdbkecoaa
