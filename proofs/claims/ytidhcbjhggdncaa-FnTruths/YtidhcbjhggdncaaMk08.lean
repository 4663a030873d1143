/- Texts put together: TreR TreT TreU TreZ TrvA -/
import Derived.Test.YtidhcbjhggdncaaMk07
/- TreR -/
namespace Go.Proofs.Ytidhcbjhggdncaa
open Go.RowKit Go.Deep
set_option maxRecDepth 100000

set_option maxHeartbeats 16000000 in
theorem exprOk_any (e : ET) : ∀ (p q L : Int) (g : Nat) (w0 w : World), e.lies 0 w0 → Below w0.heap.size w0 w → w0.heap.size ≤ g → Ctr w g L → 0 ≤ p → p ≤ 100000 → q ≤ 1000 → 0 ≤ L → L ≤ 100000 →
    Calls Try.prog 22 #[.pointer (some ⟨g, 0, none⟩), .agg #[.int .i64 p, .int .i64 q, .int .i64 e.d.k, .int .i64 e.d.op, .slice e.d.v.a e.d.v.len e.d.v.cap, .int .i64 e.d.t.t.k, .slice e.d.t.t.a e.d.t.t.len e.d.t.t.cap, .int .i64 e.d.t.t.n, .int .i64 e.d.t.t.s, .slice e.d.ka e.d.n e.d.kc]] w (CtrAns (eOk q e p) (esz e) g L w) := by
  induction e with
  | nil => exact fun _ _ _ _ _ _ h => False.elim h
  | mk d kid ih =>
    intro p q L g w0 w hl hw hg hc hp0 hp1 hq1 hL0 hL1
    show Calls Try.prog 22 #[.pointer (some ⟨g, 0, none⟩), .agg #[.int .i64 p, .int .i64 q, .int .i64 d.k, .int .i64 d.op, .slice d.v.a d.v.len d.v.cap, .int .i64 d.t.t.k, .slice d.t.t.a d.t.t.len d.t.t.cap, .int .i64 d.t.t.n, .int .i64 d.t.t.s, .slice d.ka d.n d.kc]] w (CtrAns (eOk q (.mk d kid) p) (esz (.mk d kid)) g L w)
    obtain ⟨hv, ht, hf, hn, hR, hk⟩ := hl
    have hgw : g < w.heap.size := hc.lt
    have hsz : w0.heap.size ≤ w.heap.size := hw.size
    have HOWN : Hid (∀ W, Below w0.heap.size w0 W → Calls Try.prog 46 #[.agg #[.int .i64 d.k, .int .i64 d.op, .slice d.v.a d.v.len d.v.cap, .int .i64 d.t.t.k, .slice d.t.t.a d.t.t.len d.t.t.cap, .int .i64 d.t.t.n, .int .i64 d.t.t.s, .slice d.ka d.n d.kc]] W (Tells (nodeOk d) W)) := fun W hb => hasOwnE_any d W (hv.upper (Upper.of_below hb)) (ht.upper (Upper.of_below hb)) hf hn
    have HIH : Hid (∀ i, i < d.n → ∀ (L' : Int) (W : World), Below w0.heap.size w0 W → Ctr W g L' → 0 ≤ L' → L' ≤ 100000 → p ≤ q → Calls Try.prog 22 #[.pointer (some ⟨g, 0, none⟩), .agg #[.int .i64 (p + 1), .int .i64 q, .int .i64 (kid i).d.k, .int .i64 (kid i).d.op, .slice (kid i).d.v.a (kid i).d.v.len (kid i).d.v.cap, .int .i64 (kid i).d.t.t.k, .slice (kid i).d.t.t.a (kid i).d.t.t.len (kid i).d.t.t.cap, .int .i64 (kid i).d.t.t.n, .int .i64 (kid i).d.t.t.s, .slice (kid i).d.ka (kid i).d.n (kid i).d.kc]] W (CtrAns (eOk q (kid i) (p + 1)) (esz (kid i)) g L' W)) := fun i hi L' W hb hc' h0 h1 h10 => ih i (p + 1) q L' g w0 W (hk i hi) hb hg hc' (by omega) (by omega) hq1 h0 h1
    have HKR : Hid (KRow 0 w0 8 d.ka d.n (fun i => (kid i).d.cells)) := hR
    have HCS : Hid (CS w0 w (w.alloc (.cells #[.int .i64 p, .int .i64 q, .int .i64 d.k, .int .i64 d.op, .slice d.v.a d.v.len d.v.cap, .int .i64 d.t.t.k, .slice d.t.t.a d.t.t.len d.t.t.cap, .int .i64 d.t.t.n, .int .i64 d.t.t.s, .slice d.ka d.n d.kc] 64)) g L [.int .i64 p, .int .i64 q, .int .i64 d.k, .int .i64 d.op, .slice d.v.a d.v.len d.v.cap, .int .i64 d.t.t.k, .slice d.t.t.a d.t.t.len d.t.t.cap, .int .i64 d.t.t.n, .int .i64 d.t.t.s, .slice d.ka d.n d.kc]) := ⟨Box.new w #[.int .i64 p, .int .i64 q, .int .i64 d.k, .int .i64 d.op, .slice d.v.a d.v.len d.v.cap, .int .i64 d.t.t.k, .slice d.t.t.a d.t.t.len d.t.t.cap, .int .i64 d.t.t.n, .int .i64 d.t.t.s, .slice d.ka d.n d.kc] 64 (0, 0), hc.below (bl_a _), Past.of_below (bl_a _), hw.trans ((bl_a _).mono hsz)⟩
    have AD := admits_any g L p q _ HCS.out.ct hL0 hL1
    have HSZ : Hid (esz (.mk d kid) = 1 + sumN d.n (fun i => esz (kid i))) := rfl
    clear hv ht hf hR hk ih hw hc
    go_enter Try.func22, Try.ntmps22
    go_wp2_with fail
    refine AD.mono ?_
    rintro e w1 ⟨q1, rfl, hq1', hc1, hp1'⟩
    have HC1 : Hid (CS w0 w w1 g (L - 1) [.int .i64 p, .int .i64 q, .int .i64 d.k, .int .i64 d.op, .slice d.v.a d.v.len d.v.cap, .int .i64 d.t.t.k, .slice d.t.t.a d.t.t.len d.t.t.cap, .int .i64 d.t.t.n, .int .i64 d.t.t.s, .slice d.ka d.n d.kc]) := HCS.out.past hg hgw hp1' hc1
    clear AD hc1 hp1' HCS
    cases q1 with
    | false =>
      have HNO : Hid (¬ (eOk q (.mk d kid) p ∧ ((esz (.mk d kid) : Nat) : Int) ≤ L)) := fun hh => by
        have h1 := HSZ.out
        have h2 := hh.2
        have h3 := hh.1.1
        have h4 := hq1'.2 ⟨by omega, h3⟩
        cases h4
      clear hq1'
      go_wp2_with fail
      go_ret
      exact CtrAns.no HNO.out HC1.out.ct HC1.out.pa
    | true =>
      obtain ⟨hLp, hpq⟩ := hq1'.1 rfl
      clear hq1'
      have y2 := HC1.out.bx.2 2 _ rfl
      have y3 := HC1.out.bx.2 3 _ rfl
      have y4 := HC1.out.bx.2 4 _ rfl
      have y5 := HC1.out.bx.2 5 _ rfl
      have y6 := HC1.out.bx.2 6 _ rfl
      have y7 := HC1.out.bx.2 7 _ rfl
      have y8 := HC1.out.bx.2 8 _ rfl
      have y9 := HC1.out.bx.2 9 _ rfl
      have OW := HOWN.out w1 HC1.out.bl
      go_wp2_with fail
      refine OW.mono ?_
      rintro e w2 ⟨q2, rfl, hq2, hb2⟩
      have HC2 : Hid (CS w0 w w2 g (L - 1) [.int .i64 p, .int .i64 q, .int .i64 d.k, .int .i64 d.op, .slice d.v.a d.v.len d.v.cap, .int .i64 d.t.t.k, .slice d.t.t.a d.t.t.len d.t.t.cap, .int .i64 d.t.t.n, .int .i64 d.t.t.s, .slice d.ka d.n d.kc]) := HC1.out.below HC1.out.bl.size hb2
      clear OW hb2 HC1 HOWN y2 y3 y4 y5 y6 y7 y8 y9
      cases q2 with
      | false =>
        have HNO : Hid (¬ nodeOk d) := fun hh => by have h := hq2.2 hh; cases h
        clear hq2
        go_wp2_with fail
        go_ret
        exact CtrAns.no (eOk_no HNO.out) HC2.out.ct HC2.out.pa
      | true =>
        have HNODE : Hid (nodeOk d) := hq2.1 rfl
        clear hq2
        have x9 : w2.cell? ⟨w.heap.size, 9, none⟩ = some (.slice d.ka d.n d.kc) := HC2.out.bx.2 9 _ rfl
        obtain ⟨n, hnn⟩ : ∃ n, n = d.n := ⟨_, rfl⟩
        have HNN : Hid (n = d.n) := hnn
        rw [← hnn] at x9
        have hn20 : n ≤ 4 := (show n ≤ 4 by have h := HNODE.out.1; unfold kOk at h; omega)
        by_cases hn1 : n = 0
        · have HN0 : Hid (n = 0) := hn1
          rw [hn1] at x9
          clear hn1 hnn
          go_wp2_with fail
          clear x9
          go_loopw [22] (fun i wr => i = .int .i64 0 ∧ Hid (CS w0 w wr g (L - 1) [.int .i64 p, .int .i64 q, .int .i64 d.k, .int .i64 d.op, .slice d.v.a d.v.len d.v.cap, .int .i64 d.t.t.k, .slice d.t.t.a d.t.t.len d.t.t.cap, .int .i64 d.t.t.n, .int .i64 d.t.t.s, .slice d.ka d.n d.kc])) (fun _ _ => 0)
          case atStart => exact ⟨rfl, HC2⟩
          case round =>
            obtain ⟨rfl, HCr⟩ := hrel
            go_wp2_with fail
            go_ret
            have h4 := HSZ.out
            rw [← HNN.out, HN0.out] at h4
            have h5 : sumN 0 (fun i => esz (kid i)) = 0 := rfl
            exact CtrAns.yes ⟨hpq, HNODE.out, fun i hi => by rw [← HNN.out, HN0.out] at hi; exact absurd hi (Nat.not_lt_zero _)⟩ (by omega) (by omega) HCr.out.ct HCr.out.pa
        obtain ⟨b, off, eK, _, hbk, hck⟩ := HKR.out.resolve_left (by omega)
        have HCK : Hid (∀ i, i < d.n → ∀ c u, ((kid i).d.cells)[c]? = some u → w0.cell? ⟨b, off + i * 8 + c, none⟩ = some u) := hck
        have hbk' : b < w0.heap.size := hbk
        rw [eK] at x9
        clear eK hck hnn hbk HKR
        go_wp2_with fail
        clear x9
        go_loopw [22] (fun i wr => ∃ (k : Nat) (Lr : Int), k ≤ n ∧ i = .int .i64 k ∧ 0 ≤ Lr ∧ Lr ≤ 100000 ∧ Hid (Lr = L - 1 - (sumN k (fun i => esz (kid i)) : Nat)) ∧ Hid (∀ j, j < k → eOk q (kid j) (p + 1)) ∧ Hid (CS w0 w wr g Lr [.int .i64 p, .int .i64 q, .int .i64 d.k, .int .i64 d.op, .slice d.v.a d.v.len d.v.cap, .int .i64 d.t.t.k, .slice d.t.t.a d.t.t.len d.t.t.cap, .int .i64 d.t.t.n, .int .i64 d.t.t.s, .slice d.ka d.n d.kc])) (fun i _ => n - (intOf i).toNat)
        case atStart => exact ⟨0, L - 1, Nat.zero_le _, rfl, by omega, by omega, (show L - 1 = L - 1 - ((0 : Nat) : Int) by omega), fun j hj => absurd hj (Nat.not_lt_zero _), HC2⟩
        case round =>
          clear HC2
          obtain ⟨k, Lr, hk, rfl, hLr0, hLr1, HLR, HOKS, HCr⟩ := hrel
          by_cases hlk : k < n
          rotate_left
          · obtain rfl : k = n := by omega
            have hlkz : ¬ (k : Int) < (k : Int) := by omega
            go_wp2_with fail
            go_ret
            have h2 := HSZ.out
            have h4 := HLR.out
            rw [HNN.out] at h4
            exact CtrAns.yes ⟨hpq, HNODE.out, fun i hi => HOKS.out i (by rw [HNN.out]; exact hi)⟩ (by omega) (by omega) HCr.out.ct HCr.out.pa
          have hlkz : (k : Int) < (n : Int) := by omega
          have hcx : wr.rangeAt b (off + k * 8) [.int .i64 (kid k).d.k, .int .i64 (kid k).d.op, .slice (kid k).d.v.a (kid k).d.v.len (kid k).d.v.cap, .int .i64 (kid k).d.t.t.k, .slice (kid k).d.t.t.a (kid k).d.t.t.len (kid k).d.t.t.cap, .int .i64 (kid k).d.t.t.n, .int .i64 (kid k).d.t.t.s, .slice (kid k).d.ka (kid k).d.n (kid k).d.kc] := fun c u hu => (HCr.out.bl.cell (p := ⟨b, off + k * 8 + c, none⟩) hbk').trans (HCK.out k (by rw [← HNN.out]; exact hlk) c u hu)
          go_upto_region 6 with (with_reducible refine wpl_at ?_; refine wpList_load_mid rfl 29 _ rfl _ _ rfl [.int .i64 (kid k).d.k, .int .i64 (kid k).d.op, .slice (kid k).d.v.a (kid k).d.v.len (kid k).d.v.cap, .int .i64 (kid k).d.t.t.k, .slice (kid k).d.t.t.a (kid k).d.t.t.len (kid k).d.t.t.cap, .int .i64 (kid k).d.t.t.n, .int .i64 (kid k).d.t.t.s, .slice (kid k).d.ka (kid k).d.n (kid k).d.kc] _ hcx Try.underlying29 rfl (by kernel_rfl) ?_; try simp only [Act.put, List.setIfInBounds_toArray, List.set_cons_zero, List.set_cons_succ])
          clear hcx
          have HCw : Hid (CS w0 w (wr.alloc (.cells #[.int .i64 (kid k).d.k, .int .i64 (kid k).d.op, .slice (kid k).d.v.a (kid k).d.v.len (kid k).d.v.cap, .int .i64 (kid k).d.t.t.k, .slice (kid k).d.t.t.a (kid k).d.t.t.len (kid k).d.t.t.cap, .int .i64 (kid k).d.t.t.n, .int .i64 (kid k).d.t.t.s, .slice (kid k).d.ka (kid k).d.n (kid k).d.kc] 29)).drew g Lr [.int .i64 p, .int .i64 q, .int .i64 d.k, .int .i64 d.op, .slice d.v.a d.v.len d.v.cap, .int .i64 d.t.t.k, .slice d.t.t.a d.t.t.len d.t.t.cap, .int .i64 d.t.t.n, .int .i64 d.t.t.s, .slice d.ka d.n d.kc]) := (HCr.out.below HCr.out.bl.size (bl_a _)).below (Nat.le_trans HCr.out.bl.size (bl_a _).size) (Below.drew (Below.refl _ _))
          have HBk : Hid (Box (wr.alloc (.cells #[.int .i64 (kid k).d.k, .int .i64 (kid k).d.op, .slice (kid k).d.v.a (kid k).d.v.len (kid k).d.v.cap, .int .i64 (kid k).d.t.t.k, .slice (kid k).d.t.t.a (kid k).d.t.t.len (kid k).d.t.t.cap, .int .i64 (kid k).d.t.t.n, .int .i64 (kid k).d.t.t.s, .slice (kid k).d.ka (kid k).d.n (kid k).d.kc] 29)).drew wr.heap.size [.int .i64 (kid k).d.k, .int .i64 (kid k).d.op, .slice (kid k).d.v.a (kid k).d.v.len (kid k).d.v.cap, .int .i64 (kid k).d.t.t.k, .slice (kid k).d.t.t.a (kid k).d.t.t.len (kid k).d.t.t.cap, .int .i64 (kid k).d.t.t.n, .int .i64 (kid k).d.t.t.s, .slice (kid k).d.ka (kid k).d.n (kid k).d.kc]) := (Box.new wr #[.int .i64 (kid k).d.k, .int .i64 (kid k).d.op, .slice (kid k).d.v.a (kid k).d.v.len (kid k).d.v.cap, .int .i64 (kid k).d.t.t.k, .slice (kid k).d.t.t.a (kid k).d.t.t.len (kid k).d.t.t.cap, .int .i64 (kid k).d.t.t.n, .int .i64 (kid k).d.t.t.s, .slice (kid k).d.ka (kid k).d.n (kid k).d.kc] 29 (0, 0)).below (Below.drew (Below.refl _ _))
          have hwne : wr.heap.size ≠ g := by have := HCr.out.pa.size; omega
          refine wp_region_held_drew (S := fun w' => Below w0.heap.size w0 w' ∧ Box w' w.heap.size [.int .i64 p, .int .i64 q, .int .i64 d.k, .int .i64 d.op, .slice d.v.a d.v.len d.v.cap, .int .i64 d.t.t.k, .slice d.t.t.a d.t.t.len d.t.t.cap, .int .i64 d.t.t.n, .int .i64 d.t.t.s, .slice d.ka d.n d.kc] ∧ Box w' wr.heap.size [.int .i64 (kid k).d.k, .int .i64 (kid k).d.op, .slice (kid k).d.v.a (kid k).d.v.len (kid k).d.v.cap, .int .i64 (kid k).d.t.t.k, .slice (kid k).d.t.t.a (kid k).d.t.t.len (kid k).d.t.t.cap, .int .i64 (kid k).d.t.t.n, .int .i64 (kid k).d.t.t.s, .slice (kid k).d.ka (kid k).d.n (kid k).d.kc]) (by kernel_rfl) ?_ (fun hHeld => ?_)
          · exact ⟨HCw.out.bl, HCw.out.bx, HBk.out⟩
          refine takeq (i := 0) 26 (v := ?v1) rfl rfl (by kernel_rfl) (by kernel_rfl) (by kernel_rfl) (fun _ _ _ h => h) (Or.inl ⟨by rfl, ?y1⟩) hHeld ?r1
          case y1 => (intro w' hSw; skip; go_simp; (try with_reducible rfl))
          try simp only [Act.put, List.setIfInBounds_toArray, List.set_cons_zero, List.set_cons_succ]
          refine takeq (i := 1) 27 (v := ?v2) rfl rfl (by kernel_rfl) (by kernel_rfl) (by kernel_rfl) (fun _ _ _ h => h) (Or.inl ⟨by rfl, ?y2⟩) hHeld ?r2
          case y2 => (intro w' hSw; skip; go_simp; (try with_reducible rfl))
          try simp only [Act.put, List.setIfInBounds_toArray, List.set_cons_zero, List.set_cons_succ]
          refine takeq (i := 2) 28 (v := ?v3) rfl rfl (by kernel_rfl) (by kernel_rfl) (by kernel_rfl) (fun _ _ _ h => h) (Or.inl ⟨by rfl, ?y3⟩) hHeld ?r3
          case y3 => (intro w' hSw; have q1 := hSw.2.1.2 0 _ rfl; have q2 := hSw.2.1.2 1 _ rfl; go_simp; (try with_reducible rfl))
          try simp only [Act.put, List.setIfInBounds_toArray, List.set_cons_zero, List.set_cons_succ]
          refine takeq (i := 4) 30 (v := .agg #[.int .i64 (kid k).d.k, .int .i64 (kid k).d.op, .slice (kid k).d.v.a (kid k).d.v.len (kid k).d.v.cap, .int .i64 (kid k).d.t.t.k, .slice (kid k).d.t.t.a (kid k).d.t.t.len (kid k).d.t.t.cap, .int .i64 (kid k).d.t.t.n, .int .i64 (kid k).d.t.t.s, .slice (kid k).d.ka (kid k).d.n (kid k).d.kc]) rfl rfl (by kernel_rfl) (by kernel_rfl) (by kernel_rfl) (fun _ _ _ h => h) (yieldsIf_load_mid (by rfl) 29 _ rfl wr.heap.size 0 rfl [.int .i64 (kid k).d.k, .int .i64 (kid k).d.op, .slice (kid k).d.v.a (kid k).d.v.len (kid k).d.v.cap, .int .i64 (kid k).d.t.t.k, .slice (kid k).d.t.t.a (kid k).d.t.t.len (kid k).d.t.t.cap, .int .i64 (kid k).d.t.t.n, .int .i64 (kid k).d.t.t.s, .slice (kid k).d.ka (kid k).d.n (kid k).d.kc] _ (fun w' hw' => hw'.2.2.range 0 _ rfl) Try.underlying29 rfl (by kernel_rfl)) hHeld ?_
          try simp only [Act.put, List.setIfInBounds_toArray, List.set_cons_zero, List.set_cons_succ]
          refine wpAnyH_ready (rs := [3]) (by kernel_rfl) (by simp) ?_
          refine AllReadyH.cons rfl (fun K hK => ?_) AllReadyH.nil
          go_simp
          refine (placeBelow_any p q _ hp0 hp1).mono ?_
          rintro e z1 ⟨rfl, hb1⟩
          have HC3 : Hid (CS w0 w z1 g Lr [.int .i64 p, .int .i64 q, .int .i64 d.k, .int .i64 d.op, .slice d.v.a d.v.len d.v.cap, .int .i64 d.t.t.k, .slice d.t.t.a d.t.t.len d.t.t.cap, .int .i64 d.t.t.n, .int .i64 d.t.t.s, .slice d.ka d.n d.kc]) := HCw.out.below HCw.out.bl.size hb1
          have HBz : Hid (Box z1 wr.heap.size [.int .i64 (kid k).d.k, .int .i64 (kid k).d.op, .slice (kid k).d.v.a (kid k).d.v.len (kid k).d.v.cap, .int .i64 (kid k).d.t.t.k, .slice (kid k).d.t.t.a (kid k).d.t.t.len (kid k).d.t.t.cap, .int .i64 (kid k).d.t.t.n, .int .i64 (kid k).d.t.t.s, .slice (kid k).d.ka (kid k).d.n (kid k).d.kc]) := HBk.out.below hb1
          clear hb1
          go_wp2_with fail
          refine hK.out _ _ ?_ (fun hHeld => ?_)
          · exact ⟨HC3.out.bl, HC3.out.bx, HBz.out⟩
          clear hK K
          try simp only [Act.put, List.setIfInBounds_toArray, List.set_cons_zero, List.set_cons_succ]
          refine takeq (i := 5) 31 (v := ?v4) rfl rfl (by kernel_rfl) (by kernel_rfl) (by kernel_rfl) (fun _ _ _ h => h) (Or.inl ⟨by rfl, ?y4⟩) hHeld ?r4
          case y4 => (intro w' hSw; skip; go_simp; (try with_reducible rfl))
          try simp only [Act.put, List.setIfInBounds_toArray, List.set_cons_zero, List.set_cons_succ]
          refine wpAnyH_ready (rs := [6]) (by kernel_rfl) (by simp) ?_
          refine AllReadyH.cons rfl (fun K hK => ?_) AllReadyH.nil
          go_simp
          refine (HIH.out k (by rw [← HNN.out]; exact hlk) Lr z1 HC3.out.bl HC3.out.ct hLr0 hLr1 hpq).mono ?_
          rintro e w5 ⟨q5, L5, rfl, hq5, hL5, hc5, hp5⟩
          have HC5 : Hid (CS w0 w w5 g L5 [.int .i64 p, .int .i64 q, .int .i64 d.k, .int .i64 d.op, .slice d.v.a d.v.len d.v.cap, .int .i64 d.t.t.k, .slice d.t.t.a d.t.t.len d.t.t.cap, .int .i64 d.t.t.n, .int .i64 d.t.t.s, .slice d.ka d.n d.kc]) := HC3.out.past hg hgw hp5 hc5
          have HB5 : Hid (Box w5 wr.heap.size [.int .i64 (kid k).d.k, .int .i64 (kid k).d.op, .slice (kid k).d.v.a (kid k).d.v.len (kid k).d.v.cap, .int .i64 (kid k).d.t.t.k, .slice (kid k).d.t.t.a (kid k).d.t.t.len (kid k).d.t.t.cap, .int .i64 (kid k).d.t.t.n, .int .i64 (kid k).d.t.t.s, .slice (kid k).d.ka (kid k).d.n (kid k).d.kc]) := HBz.out.past hp5 hwne
          clear hc5 hp5
          go_wp2_with fail
          refine hK.out _ _ ?_ (fun hHeld => ?_)
          · exact ⟨HC5.out.bl, HC5.out.bx, HB5.out⟩
          clear hK K
          try simp only [Act.put, List.setIfInBounds_toArray, List.set_cons_zero, List.set_cons_succ]
          refine takeq (i := 7) 33 (v := ?v5) rfl rfl (by kernel_rfl) (by kernel_rfl) (by kernel_rfl) (fun _ _ _ h => h) (Or.inl ⟨by rfl, ?y5⟩) hHeld ?r5
          case y5 => (intro w' hSw; skip; go_simp; (try with_reducible rfl))
          try simp only [Act.put, List.setIfInBounds_toArray, List.set_cons_zero, List.set_cons_succ]
          refine wpAnyH_done (by kernel_rfl) ?_ _
          clear hHeld HBk HBz HB5 HC3 HCw HCr
          have HS : Hid (sumN (k + 1) (fun i => esz (kid i)) = sumN k (fun i => esz (kid i)) + esz (kid k)) := rfl
          cases q5 with
          | false =>
            have HNO : Hid (¬ (eOk q (.mk d kid) p ∧ ((esz (.mk d kid) : Nat) : Int) ≤ L)) := fun hh => by
              have h1 := hh.1.2.2 k (by rw [← HNN.out]; exact hlk)
              have h2 := HSZ.out
              have h3 := sumN_mono (f := (fun i => esz (kid i))) (show k + 1 ≤ d.n by rw [← HNN.out]; omega)
              have h4 := HLR.out
              have h5 := HS.out
              have h6 := hh.2
              have h7 := hq5.2 ⟨h1, by omega⟩
              cases h7
            clear hq5 hL5
            go_wp2_with fail
            go_ret
            exact CtrAns.no HNO.out HC5.out.ct HC5.out.pa
          | true =>
            obtain ⟨h51, h52⟩ := hq5.1 rfl
            have h53 := hL5 rfl
            have HN5 : Hid (eOk q (kid k) (p + 1)) := h51
            have HL5 : Hid (L5 = L - 1 - (sumN (k + 1) (fun i => esz (kid i)) : Nat)) := (show L5 = _ by have h1 := HS.out; have h2 := HLR.out; omega)
            have hL50 : 0 ≤ L5 := by omega
            have hL51 : L5 ≤ 100000 := by omega
            clear h51 h52 h53 hq5 hL5
            go_wp2_with fail
            go_roundw
            case rel =>
              refine ⟨k + 1, L5, by omega, by go_num, hL50, hL51, HL5, fun j hj => ?_, HC5⟩
              by_cases e : j = k
              · subst e
                exact HN5.out
              · exact HOKS.out j (by omega)
            case measure => simp [intOf]; omega
end Go.Proofs.Ytidhcbjhggdncaa

/- TreT -/
namespace Go.Proofs.Ytidhcbjhggdncaa
open Go.RowKit Go.Deep
set_option maxRecDepth 100000

/-- What IndexFunc answers: -1 exactly if P. -/
def IdxAns (P : Prop) (w : World) (e : Ending) (w' : World) : Prop := ∃ v : Int, e = .returned (.int .i64 v) ∧ (0 ≤ v ↔ ¬ P) ∧ Below w.heap.size w w'
theorem IdxAns.of {P : Prop} {v : Int} {w w' : World} (h : 0 ≤ v ↔ ¬ P) (hb : Below w.heap.size w w') : IdxAns P w (.returned (.int .i64 v)) w' := ⟨v, rfl, h, hb⟩
end Go.Proofs.Ytidhcbjhggdncaa

/- TreU -/
namespace Go.Proofs.Ytidhcbjhggdncaa
open Go.RowKit Go.Deep
set_option maxRecDepth 100000

/-- An operation that has nothing but its kind and its Kids. -/
def BareA (d : AN) : Prop := d.pn = 0 ∧ zeroE d.e ∧ d.v.b = [] ∧ d.tb = []
theorem BareA.mk {d : AN} (h1 : d.pn = 0) (h2 : zeroE d.e) (h3 : d.v.b = []) (h4 : d.tb = []) : BareA d := And.intro h1 (And.intro h2 (And.intro h3 h4))
end Go.Proofs.Ytidhcbjhggdncaa

/- TreZ -/
namespace Go.Proofs.Ytidhcbjhggdncaa
open Go.RowKit Go.Deep
set_option maxRecDepth 100000

theorem bytesEqual_any (x y : SL) (w : World) (hx : BsF 0 w x) (hy : BsF 0 w y) : Calls Try.prog 53 #[.slice x.a x.len x.cap, .slice y.a y.len y.cap] w (Tells (x.b = y.b) w) := by
  have c1 : (convert 22 9 (.slice x.a x.len x.cap)).run Try.prog w = .ok (.string (strOfNums x.b)) w := hx.1.str
  have c2 : (convert 22 9 (.slice y.a y.len y.cap)).run Try.prog w = .ok (.string (strOfNums y.b)) w := hy.1.str
  by_cases h : x.b = y.b
  · have HY : Hid (x.b = y.b) := h
    rw [h] at c1
    clear h hx hy
    go_enter Try.func53, Try.ntmps53
    go_wp2_with fail
    go_ret
    exact Tells.yes HY.out (Below.refl _ _)
  · have HNO : Hid (¬ x.b = y.b) := h
    have hs := str_ne hx.1.byt hy.1.byt h
    have hs0 := str_ne2 hx.1.byt hy.1.byt h
    have hs1 : ((strOfNums x.b).toList == (strOfNums y.b).toList) = false := beq_false_of_ne hs0
    have hs2 : decide (strOfNums x.b = strOfNums y.b) = false := decide_eq_false hs
    clear h hx hy
    go_enter Try.func53, Try.ntmps53
    go_wp2_with fail
    go_ret
    exact Tells.no HNO.out (Below.refl _ _)
theorem hasC_any (x y : SL) (c : Nat) (w : World) (hx : BsF 0 w x) (hy : BsF 0 w y) (hc : w.cell? ⟨c, 0, none⟩ = some (.slice x.a x.len x.cap)) : Calls Try.prog 52 #[.slice y.a y.len y.cap, .pointer (some ⟨c, 0, none⟩)] w (Tells (y.b = x.b) w) := by
  have BE := bytesEqual_any y x w hy hx
  clear hx hy
  obtain ⟨P, hP⟩ : ∃ P : Prop, P = (y.b = x.b) := ⟨_, rfl⟩
  rw [← hP] at BE ⊢
  clear hP
  go_enter Try.func52, Try.ntmps52
  go_wp2_with fail
  refine BE.mono ?_
  rintro e w1 ⟨q, rfl, hq, hb⟩
  have HQ : Hid (q = true ↔ P) := hq
  have HB : Hid (Below w.heap.size w w1) := hb
  clear hq hb BE hc
  go_wp2_with fail
  go_ret
  exact Tells.of HQ.out HB.out
set_option maxHeartbeats 2000000 in
theorem indexV_any (v : Value) (L : List SL) (x : SL) (c B : Nat) (w0 w : World) (h : VL w0 w B v L) (hw : Below w0.heap.size w0 w) (hx : BsF 0 w0 x) (hn : L.length ≤ 1048576) (hcl : c < w.heap.size) (hc : w.cell? ⟨c, 0, none⟩ = some (.slice x.a x.len x.cap)) :
    Calls Try.prog 67 #[v, .func (.func 52) #[] #[.pointer (some ⟨c, 0, none⟩)]] w (IdxAns (¬ InL x.b L) w) := by
  obtain ⟨a, cap, rfl, hf⟩ := h.form
  obtain ⟨n, hnn⟩ : ∃ n, n = L.length := ⟨_, rfl⟩
  have HN : Hid (n = L.length) := hnn
  have HT : Hid (∀ y ∈ L, BsF 0 w0 y) := h.txt
  have HX : Hid (BsF 0 w0 x) := hx
  have HW : Hid (Below w0.heap.size w0 w) := hw
  have HCC : Hid (w.cell? ⟨c, 0, none⟩ = some (.slice x.a x.len x.cap)) := hc
  rw [← hnn] at hn ⊢
  by_cases hL : L = []
  · have HNI : Hid (¬ InL x.b L) := (show ¬ (x.b ∈ L.map SL.b) by rw [hL]; simp)
    have hn0 : n = 0 := by rw [hnn, hL]; rfl
    clear h hw hx hf hnn hL hc HN
    subst hn0
    go_enter Try.func67, Try.ntmps67
    go_wp2_with fail
    go_loopw [8] (fun i wr => i = .int .i64 0 ∧ Hid (Below w.heap.size w wr)) (fun _ _ => 0)
    case atStart => exact ⟨rfl, Below.refl _ _⟩
    case round =>
      obtain ⟨rfl, HB⟩ := hrel
      go_wp2_with fail
      go_ret
      exact IdxAns.of ⟨fun h => absurd h (by decide), fun h => absurd HNI.out h⟩ HB.out
  obtain ⟨g, rfl, _, hg, hcs⟩ := hf.resolve_left hL
  have HCS : Hid (∀ i x, L[i]? = some x → w.cell? ⟨g, i, none⟩ = some (.slice x.a x.len x.cap)) := hcs
  clear h hw hx hf hnn hL hc hcs
  go_enter Try.func67, Try.ntmps67
  go_wp2_with fail
  go_loopw [8] (fun i wr => ∃ k : Nat, k ≤ n ∧ i = .int .i64 k ∧ Hid (∀ j y, j < k → L[j]? = some y → y.b ≠ x.b) ∧ Hid (Below w.heap.size w wr)) (fun i _ => n - (intOf i).toNat)
  case atStart => exact ⟨0, Nat.zero_le _, rfl, fun j y hj => absurd hj (Nat.not_lt_zero _), Below.refl _ _⟩
  case round =>
    obtain ⟨k, hk, rfl, HNE, HB⟩ := hrel
    by_cases hlk : k < n
    rotate_left
    · obtain rfl : k = n := by omega
      have hlkz : ¬ (k : Int) < (k : Int) := by omega
      have HNI : Hid (¬ InL x.b L) := fun hm => by
        obtain ⟨y, hy, e⟩ := List.mem_map.1 hm
        obtain ⟨j, hj, rfl⟩ := List.getElem_of_mem hy
        exact HNE.out j _ (by rw [HN.out]; exact hj) (List.getElem?_eq_getElem hj) e
      go_wp2_with fail
      go_ret
      exact IdxAns.of ⟨fun h => absurd h (by decide), fun h => absurd HNI.out h⟩ HB.out
    have hlkz : (k : Int) < (n : Int) := by omega
    obtain ⟨y, hy⟩ : ∃ y, L[k]? = some y := ⟨_, List.getElem?_eq_getElem (by rw [← HN.out]; exact hlk)⟩
    have HY : Hid (L[k]? = some y) := hy
    have HTY : Hid (BsF 0 w0 y) := HT.out y (List.mem_of_getElem? hy)
    have y0 : wr.cell? ⟨g, k, none⟩ = some (.slice y.a y.len y.cap) := (HB.out.cell (p := ⟨g, k, none⟩) hg).trans (HCS.out k y hy)
    clear hy
    go_wp2_with fail
    refine (hasC_any x y c wr (HX.out.upper (Upper.of_below (bl_trans HW.out HB.out))) (HTY.out.upper (Upper.of_below (bl_trans HW.out HB.out))) ((HB.out.cell (p := ⟨c, 0, none⟩) hcl).trans HCC.out)).mono ?_
    rintro e w1 ⟨q1, rfl, hq1, hb1⟩
    have HB1 : Hid (Below w.heap.size w w1) := bl_trans HB.out hb1
    clear hb1 HB y0
    cases q1 with
    | true =>
      have HIN : Hid (InL x.b L) := (show x.b ∈ L.map SL.b by rw [← hq1.1 rfl]; exact List.mem_map_of_mem (f := SL.b) (List.mem_of_getElem? HY.out))
      clear hq1
      go_wp2_with fail
      go_ret
      exact IdxAns.of ⟨fun _ h => h HIN.out, fun _ => by omega⟩ HB1.out
    | false =>
      have HYX : Hid (y.b ≠ x.b) := fun hh => by have h := hq1.2 hh; cases h
      clear hq1
      go_wp2_with fail
      go_roundw
      case rel =>
        refine ⟨k + 1, by omega, by go_num, fun j z hj hz => ?_, HB1⟩
        by_cases e : j = k
        · subst e
          rw [HY.out] at hz
          cases hz
          exact HYX.out
        · exact HNE.out j z (by omega) hz
      case measure => simp [intOf]; omega
theorem containsV_any (v : Value) (L : List SL) (x : SL) (c B : Nat) (w0 w : World) (h : VL w0 w B v L) (hw : Below w0.heap.size w0 w) (hx : BsF 0 w0 x) (hn : L.length ≤ 1048576) (hcl : c < w.heap.size) (hc : w.cell? ⟨c, 0, none⟩ = some (.slice x.a x.len x.cap)) :
    Calls Try.prog 51 #[v, .func (.func 52) #[] #[.pointer (some ⟨c, 0, none⟩)]] w (Tells (InL x.b L) w) := by
  have IX := indexV_any v L x c B w0 w h hw hx hn hcl hc
  obtain ⟨P, hP⟩ : ∃ P : Prop, P = InL x.b L := ⟨_, rfl⟩
  rw [← hP] at IX ⊢
  obtain ⟨a, cap, rfl, _⟩ := h.form
  clear hP h hw hx hn hcl hc
  go_enter Try.func51, Try.ntmps51
  go_wp2_with fail
  refine IX.mono ?_
  rintro e w1 ⟨v, rfl, hv, hb⟩
  have HV : Hid (0 ≤ v ↔ ¬ ¬ P) := hv
  have HB : Hid (Below w.heap.size w w1) := hb
  clear IX hv hb
  go_wp2_with fail
  go_ret
  refine Tells.of ?_ HB.out
  rw [← Classical.not_not (a := P), ← HV.out]
  simp
theorem has_any (v : Value) (L : List SL) (x : SL) (B : Nat) (w0 w : World) (h : VL w0 w B v L) (hw : Below w0.heap.size w0 w) (hx : BsF 0 w0 x) (hn : L.length ≤ 1048576) :
    Calls Try.prog 25 #[v, .slice x.a x.len x.cap] w (Tells (InL x.b L) w) := by
  have hsz : w0.heap.size ≤ w.heap.size := hw.size
  have HC : Hid (∀ o, (w.alloc o).cell? ⟨w.heap.size, 0, none⟩ = some (.slice x.a x.len x.cap) → Calls Try.prog 51 #[v, .func (.func 52) #[] #[.pointer (some ⟨w.heap.size, 0, none⟩)]] (w.alloc o) (Tells (InL x.b L) (w.alloc o))) := fun o ho => containsV_any v L x w.heap.size B w0 (w.alloc o) (h.below (bl_a o)) (hw.trans ((bl_a o).mono hsz)) hx hn (by simp) ho
  obtain ⟨P, hP⟩ : ∃ P : Prop, P = InL x.b L := ⟨_, rfl⟩
  rw [← hP] at HC ⊢
  obtain ⟨a, cap, rfl, _⟩ := h.form
  clear hP h hw hx hn
  go_enter Try.func25, Try.ntmps25
  go_wp2_with fail
  refine (HC.out _ (by simp [go_sem])).mono ?_
  rintro e w1 ⟨q, rfl, hq, hb⟩
  have HQ : Hid (q = true ↔ P) := hq
  have HB : Hid (Below w.heap.size w w1) := bl_trans (bl_a _) hb
  clear HC hq hb
  go_wp2_with fail
  go_ret
  exact Tells.of HQ.out HB.out
end Go.Proofs.Ytidhcbjhggdncaa

/- TrvA -/
namespace Go.Proofs.Ytidhcbjhggdncaa
open Go.RowKit Go.Deep
set_option maxRecDepth 100000

/-- What adding to a list in the box g leaves. -/
structure KQ (g : Nat) (v : Value) (w : World) (v' : Value) (w' : World) : Prop where
  os : w'.os = w.os
  tape : w'.tape = w.tape
  output : w'.output = w.output
  size : w.heap.size ≤ w'.heap.size
  block : ∀ b, b < w.heap.size → b ≠ g → v.ownBlock ≠ some b → w'.heap[b]? = w.heap[b]?
  blk : ∀ c, v'.ownBlock = some c → v.ownBlock = some c ∨ w.heap.size ≤ c
theorem KQ.of_kp {g : Nat} {v v' : Value} {w w' : World} (h : Kp v w v' w') : KQ g v w v' w' := ⟨h.os, h.tape, h.output, h.size, fun b hb _ hn => h.block b hb hn, h.blk⟩
theorem KQ.of_below {g : Nat} {v : Value} {w w' : World} (h : Below w.heap.size w w') : KQ g v w v w' := .of_kp (.of_below h)
theorem KQ.trans {g : Nat} {v v' v'' : Value} {w w' w'' : World} (h : KQ g v w v' w') (k : KQ g v' w' v'' w'') : KQ g v w v'' w'' :=
  ⟨k.os.trans h.os, k.tape.trans h.tape, k.output.trans h.output, Nat.le_trans h.size k.size, fun b hb hg hn => (k.block b (Nat.lt_of_lt_of_le hb h.size) hg (fun e => by
    rcases h.blk b e with e' | e'
    · exact hn e'
    · omega)).trans (h.block b hb hg hn), fun c hc => by
    rcases k.blk c hc with e | e
    · exact h.blk c e
    · exact .inr (Nat.le_trans h.size e)⟩
theorem KQ.past {g : Nat} {v v' : Value} {w w' w'' : World} (h : KQ g v w v' w') (k : Past g w' w'') : KQ g v w v' w'' :=
  ⟨k.os.trans h.os, k.tape.trans h.tape, k.output.trans h.output, Nat.le_trans h.size k.size, fun b hb hg hn => (k.block b (Nat.lt_of_lt_of_le hb h.size) hg).trans (h.block b hb hg hn), h.blk⟩
theorem KQ.box {g : Nat} {v v' : Value} {w w' : World} {b : Nat} {L : List Value} (h : KQ g v w v' w') (hx : Box w b L) (hg : b ≠ g) (hn : v.ownBlock ≠ some b) : Box w' b L := ⟨Nat.lt_of_lt_of_le hx.1 h.size, fun c u hu => (World.cell?_of_block (w := w) (a := ⟨b, c, none⟩) (h.block b hx.1 hg hn)).trans (hx.2 c u hu)⟩
theorem KQ.low {g : Nat} {v v' : Value} {w w' : World} {B : Nat} (h : KQ g v w v' w') (hv : ∀ c, v.ownBlock = some c → B ≤ c) (hg : B ≤ g) (hB : B ≤ w.heap.size) : Below B w w' := ⟨h.os, h.tape, h.output, h.size, fun b hb => h.block b (by omega) (by omega) (fun e => by have := hv b e; omega)⟩
/-- A list of variables in the box g. -/
structure VQ (w0 w : World) (B g : Nat) (v : Value) (L : List SL) : Prop where
  cell : w.cell? ⟨g, 0, none⟩ = some v
  fr : w.frozen? ⟨g, 0, none⟩ = false
  lt : g < w.heap.size
  vl : VL w0 w B v L
  ne : v.ownBlock ≠ some g
  lo : w0.heap.size ≤ B
  gl : w0.heap.size ≤ g
  bl : Below w0.heap.size w0 w
  sz : B ≤ w.heap.size
theorem VQ.below {w0 w w' : World} {B g : Nat} {v : Value} {L : List SL} (h : VQ w0 w B g v L) (hb : Below w.heap.size w w') : VQ w0 w' B g v L :=
  ⟨(hb.cell (p := ⟨g, 0, none⟩) h.lt).trans h.cell, (hb.frozen (p := ⟨g, 0, none⟩) h.lt).trans h.fr, Nat.lt_of_lt_of_le h.lt hb.size, h.vl.below hb, h.ne, h.lo, h.gl, h.bl.trans (hb.mono h.bl.size), Nat.le_trans h.sz hb.size⟩
/-- What adding to a list in the box g does. -/
def AddQ (w0 : World) (B g : Nat) (v : Value) (R : List (List Int)) (w : World) (e : Ending) (w' : World) : Prop := ∃ v' L', e = .returned (.tuple #[]) ∧ VQ w0 w' B g v' L' ∧ L'.map SL.b = R ∧ KQ g v w v' w'
theorem appQ {ops : Array Oper} {rest : List Oper} {o : Oper} {a : Act} {Q : Exit → Act → World → Prop} {w : World} (hgd : o.guard = none) (s x : Operand)
    (ho : o.op = .call { callee := .builtin .append, args := #[s, x], argTypes := #[43, 43] })
    (w0 : World) (B : Nat) (v : Value) (L : List SL) (hs : a.eval s = v) (HO : Hid (VL w0 w B v L)) (y : SL) (hy : BsF 0 w0 y)
    (ad : Addr) (c : Nat) (hx : a.eval x = .slice (some ad) 1 c) (HN : Hid (∀ j u, ([y.v] : List Value)[j]? = some u → w.cell? (ad.add j) = some u)) (hle : L.length ≤ 1048576) (hB : B ≤ w.heap.size)
    (h : ∀ g cap w', Hid (VL w0 w' B (.slice (some ⟨g, 0, none⟩) (L.length + 1) cap) (L ++ [y])) → Hid (Kp v w (.slice (some ⟨g, 0, none⟩) (L.length + 1) cap) w') → wpList Try.prog ops Q rest (a.put o.dst (.slice (some ⟨g, 0, none⟩) (L.length + 1) cap)) w') :
    wpList Try.prog ops Q (o :: rest) a w := by
  obtain ⟨i0, hi0, hzz⟩ := Option.map_eq_some_iff.1 Try.infoB22
  simp only [Prod.mk.injEq] at hzz
  obtain ⟨hi2, hi1, hi3⟩ := hzz
  refine wpList_append_lies _ hgd s x 43 ho B 22 i0 (.slice none 0 0) 1 24 Try.underlying43 hi0 hi2 hi1 hi3 rfl (by omega) v L.length (L.map SL.v) hs HO.out.own ad 1 c [y.v] hx rfl HN.out (fun u hu => by simp only [List.mem_cons, List.not_mem_nil, or_false] at hu; rw [hu]; rfl) (by omega) (by unfold maxLen; omega) (by omega) hB _ rfl ?_
  intro g cap w' hown hgr hat hlt
  refine h g cap w' ⟨?_, fun g' hg' => ?_, fun z hz => ?_⟩ ⟨hgr.os, hgr.tape, hgr.output, hgr.size, fun b hb hn => hgr.block b hb (fun e => hn e.symm), fun g' hg' => ?_⟩
  · rw [List.map_append, List.length_append]
    exact hown
  · have : g = g' := by simpa [Value.ownBlock] using hg'
    subst this
    rcases hown.2 with ⟨hv, _⟩ | ⟨g0, c0, cur, hv, hb, _⟩
    · cases hv
    · cases hv; exact ⟨hb, hlt⟩
  · rcases List.mem_append.1 hz with hz | hz
    · exact HO.out.txt z hz
    · rw [List.mem_singleton.1 hz]
      exact hy
  · have : g = g' := by simpa [Value.ownBlock] using hg'
    subst this
    rcases hat with e | e
    · exact .inl e
    · exact .inr (by rw [e]; exact Nat.le_refl _)
/-- The new list is laid into the box. -/
theorem VQ.put {w0 w w9 : World} {B g : Nat} {v v9 : Value} {L L9 : List SL} (h : VQ w0 w B g v L) (hK : Kp v w v9 w9) (hV : VL w0 w9 B v9 L9) : VQ w0 (w9.setCell ⟨g, 0, none⟩ v9) B g v9 L9 ∧ KQ g v w v9 (w9.setCell ⟨g, 0, none⟩ v9) := by
  have hb := hK.block g h.lt h.ne
  have hc : w9.cell? ⟨g, 0, none⟩ = some v := (World.cell?_of_block (w := w) (a := ⟨g, 0, none⟩) hb).trans h.cell
  have hne : v9.ownBlock ≠ some g := fun e => by
    rcases hK.blk g e with e | e
    · exact h.ne e
    · have := h.lt
      omega
  have hp : Past g w9 (w9.setCell ⟨g, 0, none⟩ v9) := (Past.refl g w9).set 0 _
  have hq : KQ g v w v9 (w9.setCell ⟨g, 0, none⟩ v9) := (KQ.of_kp hK).past hp
  refine ⟨⟨set_same hc, ?_, Nat.lt_of_lt_of_le h.lt hq.size, hV.keep hp.size (fun c hc' => hp.block c (hV.lo c hc').2 (fun e => hne (by rw [← e]; exact hc'))), hne, h.lo, h.gl, ?_, Nat.le_trans h.sz hq.size⟩, hq⟩
  · rw [World.frozen?_setCell]
    exact (World.frozen?_of_block (w := w) (a := ⟨g, 0, none⟩) hb).trans h.fr
  · exact h.bl.trans (hq.low (fun c hc' => Nat.le_trans h.lo (h.vl.lo c hc').1) h.gl h.bl.size)
set_option maxHeartbeats 2000000 in
theorem add_any (v : Value) (L : List SL) (x : SL) (B g : Nat) (w0 w : World) (h : VQ w0 w B g v L) (hx : BsF 0 w0 x) (hn : L.length ≤ 1000000) :
    Calls Try.prog 26 #[.pointer (some ⟨g, 0, none⟩), .slice x.a x.len x.cap] w (AddQ w0 B g v (addV (L.map SL.b) x.b) w) := by
  have HLX : Hid (x.b = [] ↔ x.len = 0) := nil_len hx.1.1
  have HV : Hid (VQ w0 w B g v L) := h
  have HX : Hid (BsF 0 w0 x) := hx
  have HAS := has_any v L x B w0 w h.vl h.bl hx (by omega)
  obtain ⟨a, cap, rfl, _⟩ := h.vl.form
  obtain ⟨n, hnn⟩ : ∃ n, n = L.length := ⟨_, rfl⟩
  have HN : Hid (n = L.length) := hnn
  rw [← hnn] at HAS HV ⊢
  clear h hx hnn
  by_cases h0 : x.len = 0
  · have HR : Hid (addV (L.map SL.b) x.b = L.map SL.b) := (show addV _ _ = _ by unfold addV; rw [if_pos (.inl (HLX.out.2 h0))])
    clear HAS
    go_enter Try.func26, Try.ntmps26
    go_wp2_with fail
    go_end0
    exact ⟨_, L, rfl, HV.out, HR.out.symm, KQ.of_below (Below.refl _ _)⟩
  have h0b : (0 : Int) < (x.len : Int) := by omega
  have h0c : 0 < x.len := by omega
  have H0 : Hid (¬ x.b = []) := fun e => h0 (HLX.out.1 e)
  have c0 := HV.out.cell
  clear h0
  go_enter Try.func26, Try.ntmps26
  go_wp2_with fail
  refine HAS.mono ?_
  rintro e w1 ⟨q, rfl, hq, hb1⟩
  have HB1 : Hid (Below w.heap.size w w1) := hb1
  clear HAS hb1 c0
  cases q with
  | true =>
    have HR : Hid (addV (L.map SL.b) x.b = L.map SL.b) := (show addV _ _ = _ by unfold addV; rw [if_pos (.inr (hq.1 rfl))])
    clear hq
    go_wp2_with fail
    go_end0
    exact ⟨_, L, rfl, HV.out.below HB1.out, HR.out.symm, KQ.of_below HB1.out⟩
  | false =>
    have HR : Hid (addV (L.map SL.b) x.b = (L ++ [x]).map SL.b) := (show addV _ _ = _ by
      unfold addV
      rw [if_neg (fun hh => by
        rcases hh with hh | hh
        · exact H0.out hh
        · have := hq.2 hh
          cases this), List.map_append]
      rfl)
    clear hq
    have HV1 : Hid (VQ w0 w1 B g (.slice a n cap) L) := HV.out.below HB1.out
    have HV2 : Hid (∀ o, VQ w0 (w1.alloc o) B g (.slice a n cap) L) := fun o => HV1.out.below (bl_a o)
    have HO1 : Hid (∀ o, VL w0 (w1.alloc o) B (.slice a n cap) L) := fun o => (HV2.out o).vl
    have c1 := HV1.out.cell
    have HCL : Hid (∀ o v' w9, Kp (.slice a n cap) (w1.alloc o) v' w9 → w9.cell? ⟨g, 0, none⟩ = some (.slice a n cap) ∧ w9.frozen? ⟨g, 0, none⟩ = false) := fun o v' w9 hK => ⟨(World.cell?_of_block (w := w1.alloc o) (a := ⟨g, 0, none⟩) (hK.block g (HV2.out o).lt (HV2.out o).ne)).trans (HV2.out o).cell, (World.frozen?_of_block (w := w1.alloc o) (a := ⟨g, 0, none⟩) (hK.block g (HV2.out o).lt (HV2.out o).ne)).trans (HV2.out o).fr⟩
    have HNW : Hid (∀ j u, ([x.v] : List Value)[j]? = some u → (w1.alloc (.cells #[.slice x.a x.len x.cap] 22)).cell? ((⟨w1.heap.size, 0, none⟩ : Addr).add j) = some u) := by
      intro j u hu
      have h1 : (w1.alloc (.cells #[.slice x.a x.len x.cap] 22)).heap[w1.heap.size]? = some (.cells #[.slice x.a x.len x.cap] 22) := by
        show (w1.heap.push _)[w1.heap.size]? = _
        rw [Array.getElem?_push]
        simp
      exact World.news_of_block h1 j u hu
    have hle1 : L.length ≤ 1048576 := by have := HN.out; omega
    have hB1 : ∀ o, B ≤ (w1.alloc o).heap.size := fun o => (HV2.out o).sz
    go_wp2_with (refine appQ rfl (.tmp 18) (.tmp 20) rfl w0 B (.slice a n cap) L rfl (HO1.out _) x HX.out ⟨w1.heap.size, 0, none⟩ 1 rfl HNW hle1 (hB1 _) ?_; intro g9 k9 w9 HO9 HK9; obtain ⟨cc9, ff9⟩ := HCL.out _ _ _ HK9.out)
    go_end0
    obtain ⟨r1, r2⟩ := (HV2.out _).put HK9.out HO9.out
    exact ⟨_, _, rfl, r1, HR.out.symm, (KQ.of_below (bl_trans HB1.out (bl_a _))).trans r2⟩
end Go.Proofs.Ytidhcbjhggdncaa
