/- Texts put together: TreR -/
import Derived.Test.YtpgbhkkdbkecoaaNk26
/- TreR -/
namespace Go.Proofs.Ytpgbhkkdbkecoaa
open Go.RowKit Go.Deep
set_option maxRecDepth 100000

set_option maxHeartbeats 16000000 in
theorem exprOk_any (e : ET) : ∀ (p q L : Int) (g : Nat) (w0 w : World), e.lies 0 w0 → Below w0.heap.size w0 w → w0.heap.size ≤ g → Ctr w g L → 0 ≤ p → p ≤ 100000 → q ≤ 1000 → 0 ≤ L → L ≤ 100000 →
    Calls Try.prog 67 #[.pointer (some ⟨g, 0, none⟩), .agg #[.int .i64 p, .int .i64 q, .int .i64 e.d.k, .int .i64 e.d.op, .slice e.d.v.a e.d.v.len e.d.v.cap, .int .i64 e.d.t.t.k, .slice e.d.t.t.a e.d.t.t.len e.d.t.t.cap, .int .i64 e.d.t.t.n, .int .i64 e.d.t.t.s, .slice e.d.ka e.d.n e.d.kc]] w (CtrAns (eOk q e p) (esz e) g L w) := by
  induction e with
  | nil => exact fun _ _ _ _ _ _ h => False.elim h
  | mk d kid ih =>
    intro p q L g w0 w hl hw hg hc hp0 hp1 hq1 hL0 hL1
    show Calls Try.prog 67 #[.pointer (some ⟨g, 0, none⟩), .agg #[.int .i64 p, .int .i64 q, .int .i64 d.k, .int .i64 d.op, .slice d.v.a d.v.len d.v.cap, .int .i64 d.t.t.k, .slice d.t.t.a d.t.t.len d.t.t.cap, .int .i64 d.t.t.n, .int .i64 d.t.t.s, .slice d.ka d.n d.kc]] w (CtrAns (eOk q (.mk d kid) p) (esz (.mk d kid)) g L w)
    obtain ⟨hv, ht, hf, hn, hR, hk⟩ := hl
    have hgw : g < w.heap.size := hc.lt
    have hsz : w0.heap.size ≤ w.heap.size := hw.size
    have HOWN : Hid (∀ W, Below w0.heap.size w0 W → Calls Try.prog 89 #[.agg #[.int .i64 d.k, .int .i64 d.op, .slice d.v.a d.v.len d.v.cap, .int .i64 d.t.t.k, .slice d.t.t.a d.t.t.len d.t.t.cap, .int .i64 d.t.t.n, .int .i64 d.t.t.s, .slice d.ka d.n d.kc]] W (Tells (nodeOk d) W)) := fun W hb => hasOwnE_any d W (hv.upper (Upper.of_below hb)) (ht.upper (Upper.of_below hb)) hf hn
    have HIH : Hid (∀ i, i < d.n → ∀ (L' : Int) (W : World), Below w0.heap.size w0 W → Ctr W g L' → 0 ≤ L' → L' ≤ 100000 → p ≤ q → Calls Try.prog 67 #[.pointer (some ⟨g, 0, none⟩), .agg #[.int .i64 (p + 1), .int .i64 q, .int .i64 (kid i).d.k, .int .i64 (kid i).d.op, .slice (kid i).d.v.a (kid i).d.v.len (kid i).d.v.cap, .int .i64 (kid i).d.t.t.k, .slice (kid i).d.t.t.a (kid i).d.t.t.len (kid i).d.t.t.cap, .int .i64 (kid i).d.t.t.n, .int .i64 (kid i).d.t.t.s, .slice (kid i).d.ka (kid i).d.n (kid i).d.kc]] W (CtrAns (eOk q (kid i) (p + 1)) (esz (kid i)) g L' W)) := fun i hi L' W hb hc' h0 h1 h10 => ih i (p + 1) q L' g w0 W (hk i hi) hb hg hc' (by omega) (by omega) hq1 h0 h1
    have HKR : Hid (KRow 0 w0 8 d.ka d.n (fun i => (kid i).d.cells)) := hR
    have HCS : Hid (CS w0 w (w.alloc (.cells #[.int .i64 p, .int .i64 q, .int .i64 d.k, .int .i64 d.op, .slice d.v.a d.v.len d.v.cap, .int .i64 d.t.t.k, .slice d.t.t.a d.t.t.len d.t.t.cap, .int .i64 d.t.t.n, .int .i64 d.t.t.s, .slice d.ka d.n d.kc] 132)) g L [.int .i64 p, .int .i64 q, .int .i64 d.k, .int .i64 d.op, .slice d.v.a d.v.len d.v.cap, .int .i64 d.t.t.k, .slice d.t.t.a d.t.t.len d.t.t.cap, .int .i64 d.t.t.n, .int .i64 d.t.t.s, .slice d.ka d.n d.kc]) := ⟨Box.new w #[.int .i64 p, .int .i64 q, .int .i64 d.k, .int .i64 d.op, .slice d.v.a d.v.len d.v.cap, .int .i64 d.t.t.k, .slice d.t.t.a d.t.t.len d.t.t.cap, .int .i64 d.t.t.n, .int .i64 d.t.t.s, .slice d.ka d.n d.kc] 132 (0, 0), hc.below (bl_a _), Past.of_below (bl_a _), hw.trans ((bl_a _).mono hsz)⟩
    have AD := admits_any g L p q _ HCS.out.ct hL0 hL1
    have HSZ : Hid (esz (.mk d kid) = 1 + sumN d.n (fun i => esz (kid i))) := rfl
    clear hv ht hf hR hk ih hw hc
    go_enter Try.func67, Try.ntmps67
    go_wp2_with fail
    refine AD.mono ?_
    rintro e w1 ⟨q1, rfl, hq1', hc1, hp1'⟩
    have HC1 : Hid (CS w0 w w1 g (L - 1) [.int .i64 p, .int .i64 q, .int .i64 d.k, .int .i64 d.op, .slice d.v.a d.v.len d.v.cap, .int .i64 d.t.t.k, .slice d.t.t.a d.t.t.len d.t.t.cap, .int .i64 d.t.t.n, .int .i64 d.t.t.s, .slice d.ka d.n d.kc]) := HCS.out.past hg hgw hp1' hc1
    clear AD hc1 hp1' HCS
    cases q1 with
    | false =>
      have HNO : Hid (¬ (eOk q (.mk d kid) p ∧ ((esz (.mk d kid) : Nat) : Int) ≤ L)) := fun hh => by
        have h1 := HSZ.out
        have h2 := hh.2
        have h3 := hh.1.1
        have h4 := hq1'.2 ⟨by omega, h3⟩
        cases h4
      clear hq1'
      go_wp2_with fail
      go_ret
      exact CtrAns.no HNO.out HC1.out.ct HC1.out.pa
    | true =>
      obtain ⟨hLp, hpq⟩ := hq1'.1 rfl
      clear hq1'
      have y2 := HC1.out.bx.2 2 _ rfl
      have y3 := HC1.out.bx.2 3 _ rfl
      have y4 := HC1.out.bx.2 4 _ rfl
      have y5 := HC1.out.bx.2 5 _ rfl
      have y6 := HC1.out.bx.2 6 _ rfl
      have y7 := HC1.out.bx.2 7 _ rfl
      have y8 := HC1.out.bx.2 8 _ rfl
      have y9 := HC1.out.bx.2 9 _ rfl
      have OW := HOWN.out w1 HC1.out.bl
      go_wp2_with fail
      refine OW.mono ?_
      rintro e w2 ⟨q2, rfl, hq2, hb2⟩
      have HC2 : Hid (CS w0 w w2 g (L - 1) [.int .i64 p, .int .i64 q, .int .i64 d.k, .int .i64 d.op, .slice d.v.a d.v.len d.v.cap, .int .i64 d.t.t.k, .slice d.t.t.a d.t.t.len d.t.t.cap, .int .i64 d.t.t.n, .int .i64 d.t.t.s, .slice d.ka d.n d.kc]) := HC1.out.below HC1.out.bl.size hb2
      clear OW hb2 HC1 HOWN y2 y3 y4 y5 y6 y7 y8 y9
      cases q2 with
      | false =>
        have HNO : Hid (¬ nodeOk d) := fun hh => by have h := hq2.2 hh; cases h
        clear hq2
        go_wp2_with fail
        go_ret
        exact CtrAns.no (eOk_no HNO.out) HC2.out.ct HC2.out.pa
      | true =>
        have HNODE : Hid (nodeOk d) := hq2.1 rfl
        clear hq2
        have x9 : w2.cell? ⟨w.heap.size, 9, none⟩ = some (.slice d.ka d.n d.kc) := HC2.out.bx.2 9 _ rfl
        obtain ⟨n, hnn⟩ : ∃ n, n = d.n := ⟨_, rfl⟩
        have HNN : Hid (n = d.n) := hnn
        rw [← hnn] at x9
        have hn20 : n ≤ 4 := (show n ≤ 4 by have h := HNODE.out.1; unfold kOk at h; omega)
        by_cases hn1 : n = 0
        · have HN0 : Hid (n = 0) := hn1
          rw [hn1] at x9
          clear hn1 hnn
          go_wp2_with fail
          clear x9
          go_loopw [22] (fun i wr => i = .int .i64 0 ∧ Hid (CS w0 w wr g (L - 1) [.int .i64 p, .int .i64 q, .int .i64 d.k, .int .i64 d.op, .slice d.v.a d.v.len d.v.cap, .int .i64 d.t.t.k, .slice d.t.t.a d.t.t.len d.t.t.cap, .int .i64 d.t.t.n, .int .i64 d.t.t.s, .slice d.ka d.n d.kc])) (fun _ _ => 0)
          case atStart => exact ⟨rfl, HC2⟩
          case round =>
            obtain ⟨rfl, HCr⟩ := hrel
            go_wp2_with fail
            go_ret
            have h4 := HSZ.out
            rw [← HNN.out, HN0.out] at h4
            have h5 : sumN 0 (fun i => esz (kid i)) = 0 := rfl
            exact CtrAns.yes ⟨hpq, HNODE.out, fun i hi => by rw [← HNN.out, HN0.out] at hi; exact absurd hi (Nat.not_lt_zero _)⟩ (by omega) (by omega) HCr.out.ct HCr.out.pa
        obtain ⟨b, off, eK, _, hbk, hck⟩ := HKR.out.resolve_left (by omega)
        have HCK : Hid (∀ i, i < d.n → ∀ c u, ((kid i).d.cells)[c]? = some u → w0.cell? ⟨b, off + i * 8 + c, none⟩ = some u) := hck
        have hbk' : b < w0.heap.size := hbk
        rw [eK] at x9
        clear eK hck hnn hbk HKR
        go_wp2_with fail
        clear x9
        go_loopw [22] (fun i wr => ∃ (k : Nat) (Lr : Int), k ≤ n ∧ i = .int .i64 k ∧ 0 ≤ Lr ∧ Lr ≤ 100000 ∧ Hid (Lr = L - 1 - (sumN k (fun i => esz (kid i)) : Nat)) ∧ Hid (∀ j, j < k → eOk q (kid j) (p + 1)) ∧ Hid (CS w0 w wr g Lr [.int .i64 p, .int .i64 q, .int .i64 d.k, .int .i64 d.op, .slice d.v.a d.v.len d.v.cap, .int .i64 d.t.t.k, .slice d.t.t.a d.t.t.len d.t.t.cap, .int .i64 d.t.t.n, .int .i64 d.t.t.s, .slice d.ka d.n d.kc])) (fun i _ => n - (intOf i).toNat)
        case atStart => exact ⟨0, L - 1, Nat.zero_le _, rfl, by omega, by omega, (show L - 1 = L - 1 - ((0 : Nat) : Int) by omega), fun j hj => absurd hj (Nat.not_lt_zero _), HC2⟩
        case round =>
          clear HC2
          obtain ⟨k, Lr, hk, rfl, hLr0, hLr1, HLR, HOKS, HCr⟩ := hrel
          by_cases hlk : k < n
          rotate_left
          · obtain rfl : k = n := by omega
            have hlkz : ¬ (k : Int) < (k : Int) := by omega
            go_wp2_with fail
            go_ret
            have h2 := HSZ.out
            have h4 := HLR.out
            rw [HNN.out] at h4
            exact CtrAns.yes ⟨hpq, HNODE.out, fun i hi => HOKS.out i (by rw [HNN.out]; exact hi)⟩ (by omega) (by omega) HCr.out.ct HCr.out.pa
          have hlkz : (k : Int) < (n : Int) := by omega
          have hcx : wr.rangeAt b (off + k * 8) [.int .i64 (kid k).d.k, .int .i64 (kid k).d.op, .slice (kid k).d.v.a (kid k).d.v.len (kid k).d.v.cap, .int .i64 (kid k).d.t.t.k, .slice (kid k).d.t.t.a (kid k).d.t.t.len (kid k).d.t.t.cap, .int .i64 (kid k).d.t.t.n, .int .i64 (kid k).d.t.t.s, .slice (kid k).d.ka (kid k).d.n (kid k).d.kc] := fun c u hu => (HCr.out.bl.cell (p := ⟨b, off + k * 8 + c, none⟩) hbk').trans (HCK.out k (by rw [← HNN.out]; exact hlk) c u hu)
          go_upto_region 6 with (with_reducible refine wpl_at ?_; refine wpList_load_mid rfl 39 _ rfl _ _ rfl [.int .i64 (kid k).d.k, .int .i64 (kid k).d.op, .slice (kid k).d.v.a (kid k).d.v.len (kid k).d.v.cap, .int .i64 (kid k).d.t.t.k, .slice (kid k).d.t.t.a (kid k).d.t.t.len (kid k).d.t.t.cap, .int .i64 (kid k).d.t.t.n, .int .i64 (kid k).d.t.t.s, .slice (kid k).d.ka (kid k).d.n (kid k).d.kc] _ hcx Try.underlying39 rfl (by kernel_rfl) ?_; try simp only [Act.put, List.setIfInBounds_toArray, List.set_cons_zero, List.set_cons_succ])
          clear hcx
          have HCw : Hid (CS w0 w (wr.alloc (.cells #[.int .i64 (kid k).d.k, .int .i64 (kid k).d.op, .slice (kid k).d.v.a (kid k).d.v.len (kid k).d.v.cap, .int .i64 (kid k).d.t.t.k, .slice (kid k).d.t.t.a (kid k).d.t.t.len (kid k).d.t.t.cap, .int .i64 (kid k).d.t.t.n, .int .i64 (kid k).d.t.t.s, .slice (kid k).d.ka (kid k).d.n (kid k).d.kc] 39)).drew g Lr [.int .i64 p, .int .i64 q, .int .i64 d.k, .int .i64 d.op, .slice d.v.a d.v.len d.v.cap, .int .i64 d.t.t.k, .slice d.t.t.a d.t.t.len d.t.t.cap, .int .i64 d.t.t.n, .int .i64 d.t.t.s, .slice d.ka d.n d.kc]) := (HCr.out.below HCr.out.bl.size (bl_a _)).below (Nat.le_trans HCr.out.bl.size (bl_a _).size) (Below.drew (Below.refl _ _))
          have HBk : Hid (Box (wr.alloc (.cells #[.int .i64 (kid k).d.k, .int .i64 (kid k).d.op, .slice (kid k).d.v.a (kid k).d.v.len (kid k).d.v.cap, .int .i64 (kid k).d.t.t.k, .slice (kid k).d.t.t.a (kid k).d.t.t.len (kid k).d.t.t.cap, .int .i64 (kid k).d.t.t.n, .int .i64 (kid k).d.t.t.s, .slice (kid k).d.ka (kid k).d.n (kid k).d.kc] 39)).drew wr.heap.size [.int .i64 (kid k).d.k, .int .i64 (kid k).d.op, .slice (kid k).d.v.a (kid k).d.v.len (kid k).d.v.cap, .int .i64 (kid k).d.t.t.k, .slice (kid k).d.t.t.a (kid k).d.t.t.len (kid k).d.t.t.cap, .int .i64 (kid k).d.t.t.n, .int .i64 (kid k).d.t.t.s, .slice (kid k).d.ka (kid k).d.n (kid k).d.kc]) := (Box.new wr #[.int .i64 (kid k).d.k, .int .i64 (kid k).d.op, .slice (kid k).d.v.a (kid k).d.v.len (kid k).d.v.cap, .int .i64 (kid k).d.t.t.k, .slice (kid k).d.t.t.a (kid k).d.t.t.len (kid k).d.t.t.cap, .int .i64 (kid k).d.t.t.n, .int .i64 (kid k).d.t.t.s, .slice (kid k).d.ka (kid k).d.n (kid k).d.kc] 39 (0, 0)).below (Below.drew (Below.refl _ _))
          have hwne : wr.heap.size ≠ g := by have := HCr.out.pa.size; omega
          refine wp_region_held_drew (S := fun w' => Below w0.heap.size w0 w' ∧ Box w' w.heap.size [.int .i64 p, .int .i64 q, .int .i64 d.k, .int .i64 d.op, .slice d.v.a d.v.len d.v.cap, .int .i64 d.t.t.k, .slice d.t.t.a d.t.t.len d.t.t.cap, .int .i64 d.t.t.n, .int .i64 d.t.t.s, .slice d.ka d.n d.kc] ∧ Box w' wr.heap.size [.int .i64 (kid k).d.k, .int .i64 (kid k).d.op, .slice (kid k).d.v.a (kid k).d.v.len (kid k).d.v.cap, .int .i64 (kid k).d.t.t.k, .slice (kid k).d.t.t.a (kid k).d.t.t.len (kid k).d.t.t.cap, .int .i64 (kid k).d.t.t.n, .int .i64 (kid k).d.t.t.s, .slice (kid k).d.ka (kid k).d.n (kid k).d.kc]) (by kernel_rfl) ?_ (fun hHeld => ?_)
          · exact ⟨HCw.out.bl, HCw.out.bx, HBk.out⟩
          refine takeq (i := 0) 26 (v := ?v1) rfl rfl (by kernel_rfl) (by kernel_rfl) (by kernel_rfl) (fun _ _ _ h => h) (Or.inl ⟨by rfl, ?y1⟩) hHeld ?r1
          case y1 => (intro w' hSw; skip; go_simp; (try with_reducible rfl))
          try simp only [Act.put, List.setIfInBounds_toArray, List.set_cons_zero, List.set_cons_succ]
          refine takeq (i := 1) 27 (v := ?v2) rfl rfl (by kernel_rfl) (by kernel_rfl) (by kernel_rfl) (fun _ _ _ h => h) (Or.inl ⟨by rfl, ?y2⟩) hHeld ?r2
          case y2 => (intro w' hSw; skip; go_simp; (try with_reducible rfl))
          try simp only [Act.put, List.setIfInBounds_toArray, List.set_cons_zero, List.set_cons_succ]
          refine takeq (i := 2) 28 (v := ?v3) rfl rfl (by kernel_rfl) (by kernel_rfl) (by kernel_rfl) (fun _ _ _ h => h) (Or.inl ⟨by rfl, ?y3⟩) hHeld ?r3
          case y3 => (intro w' hSw; have q1 := hSw.2.1.2 0 _ rfl; have q2 := hSw.2.1.2 1 _ rfl; go_simp; (try with_reducible rfl))
          try simp only [Act.put, List.setIfInBounds_toArray, List.set_cons_zero, List.set_cons_succ]
          refine takeq (i := 4) 30 (v := .agg #[.int .i64 (kid k).d.k, .int .i64 (kid k).d.op, .slice (kid k).d.v.a (kid k).d.v.len (kid k).d.v.cap, .int .i64 (kid k).d.t.t.k, .slice (kid k).d.t.t.a (kid k).d.t.t.len (kid k).d.t.t.cap, .int .i64 (kid k).d.t.t.n, .int .i64 (kid k).d.t.t.s, .slice (kid k).d.ka (kid k).d.n (kid k).d.kc]) rfl rfl (by kernel_rfl) (by kernel_rfl) (by kernel_rfl) (fun _ _ _ h => h) (yieldsIf_load_mid (by rfl) 39 _ rfl wr.heap.size 0 rfl [.int .i64 (kid k).d.k, .int .i64 (kid k).d.op, .slice (kid k).d.v.a (kid k).d.v.len (kid k).d.v.cap, .int .i64 (kid k).d.t.t.k, .slice (kid k).d.t.t.a (kid k).d.t.t.len (kid k).d.t.t.cap, .int .i64 (kid k).d.t.t.n, .int .i64 (kid k).d.t.t.s, .slice (kid k).d.ka (kid k).d.n (kid k).d.kc] _ (fun w' hw' => hw'.2.2.range 0 _ rfl) Try.underlying39 rfl (by kernel_rfl)) hHeld ?_
          try simp only [Act.put, List.setIfInBounds_toArray, List.set_cons_zero, List.set_cons_succ]
          refine wpAnyH_ready (rs := [3]) (by kernel_rfl) (by simp) ?_
          refine AllReadyH.cons rfl (fun K hK => ?_) AllReadyH.nil
          go_simp
          refine (placeBelow_any p q _ hp0 hp1).mono ?_
          rintro e z1 ⟨rfl, hb1⟩
          have HC3 : Hid (CS w0 w z1 g Lr [.int .i64 p, .int .i64 q, .int .i64 d.k, .int .i64 d.op, .slice d.v.a d.v.len d.v.cap, .int .i64 d.t.t.k, .slice d.t.t.a d.t.t.len d.t.t.cap, .int .i64 d.t.t.n, .int .i64 d.t.t.s, .slice d.ka d.n d.kc]) := HCw.out.below HCw.out.bl.size hb1
          have HBz : Hid (Box z1 wr.heap.size [.int .i64 (kid k).d.k, .int .i64 (kid k).d.op, .slice (kid k).d.v.a (kid k).d.v.len (kid k).d.v.cap, .int .i64 (kid k).d.t.t.k, .slice (kid k).d.t.t.a (kid k).d.t.t.len (kid k).d.t.t.cap, .int .i64 (kid k).d.t.t.n, .int .i64 (kid k).d.t.t.s, .slice (kid k).d.ka (kid k).d.n (kid k).d.kc]) := HBk.out.below hb1
          clear hb1
          go_wp2_with fail
          refine hK.out _ _ ?_ (fun hHeld => ?_)
          · exact ⟨HC3.out.bl, HC3.out.bx, HBz.out⟩
          clear hK K
          try simp only [Act.put, List.setIfInBounds_toArray, List.set_cons_zero, List.set_cons_succ]
          refine takeq (i := 5) 31 (v := ?v4) rfl rfl (by kernel_rfl) (by kernel_rfl) (by kernel_rfl) (fun _ _ _ h => h) (Or.inl ⟨by rfl, ?y4⟩) hHeld ?r4
          case y4 => (intro w' hSw; skip; go_simp; (try with_reducible rfl))
          try simp only [Act.put, List.setIfInBounds_toArray, List.set_cons_zero, List.set_cons_succ]
          refine wpAnyH_ready (rs := [6]) (by kernel_rfl) (by simp) ?_
          refine AllReadyH.cons rfl (fun K hK => ?_) AllReadyH.nil
          go_simp
          refine (HIH.out k (by rw [← HNN.out]; exact hlk) Lr z1 HC3.out.bl HC3.out.ct hLr0 hLr1 hpq).mono ?_
          rintro e w5 ⟨q5, L5, rfl, hq5, hL5, hc5, hp5⟩
          have HC5 : Hid (CS w0 w w5 g L5 [.int .i64 p, .int .i64 q, .int .i64 d.k, .int .i64 d.op, .slice d.v.a d.v.len d.v.cap, .int .i64 d.t.t.k, .slice d.t.t.a d.t.t.len d.t.t.cap, .int .i64 d.t.t.n, .int .i64 d.t.t.s, .slice d.ka d.n d.kc]) := HC3.out.past hg hgw hp5 hc5
          have HB5 : Hid (Box w5 wr.heap.size [.int .i64 (kid k).d.k, .int .i64 (kid k).d.op, .slice (kid k).d.v.a (kid k).d.v.len (kid k).d.v.cap, .int .i64 (kid k).d.t.t.k, .slice (kid k).d.t.t.a (kid k).d.t.t.len (kid k).d.t.t.cap, .int .i64 (kid k).d.t.t.n, .int .i64 (kid k).d.t.t.s, .slice (kid k).d.ka (kid k).d.n (kid k).d.kc]) := HBz.out.past hp5 hwne
          clear hc5 hp5
          go_wp2_with fail
          refine hK.out _ _ ?_ (fun hHeld => ?_)
          · exact ⟨HC5.out.bl, HC5.out.bx, HB5.out⟩
          clear hK K
          try simp only [Act.put, List.setIfInBounds_toArray, List.set_cons_zero, List.set_cons_succ]
          refine takeq (i := 7) 33 (v := ?v5) rfl rfl (by kernel_rfl) (by kernel_rfl) (by kernel_rfl) (fun _ _ _ h => h) (Or.inl ⟨by rfl, ?y5⟩) hHeld ?r5
          case y5 => (intro w' hSw; skip; go_simp; (try with_reducible rfl))
          try simp only [Act.put, List.setIfInBounds_toArray, List.set_cons_zero, List.set_cons_succ]
          refine wpAnyH_done (by kernel_rfl) ?_ _
          clear hHeld HBk HBz HB5 HC3 HCw HCr
          have HS : Hid (sumN (k + 1) (fun i => esz (kid i)) = sumN k (fun i => esz (kid i)) + esz (kid k)) := rfl
          cases q5 with
          | false =>
            have HNO : Hid (¬ (eOk q (.mk d kid) p ∧ ((esz (.mk d kid) : Nat) : Int) ≤ L)) := fun hh => by
              have h1 := hh.1.2.2 k (by rw [← HNN.out]; exact hlk)
              have h2 := HSZ.out
              have h3 := sumN_mono (f := (fun i => esz (kid i))) (show k + 1 ≤ d.n by rw [← HNN.out]; omega)
              have h4 := HLR.out
              have h5 := HS.out
              have h6 := hh.2
              have h7 := hq5.2 ⟨h1, by omega⟩
              cases h7
            clear hq5 hL5
            go_wp2_with fail
            go_ret
            exact CtrAns.no HNO.out HC5.out.ct HC5.out.pa
          | true =>
            obtain ⟨h51, h52⟩ := hq5.1 rfl
            have h53 := hL5 rfl
            have HN5 : Hid (eOk q (kid k) (p + 1)) := h51
            have HL5 : Hid (L5 = L - 1 - (sumN (k + 1) (fun i => esz (kid i)) : Nat)) := (show L5 = _ by have h1 := HS.out; have h2 := HLR.out; omega)
            have hL50 : 0 ≤ L5 := by omega
            have hL51 : L5 ≤ 100000 := by omega
            clear h51 h52 h53 hq5 hL5
            go_wp2_with fail
            go_roundw
            case rel =>
              refine ⟨k + 1, L5, by omega, by go_num, hL50, hL51, HL5, fun j hj => ?_, HC5⟩
              by_cases e : j = k
              · subst e
                exact HN5.out
              · exact HOKS.out j (by omega)
            case measure => simp [intOf]; omega
end Go.Proofs.Ytpgbhkkdbkecoaa
