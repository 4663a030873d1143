/- Texts put together: StqM -/
import Derived.Test.YtdcaicoomldmgaaGreatDoorMk38
import Derived.Test.YtdcaicoomldmgaaGreatDoorMk39
import Derived.Test.YtdcaicoomldmgaaGreatDoorMk41
/- StqM -/
namespace Go.Proofs.YtdcaicoomldmgaaGreatDoor
open Go.RowKit Go.Deep
set_option maxRecDepth 100000

theorem l3store_all (a : Option Addr) (n cap : Nat) (T U V : Nat → Tm) (bt bu bv : Nat → List Int) (w : World) (hn : n ≤ 60) (hR : Rows w a n T U V) (hg : ∀ y, InG n T U V bt bu bv y → y.good ∧ Bs w y.t.a y.t.len y.b) :
    Calls Tryz.prog 35 #[.agg #[.slice a n cap]] w (L3Store w n T U V bt bu bv) := by
  by_cases h0 : n = 0
  · subst h0
    exact l3store_nil a cap T U V bt bu bv w
  · exact l3store_any a n cap T U V bt bu bv w hn hR h0 hg

/-- What l3graph answers of a store that came in. -/
theorem l3graph_any (aT aR : Option Addr) (capT capR : Nat) (tb : List TB) (rbs : List RB) (w : World) (h : SArg w aT tb aR rbs) :
    Calls Tryz.prog 65 #[.agg #[.slice aT tb.length capT, .slice aR rbs.length capR]] w (L3Res w tb (row0 (rbs.map RB.l)) (rbs.length = 6)) := by
  by_cases h6 : rbs.length = 6
  · obtain ⟨x0, hx0⟩ : ∃ x0, rbs[0]? = some x0 := ⟨_, List.getElem?_eq_getElem (by omega)⟩
    have hm := List.mem_of_getElem? hx0
    have hne : rbs ≠ [] := by
      intro e
      rw [e] at h6
      simp at h6
    obtain ⟨bR, oR, rfl, hbR, hcR⟩ := h.srow.resolve_left hne
    have hc0 := hcR 0 x0 hx0
    rw [Nat.add_zero] at hc0
    have e : L3Res w tb (row0 (rbs.map RB.l)) (rbs.length = 6) = L3Res w tb x0.l True := by
      rw [row0_map hx0, eq_true h6]
    rw [e, h6]
    by_cases hn : x0.l.length ≤ 60
    · exact l3graph_six aT _ capT capR tb x0.l x0.a x0.cap w tb.length x0.l.length rfl rfl h.tlen hn h.trow h.ttxt h.fit (h.hold x0 hm).1 bR oR rfl hbR hc0
    · exact l3graph_long aT _ capT capR tb x0.l x0.a x0.cap w tb.length x0.l.length rfl (by omega) (h.hold x0 hm).2 bR oR rfl hbR hc0
  · have e : L3Res w tb (row0 (rbs.map RB.l)) (rbs.length = 6) = L3Res w tb (row0 (rbs.map RB.l)) False := by
      rw [eq_false h6]
    rw [e]
    exact l3graph_not6 aT aR tb.length capT rbs.length capR tb _ w h6

set_option maxHeartbeats 16000000 in
theorem specStoreOk_any (aT aR : Option Addr) (capT capR : Nat) (tb : List TB) (rbs : List RB) (w : World) (h : SArg w aT tb aR rbs) :
    Calls Tryz.prog 31 #[.agg #[.slice aT tb.length capT, .slice aR rbs.length capR]] w fun e w' => ∃ q, e = .returned (.bool q) ∧ (q = true ↔ Good tb (rbs.map RB.l)) ∧ Below w.heap.size w w' := by
  have HSA : Hid (SArg w aT tb aR rbs) := h
  have hG := fun o => l3graph_any aT aR capT capR tb rbs (w.alloc o) (h.below (bl_a o))
  obtain ⟨l0, hl0⟩ : ∃ l0, l0 = row0 (rbs.map RB.l) := ⟨_, rfl⟩
  have HL0 : Hid (l0 = row0 (rbs.map RB.l)) := hl0
  rw [← hl0] at hG
  obtain ⟨nT, hnT⟩ : ∃ nT, nT = tb.length := ⟨_, rfl⟩
  have HNT : Hid (nT = tb.length) := hnT
  have hnT' : nT ≤ 1048576 := by rw [hnT]; exact h.tlen
  obtain ⟨nR, hnR⟩ : ∃ nR, nR = rbs.length := ⟨_, rfl⟩
  have HNR0 : Hid (nR = rbs.length) := hnR
  rw [← hnT, ← hnR] at hG ⊢
  clear h hl0 hnT hnR
  go_enter Tryz.func31, Tryz.ntmps31
  go_wp2_with fail
  refine (hG _).mono ?_
  rintro e w1 ⟨a1, m1, cap1, q, rfl, hq1, hq2, hb1⟩
  have HB1 : Hid (Below w.heap.size w w1) := bl_trans (bl_a _) hb1
  have HB1a : Hid (Below (w.heap.size + 1) (w.alloc (.cells #[.slice aT nT capT, .slice aR nR capR] 29)) w1) := (show Below _ _ _ by simpa using hb1)
  have HQ2 : Hid (q = true ↔ (nR = 6 ∧ (∀ x ∈ tb, x.td.ok = true) ∧ (∀ r ∈ l0, inR tb.length r) ∧ sOk tb l0 = true)) := hq2
  have HQ1 : Hid (q = true → m1 = l0.length ∧ Rows w1 a1 m1 (sT tb l0) (sU tb l0) (sV tb l0)) := hq1
  clear hG hb1 hq2 hq1
  cases q with
  | false =>
    go_wp2
    go_ret
    refine ⟨false, rfl, ⟨fun h => (by cases h), fun h => ?_⟩, bl_alloc HB1.out _⟩
    have := HQ2.out.2 ⟨by rw [HNR0.out]; have := h.six; rw [List.length_map] at this; exact this, fun x hx => (h.terms HSA.out.byt x hx).1, by rw [HL0.out]; exact h.rng, by rw [HL0.out]; exact h.grf⟩
    simp at this
  | true =>
    obtain ⟨h6, hok, hin, hsk⟩ := HQ2.out.1 (by simp)
    obtain ⟨hm1, hrw⟩ := HQ1.out (by simp)
    subst h6
    have HOK : Hid (∀ x ∈ tb, x.td.ok = true) := hok
    have HIN : Hid (∀ r ∈ l0, inR tb.length r) := hin
    have HSK : Hid (sOk tb l0 = true) := hsk
    have HM1 : Hid (m1 = l0.length) := hm1
    have hn60 : m1 ≤ 60 := by rw [hm1]; exact (sAll_good HSA.out.byt hsk).1
    obtain ⟨x0, hx0⟩ : ∃ x0, rbs[0]? = some x0 := ⟨_, List.getElem?_eq_getElem (by have := HNR0.out; omega)⟩
    have hne : rbs ≠ [] := by
      intro e
      rw [e] at hx0
      simp at hx0
    obtain ⟨bR, oR, haR, hbR, hcR⟩ := HSA.out.srow.resolve_left hne
    subst haR
    have HCR : Hid (∀ i x, rbs[i]? = some x → w.cell? ⟨bR, oR + i, none⟩ = some (.slice x.a x.l.length x.cap)) := hcR
    have HGD : Hid (∀ y, InG m1 (sT tb l0) (sU tb l0) (sV tb l0) (sbt tb l0) (sbu tb l0) (sbv tb l0) y → y.good ∧ Bs w1 y.t.a y.t.len y.b) := by
      intro y hy
      refine ⟨?_, ?_⟩
      · have := (sAll_good HSA.out.byt hsk).2 y
        rw [← hm1] at this
        exact this hy
      · obtain ⟨t1, t2, t3⟩ := s_texts (HSA.out.below HB1.out).ttxt hin
        rw [← hm1] at t1 t2 t3
        obtain ⟨jj, hj, hy⟩ := hy
        rcases hy with rfl | rfl | rfl
        · exact t1 jj hj
        · exact t2 jj hj
        · exact t3 jj hj
    have hS := fun o => l3store_all a1 m1 cap1 (sT tb l0) (sU tb l0) (sV tb l0) (sbt tb l0) (sbu tb l0) (sbv tb l0) (w1.alloc o) hn60 (hrw.below (bl_a o)) (fun y hy => ⟨(HGD.out y hy).1, (HGD.out y hy).2.below (bl_a o)⟩)
    clear hok hin hsk hm1 hrw hcR hne hx0
    go_wp2_with fail
    refine (hS _).mono ?_
    rintro e w2 ⟨aT2, cT2, aR2, cR2, r, rb2, rfl, hTR, hTT, hTM, hrl, hl2, hSR, hrb2, hb2⟩
    have HB2 : Hid (Below w.heap.size w w2) := bl_trans (bl_alloc HB1.out _) hb2
    have HB2b : Hid (Below w1.heap.size w1 w2) := bl_trans (bl_a _) hb2
    have hne2 : rb2 ≠ [] := by
      intro e
      rw [e] at hl2
      simp at hl2
    obtain ⟨bX, oX, haX, hbX, hcX⟩ := hSR.resolve_left hne2
    subst haX
    have HCX : Hid (∀ i x, rb2[i]? = some x → w2.cell? ⟨bX, oX + i, none⟩ = some (.slice x.a x.l.length x.cap)) := hcX
    have HTM : Hid (TermsOf (allT (sT tb l0) (sU tb l0) (sV tb l0) (sbt tb l0) (sbu tb l0) (sbv tb l0) m1) (r.map TB.td)) := hTM
    have HTR : Hid (TRow w2 aT2 r ∧ TTxt w2 r ∧ r.length ≤ 1048576) := ⟨hTR, hTT, by omega⟩
    have HL2 : Hid (rb2.length = 6) := hl2
    have HRD : Hid (∀ i x, rb2[i]? = some x → RRow w2 x.a x.l ∧ RowsOf i (gRows (r.map TB.td) (sT tb l0) (sU tb l0) (sV tb l0) (sbt tb l0) (sbu tb l0) (sbv tb l0) m1) x.l) := hrb2
    obtain ⟨nr, hnr⟩ : ∃ nr, nr = r.length := ⟨_, rfl⟩
    have HNR : Hid (nr = r.length) := hnr
    have hnr' : nr ≤ 180 := by omega
    rw [← hnr]
    obtain ⟨w3, hw3⟩ : ∃ w3, w3 = w2.alloc (.cells #[.slice aT2 nr cT2, .slice (some ⟨bX, oX, none⟩) 6 cR2] 29) := ⟨_, rfl⟩
    have HW3 : Hid (w3 = w2.alloc (.cells #[.slice aT2 nr cT2, .slice (some ⟨bX, oX, none⟩) 6 cR2] 29)) := hw3
    have HB3 : Hid (Below w2.heap.size w2 w3) := by rw [hw3]; exact bl_a _
    have HB3w : Hid (Below w.heap.size w w3) := bl_trans HB2.out HB3.out
    have hs3 : w3.heap.size = w2.heap.size + 1 := by rw [hw3]; simp
    have hs1 : w.heap.size + 1 ≤ w1.heap.size := by have := HB1a.out.size; simpa using this
    have hs2 : w1.heap.size ≤ w2.heap.size := HB2b.out.size
    have HBX : Hid (∀ W, Below w3.heap.size w3 W → W.cell? ⟨w.heap.size, 0, none⟩ = some (.slice aT nT capT) ∧ W.cell? ⟨w.heap.size, 1, none⟩ = some (.slice (some ⟨bR, oR, none⟩) 6 capR) ∧ W.cell? ⟨w2.heap.size, 0, none⟩ = some (.slice aT2 nr cT2) ∧ W.cell? ⟨w2.heap.size, 1, none⟩ = some (.slice (some ⟨bX, oX, none⟩) 6 cR2)) := by
      intro W hW
      have hall : Below (w.heap.size + 1) (w.alloc (.cells #[.slice aT nT capT, .slice (some ⟨bR, oR, none⟩) 6 capR] 29)) W := ((HB1a.out.trans (HB2b.out.mono hs1)).trans (HB3.out.mono (by omega))).trans (hW.mono (by omega))
      refine ⟨(hall.cell (p := ⟨w.heap.size, 0, none⟩) (Nat.lt_succ_self _)).trans (by simp [go_sem]), (hall.cell (p := ⟨w.heap.size, 1, none⟩) (Nat.lt_succ_self _)).trans (by simp [go_sem]), ?_, ?_⟩
      · rw [hW.cell (p := ⟨w2.heap.size, 0, none⟩) (by show w2.heap.size < _; omega), hw3]
        simp [go_sem]
      · rw [hW.cell (p := ⟨w2.heap.size, 1, none⟩) (by show w2.heap.size < _; omega), hw3]
        simp [go_sem]
    have HRG : Hid (∀ x ∈ r, x.good) := fun y hy => by
      have h1 := (HTM.out.mem y.td).1 (List.mem_map_of_mem (f := TB.td) hy)
      exact allT_good (fun z hz => (HGD.out z hz).1) _ h1
    have HTG : Hid (∀ x ∈ tb, x.good) := fun x hx => ⟨HOK.out x hx, HSA.out.byt x hx⟩
    have HGI : Hid (Good tb (rbs.map RB.l) ↔ (r.map TB.td = tb.map TB.td ∧ rb2.map RB.l = rbs.map RB.l)) := by
      have hgi := good_iff (tb := tb) (rs := rbs.map RB.l) (r := r.map TB.td) (R := fun k => ((rb2[k]?).map RB.l).getD []) HSA.out.byt (by rw [List.length_map]; exact HNR0.out.symm) (by rw [← HL0.out]; exact HIN.out) (by rw [← HL0.out]; exact HSK.out) (by rw [← HL0.out]; unfold sAll; rw [← HM1.out]; exact HTM.out) (fun k hk => by
        rw [← HL0.out]
        unfold sRows
        rw [← HM1.out]
        obtain ⟨y, hy⟩ : ∃ y, rb2[k]? = some y := ⟨_, List.getElem?_eq_getElem (by rw [HL2.out]; exact hk)⟩
        rw [hy]
        exact (HRD.out k y hy).2)
      rw [hgi, rows_iff HNR0.out.symm HL2.out]
      exact Iff.rfl
    obtain ⟨c0, c1, c2, c3⟩ := HBX.out w3 (Below.refl _ _)
    rw [hw3] at c0 c2
    clear hS hb2 hTR hTT hTM hrl hl2 hSR hrb2 hnr hcX hne2 hw3 c1 c3
    by_cases hlen : nr = nT
    rotate_left
    · have hlz : ((nr : Int) == (nT : Int)) = false := by simp; omega
      have HLN : Hid (¬ nr = nT) := hlen
      go_wp2
      go_ret
      refine ⟨false, rfl, ⟨fun h => (by cases h), fun h => ?_⟩, ?_⟩
      · have h1 := congrArg List.length (HGI.out.1 h).1
        rw [List.length_map, List.length_map, ← HNR.out, ← HNT.out] at h1
        exact absurd h1 HLN.out
      · have := HB3w.out
        rw [HW3.out] at this
        exact this
    · subst hlen
      go_wp2
      rw [← HW3.out]
      clear c0 c2
      go_loopw [6] (fun s6 wr => ∃ i : Nat, i ≤ nr ∧ s6 = .int .i64 i ∧ Hid (∀ j x y, j < i → r[j]? = some x → tb[j]? = some y → x.td = y.td) ∧ Hid (Below w3.heap.size w3 wr))
        (fun s6 _ => nr - (intOf s6).toNat)
      case atStart => exact ⟨0, Nat.zero_le _, rfl, fun j x y hj => by omega, Below.refl _ _⟩
      case round =>
        obtain ⟨i, hi, rfl, HE, HB⟩ := hrel
        have hbx0 := (HBX.out wr HB.out).2.2.1
        by_cases hli : i < nr
        · have hil : i < r.length := by rw [← HNR.out]; exact hli
          have him : i < tb.length := by rw [← HNT.out]; exact hli
          obtain ⟨x, hx⟩ : ∃ x, x = r[i] := ⟨_, rfl⟩
          obtain ⟨y, hy⟩ : ∃ y, y = tb[i] := ⟨_, rfl⟩
          have HX : Hid (r[i]? = some x) := (show r[i]? = some x by rw [hx]; exact List.getElem?_eq_getElem hil)
          have HY : Hid (tb[i]? = some y) := (show tb[i]? = some y by rw [hy]; exact List.getElem?_eq_getElem him)
          have hr0 : r ≠ [] := by
            intro e
            rw [e] at hil
            simp at hil
          have ht0 : tb ≠ [] := by
            intro e
            rw [e] at him
            simp at him
          obtain ⟨b1, o1, ha1, hlt1, hc1⟩ := HTR.out.1.resolve_left hr0
          obtain ⟨b2, o2, ha2, hlt2, hc2⟩ := HSA.out.trow.resolve_left ht0
          subst ha1 ha2
          have hbl := fun d os => bl_trans HB.out (bl_regrown (w := wr) d os)
          have hcx := fun d os => TRow.at (l := r) (b := b1) (off := o1) (w := (Go.Sort.grow (redrawn wr d) os)) (fun j u hu => ((bl_trans HB3.out (hbl d os)).cell (p := ⟨b1, o1 + j, none⟩) hlt1).trans (hc1 j u hu)) i hil
          have hcy := fun d os => TRow.at (l := tb) (b := b2) (off := o2) (w := (Go.Sort.grow (redrawn wr d) os)) (fun j u hu => ((bl_trans HB3w.out (hbl d os)).cell (p := ⟨b2, o2 + j, none⟩) hlt2).trans (hc2 j u hu)) i him
          rw [← hx] at hcx
          rw [← hy] at hcy
          have a1 := fun d os => (hcx d os).1
          have a2 := fun d os => (hcx d os).2.1
          have a3 := fun d os => (hcx d os).2.2.1
          have a4 := fun d os => (hcx d os).2.2.2
          have e1 := fun d os => (hcy d os).1
          have e2 := fun d os => (hcy d os).2.1
          have e3 := fun d os => (hcy d os).2.2.1
          have e4 := fun d os => (hcy d os).2.2.2
          have p1 := fun d os => (HBX.out _ (hbl d os)).1
          have p2 := fun d os => (HBX.out _ (hbl d os)).2.2.1
          have hxm := List.mem_of_getElem? HX.out
          have hym := List.mem_of_getElem? HY.out
          have C := fun d os => Calls.regrown_of (l1compare_tb x y (Go.Sort.grow (redrawn wr d) os) (HRG.out x hxm) (HTG.out y hym) ((HTR.out.2.1 x hxm).below (bl_trans HB3.out (hbl d os))) ((HSA.out.ttxt y hym).below (bl_trans HB3w.out (hbl d os))))
          have HZZ : Hid (x.td.cmp y.td = 0 ↔ x.td = y.td) := ⟨fun h => ordP_cmp.2 x.td y.td (HRG.out x hxm) (HTG.out y hym) h, fun h => by rw [h]; exact ord_cmp.self _⟩
          clear hcx hcy hx hy hbl hxm hym hc1 hc2
          have hliz : (i : Int) < (nr : Int) := by omega
          go_wp2_with fail
          refine wp_region_quiet_below (by kernel_rfl) (by kernel_rfl) ?_
          quiet_step (fail)
          quiet_step (fail)
          quiet_step (fail)
          quiet_step (fail)
          quiet_step (fail)
          quiet_step (fail)
          quiet_step (fail)
          quiet_step (fail)
          quiet_step (fail)
          quiet_step (fail)
          quiet_step (exact C _ _)
          quiet_step (fail)
          refine wpQuiet_nil ?_
          intro _ hw'
          obtain ⟨⟨dq, osq⟩, hw''⟩ := hw'
          subst hw''
          have HBq : Hid (Below w3.heap.size w3 (Go.Sort.grow (redrawn wr dq) osq)) := bl_trans HB.out (bl_regrown (w := wr) dq osq)
          dsimp only
          generalize Go.Sort.grow (redrawn wr dq) osq = wq at *
          clear a1 a2 a3 a4 e1 e2 e3 e4 p1 p2 C hbx0
          by_cases hz : x.td.cmp y.td = 0
          · have hz' : (x.td.cmp y.td == 0) = true := by simp [hz]
            have HZ : Hid (x.td = y.td) := HZZ.out.1 hz
            clear hz
            go_wp2_with fail
            go_roundw
            case rel =>
              refine ⟨i + 1, by omega, by go_num, fun j x' y' hj hx hy => ?_, HBq⟩
              by_cases e : j = i
              · subst e
                have h1 := HX.out
                have h2 := HY.out
                rw [h1] at hx
                rw [h2] at hy
                rw [← Option.some.inj hx, ← Option.some.inj hy]
                exact HZ.out
              · exact HE.out j x' y' (by omega) hx hy
            case measure => simp [intOf]; omega
          · have hz' : (x.td.cmp y.td == 0) = false := by simp [hz]
            have HZ : Hid (¬ x.td = y.td) := fun e => hz (HZZ.out.2 e)
            clear hz
            go_wp2_with fail
            go_ret
            refine ⟨false, rfl, ⟨fun h => (by cases h), fun h => ?_⟩, bl_trans HB3w.out HBq.out⟩
            refine absurd (HGI.out.1 h).1 (lists_ne_at (k := i) (x := x.td) (y := y.td) (by rw [List.getElem?_map, HX.out]; rfl) (by rw [List.getElem?_map, HY.out]; rfl) HZ.out)
        · obtain rfl : nr = i := by omega
          have HTE : Hid (r.map TB.td = tb.map TB.td) := by
            refine lists_eq_of (by rw [List.length_map, List.length_map, ← HNR.out, ← HNT.out]) fun j x y hx hy => ?_
            rw [List.getElem?_map] at hx hy
            obtain ⟨x', hx', rfl⟩ := Option.map_eq_some_iff.1 hx
            obtain ⟨y', hy', rfl⟩ := Option.map_eq_some_iff.1 hy
            refine HE.out j x' y' ?_ hx' hy'
            have := (List.getElem?_eq_some_iff.1 hx').1
            rw [HNR.out]
            exact this
          have HBL : Hid (Below w3.heap.size w3 wr) := HB
          have hliz : ¬ (nr : Int) < (nr : Int) := by omega
          clear HE HB
          go_wp2
          go_loopw [7] (fun s7 wr => ∃ k : Nat, k ≤ 6 ∧ s7 = .int .i64 k ∧ Hid (∀ j p q, j < k → rb2[j]? = some p → rbs[j]? = some q → p.l = q.l) ∧ Hid (Below w3.heap.size w3 wr))
            (fun s7 _ => 6 - (intOf s7).toNat)
          case atStart => exact ⟨0, Nat.zero_le _, rfl, fun j x y hj => by omega, HBL⟩
          case round =>
            obtain ⟨k, hk, rfl, HE, HB⟩ := hrel
            clear HBL hbx0
            by_cases hlk : k < 6
            · have hlkz : (k : Int) < 6 := by omega
              obtain ⟨p, hp⟩ : ∃ p, rb2[k]? = some p := ⟨_, List.getElem?_eq_getElem (by rw [HL2.out]; exact hlk)⟩
              obtain ⟨q, hq⟩ : ∃ q, rbs[k]? = some q := ⟨_, List.getElem?_eq_getElem (by rw [← HNR0.out]; exact hlk)⟩
              have HP : Hid (rb2[k]? = some p) := hp
              have HQ : Hid (rbs[k]? = some q) := hq
              have HSL : Hid (∀ W, Below w3.heap.size w3 W → W.cell? ⟨bX, oX + k, none⟩ = some (.slice p.a p.l.length p.cap) ∧ W.cell? ⟨bR, oR + k, none⟩ = some (.slice q.a q.l.length q.cap)) := fun W hW => ⟨((bl_trans HB3.out hW).cell (p := ⟨bX, oX + k, none⟩) hbX).trans (HCX.out k p hp), ((bl_trans HB3w.out hW).cell (p := ⟨bR, oR + k, none⟩) hbR).trans (HCR.out k q hq)⟩
              have hbl := fun d os => bl_trans HB.out (bl_regrown (w := wr) d os)
              have f1 := fun d os => (HBX.out _ (hbl d os)).2.1
              have f2 := fun d os => (HBX.out _ (hbl d os)).2.2.2
              have f3 := fun d os => (HSL.out _ (hbl d os)).1
              have f4 := fun d os => (HSL.out _ (hbl d os)).2
              have hpm : p.l.length ≤ 60 := by
                have h1 := (HRD.out k p hp).2.perm.length_eq
                rw [gRows_len] at h1
                omega
              have hqm : q.l.length ≤ 1048576 := (HSA.out.hold q (List.mem_of_getElem? hq)).2
              obtain ⟨np, hnp⟩ : ∃ np, np = p.l.length := ⟨_, rfl⟩
              obtain ⟨nq, hnq⟩ : ∃ nq, nq = q.l.length := ⟨_, rfl⟩
              have HNP : Hid (np = p.l.length) := hnp
              have HNQ : Hid (nq = q.l.length) := hnq
              rw [← hnp] at hpm f3 HSL
              rw [← hnq] at hqm f4 HSL
              clear hp hq hbl hnp hnq
              by_cases hln : nq = np
              rotate_left
              · have hlz : ((nq : Int) == (np : Int)) = false := by simp; omega
                have hlz2 : ¬ (nq : Int) = (np : Int) := by omega
                have HLN : Hid (¬ nq = np) := hln
                go_wp2_with fail
                refine wp_region_quiet_below (by kernel_rfl) (by kernel_rfl) ?_
                quiet_step (fail)
                quiet_step (fail)
                quiet_step (fail)
                quiet_step (fail)
                quiet_step (fail)
                quiet_step (fail)
                quiet_step (fail)
                quiet_step (fail)
                quiet_step (fail)
                quiet_step (fail)
                quiet_step (fail)
                quiet_step (fail)
                quiet_step (fail)
                refine wpQuiet_nil ?_
                intro _ hw'
                obtain ⟨⟨dq, osq⟩, hw''⟩ := hw'
                subst hw''
                have HBq : Hid (Below w3.heap.size w3 (Go.Sort.grow (redrawn wr dq) osq)) := bl_trans HB.out (bl_regrown (w := wr) dq osq)
                dsimp only
                generalize Go.Sort.grow (redrawn wr dq) osq = wq at *
                clear f1 f2 f3 f4
                go_wp2_with fail
                go_ret
                refine ⟨false, rfl, ⟨fun h => (by cases h), fun h => ?_⟩, bl_trans HB3w.out HBq.out⟩
                refine absurd (HGI.out.1 h).2 (lists_ne_at (k := k) (x := p.l) (y := q.l) (by rw [List.getElem?_map, HP.out]; rfl) (by rw [List.getElem?_map, HQ.out]; rfl) (fun e => HLN.out ?_))
                rw [HNP.out, HNQ.out, e]
              · subst hln
                go_wp2_with fail
                refine wp_region_quiet_below (by kernel_rfl) (by kernel_rfl) ?_
                quiet_step (fail)
                quiet_step (fail)
                quiet_step (fail)
                quiet_step (fail)
                quiet_step (fail)
                quiet_step (fail)
                quiet_step (fail)
                quiet_step (fail)
                quiet_step (fail)
                quiet_step (fail)
                quiet_step (fail)
                quiet_step (fail)
                quiet_step (fail)
                refine wpQuiet_nil ?_
                intro _ hw'
                obtain ⟨⟨dq, osq⟩, hw''⟩ := hw'
                subst hw''
                have HBq : Hid (Below w3.heap.size w3 (Go.Sort.grow (redrawn wr dq) osq)) := bl_trans HB.out (bl_regrown (w := wr) dq osq)
                dsimp only
                generalize Go.Sort.grow (redrawn wr dq) osq = wq at *
                clear f1 f2 f3 f4
                have HBk : Hid (Below w3.heap.size w3 wq) := HBq
                have hg2 := (HBX.out wq HBq.out).2.2.2
                have hg3 := (HSL.out wq HBq.out).1
                clear HBq HB
                go_wp2_with fail
                go_loopw [8] (fun s8 wr => ∃ i : Nat, i ≤ nq ∧ s8 = .int .i64 i ∧ Hid (∀ j x y, j < i → p.l[j]? = some x → q.l[j]? = some y → x = y) ∧ Hid (Below w3.heap.size w3 wr))
                  (fun s8 _ => nq - (intOf s8).toNat)
                case atStart => exact ⟨0, Nat.zero_le _, rfl, fun j x y hj => by omega, HBk⟩
                case round =>
                  obtain ⟨i, hi, rfl, HF, HB⟩ := hrel
                  clear hg2 hg3
                  have hg2 := (HBX.out wr HB.out).2.2.2
                  have hg3 := (HSL.out wr HB.out).1
                  by_cases hli2 : i < nq
                  · have hli2z : (i : Int) < (nq : Int) := by omega
                    obtain ⟨x, hx⟩ : ∃ x, p.l[i]? = some x := ⟨_, List.getElem?_eq_getElem (by rw [← HNP.out]; exact hli2)⟩
                    obtain ⟨y, hy⟩ : ∃ y, q.l[i]? = some y := ⟨_, List.getElem?_eq_getElem (by rw [← HNQ.out]; exact hli2)⟩
                    have HX : Hid (p.l[i]? = some x) := hx
                    have HY : Hid (q.l[i]? = some y) := hy
                    obtain ⟨b1, o1, ha1, hlt1, hc1⟩ : ∃ b off, p.a = some ⟨b, off, none⟩ ∧ b < w2.heap.size ∧ ∀ j u, (flat3 p.l)[j]? = some u → w2.cell? ⟨b, off + j, none⟩ = some u := by
                      rcases (HRD.out k p HP.out).1 with ⟨_, h⟩ | h
                      · rw [h] at hx
                        simp at hx
                      · exact h
                    obtain ⟨b2, o2, ha2, hlt2, hc2⟩ : ∃ b off, q.a = some ⟨b, off, none⟩ ∧ b < w.heap.size ∧ ∀ j u, (flat3 q.l)[j]? = some u → w.cell? ⟨b, off + j, none⟩ = some u := by
                      rcases (HSA.out.hold q (List.mem_of_getElem? HQ.out)).1 with ⟨_, h⟩ | h
                      · rw [h] at hy
                        simp at hy
                      · exact h
                    have hbl := fun d os => bl_trans HB.out (bl_regrown (w := wr) d os)
                    have hcx := fun d os => RRow.at (l := p.l) (b := b1) (off := o1) (w := (Go.Sort.grow (redrawn wr d) os)) (fun j u hu => ((bl_trans HB3.out (hbl d os)).cell (p := ⟨b1, o1 + j, none⟩) hlt1).trans (hc1 j u hu)) i x hx
                    have hcy := fun d os => RRow.at (l := q.l) (b := b2) (off := o2) (w := (Go.Sort.grow (redrawn wr d) os)) (fun j u hu => ((bl_trans HB3w.out (hbl d os)).cell (p := ⟨b2, o2 + j, none⟩) hlt2).trans (hc2 j u hu)) i y hy
                    have f1 := fun d os => (HBX.out _ (hbl d os)).2.1
                    have f2 := fun d os => (HBX.out _ (hbl d os)).2.2.2
                    have f3 := fun d os => (HSL.out _ (hbl d os)).1
                    have f4 := fun d os => (HSL.out _ (hbl d os)).2
                    rw [ha1] at f3 hg3
                    rw [ha2] at f4
                    have a1 := fun d os => (hcx d os).1
                    have a2 := fun d os => (hcx d os).2.1
                    have a3 := fun d os => (hcx d os).2.2
                    have b1 := fun d os => (hcy d os).1
                    have b2 := fun d os => (hcy d os).2.1
                    have b3 := fun d os => (hcy d os).2.2
                    have p1 : True := trivial
                    have p2 : True := trivial
                    clear hcx hcy hx hy hbl hc1 hc2 ha1 ha2
                    obtain ⟨x1, x2, x3⟩ := x
                    obtain ⟨y1, y2, y3⟩ := y
                    dsimp only at a1 a2 a3 b1 b2 b3
                    by_cases he : (x1, x2, x3) = (y1, y2, y3)
                    · simp only [Prod.mk.injEq] at he
                      obtain ⟨rfl, rfl, rfl⟩ := he
                      go_wp2_with fail
                      refine wp_region_quiet_below (by kernel_rfl) (by kernel_rfl) ?_
                      quiet_step (fail)
                      quiet_step (fail)
                      quiet_step (fail)
                      quiet_step (fail)
                      quiet_step (fail)
                      quiet_step (fail)
                      quiet_step (fail)
                      quiet_step (fail)
                      quiet_step (fail)
                      quiet_step (fail)
                      quiet_step (fail)
                      quiet_step (fail)
                      quiet_step (fail)
                      quiet_step (fail)
                      quiet_step (fail)
                      quiet_step (fail)
                      quiet_step (fail)
                      refine wpQuiet_nil ?_
                      intro _ hw'
                      obtain ⟨⟨dq, osq⟩, hw''⟩ := hw'
                      subst hw''
                      have HBq : Hid (Below w3.heap.size w3 (Go.Sort.grow (redrawn wr dq) osq)) := bl_trans HB.out (bl_regrown (w := wr) dq osq)
                      clear f1 f2 f3 f4 a1 a2 a3 b1 b2 b3 p1 p2
                      dsimp only
                      generalize Go.Sort.grow (redrawn wr dq) osq = wq at *
                      go_wp2_with fail
                      go_roundw
                      case rel =>
                        refine ⟨i + 1, by omega, by go_num, fun j x y hj hx hy => ?_, HBq⟩
                        by_cases e : j = i
                        · subst e
                          have h1 := HX.out
                          have h2 := HY.out
                          rw [h1] at hx
                          rw [h2] at hy
                          exact (Option.some.inj hx).symm.trans (Option.some.inj hy)
                        · exact HF.out j x y (by omega) hx hy
                      case measure => simp [intOf]; omega
                    · have HNE : Hid (¬ p.l = q.l) := lists_ne_at HX.out HY.out he
                      have hcs : ¬ x1 = y1 ∨ (x1 = y1 ∧ ¬ x2 = y2) ∨ (x1 = y1 ∧ x2 = y2 ∧ ¬ x3 = y3) := by
                        simp only [Prod.mk.injEq] at he
                        by_cases c1 : x1 = y1
                        · by_cases c2 : x2 = y2
                          · exact .inr (.inr ⟨c1, c2, fun c3 => he ⟨c1, c2, c3⟩⟩)
                          · exact .inr (.inl ⟨c1, c2⟩)
                        · exact .inl c1
                      clear he
                      rcases hcs with c1 | ⟨c1, c2⟩ | ⟨c1, c2, c3⟩
                      all_goals
                        go_wp2_with fail
                        refine wp_region_quiet_below (by kernel_rfl) (by kernel_rfl) ?_
                        quiet_step (fail)
                        quiet_step (fail)
                        quiet_step (fail)
                        quiet_step (fail)
                        quiet_step (fail)
                        quiet_step (fail)
                        quiet_step (fail)
                        quiet_step (fail)
                        quiet_step (fail)
                        quiet_step (fail)
                        quiet_step (fail)
                        quiet_step (fail)
                        quiet_step (fail)
                        quiet_step (fail)
                        quiet_step (fail)
                        quiet_step (fail)
                        quiet_step (fail)
                        refine wpQuiet_nil ?_
                        intro _ hw'
                        obtain ⟨⟨dq, osq⟩, hw''⟩ := hw'
                        subst hw''
                        have HBq : Hid (Below w3.heap.size w3 (Go.Sort.grow (redrawn wr dq) osq)) := bl_trans HB.out (bl_regrown (w := wr) dq osq)
                        clear f1 f2 f3 f4 a1 a2 a3 b1 b2 b3 p1 p2
                        dsimp only
                        generalize Go.Sort.grow (redrawn wr dq) osq = wq at *
                        go_wp2_with fail
                        go_ret
                        refine ⟨false, rfl, ⟨fun h => (by cases h), fun h => ?_⟩, bl_trans HB3w.out HBq.out⟩
                        exact absurd (HGI.out.1 h).2 (lists_ne_at (k := k) (x := p.l) (y := q.l) (by rw [List.getElem?_map, HP.out]; rfl) (by rw [List.getElem?_map, HQ.out]; rfl) HNE.out)
                  · obtain rfl : nq = i := by omega
                    have hli2z : ¬ (nq : Int) < (nq : Int) := by omega
                    have HPQ : Hid (p.l = q.l) := by
                      refine lists_eq_of (by rw [← HNP.out, ← HNQ.out]) fun j x y hx hy => HF.out j x y ?_ hx hy
                      have := (List.getElem?_eq_some_iff.1 hx).1
                      rw [HNP.out]
                      exact this
                    clear HF
                    go_wp2_with fail
                    go_roundw
                    case rel =>
                      refine ⟨k + 1, by omega, by go_num, fun j p' q' hj hp hq => ?_, HB⟩
                      by_cases e : j = k
                      · subst e
                        have h1 := HP.out
                        have h2 := HQ.out
                        rw [h1] at hp
                        rw [h2] at hq
                        rw [← Option.some.inj hp, ← Option.some.inj hq]
                        exact HPQ.out
                      · exact HE.out j p' q' (by omega) hp hq
                    case measure => simp [intOf]; omega
            · obtain rfl : k = 6 := by omega
              go_wp2_with fail
              go_ret
              refine ⟨true, rfl, ⟨fun _ => HGI.out.2 ⟨HTE.out, ?_⟩, fun _ => rfl⟩, bl_trans HB3w.out HB.out⟩
              refine lists_eq_of (by rw [List.length_map, List.length_map, HL2.out, ← HNR0.out]) fun j x y hx hy => ?_
              rw [List.getElem?_map] at hx hy
              obtain ⟨x', hx', rfl⟩ := Option.map_eq_some_iff.1 hx
              obtain ⟨y', hy', rfl⟩ := Option.map_eq_some_iff.1 hy
              refine HE.out j x' y' ?_ hx' hy'
              have := (List.getElem?_eq_some_iff.1 hx').1
              have := HL2.out
              omega
end Go.Proofs.YtdcaicoomldmgaaGreatDoor
