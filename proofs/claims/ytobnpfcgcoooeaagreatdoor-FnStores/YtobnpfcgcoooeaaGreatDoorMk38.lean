/- Texts put together: StqI StqL StwC StwD -/
import Derived.Test.YtobnpfcgcoooeaaGreatDoorMk12
import Derived.Test.YtobnpfcgcoooeaaGreatDoorMk14
import Derived.Test.YtobnpfcgcoooeaaGreatDoorMk37
import Derived.Test.YtobnpfcgcoooeaaGreatDoorMk13
import Derived.Test.YtobnpfcgcoooeaaGreatDoorMk06
/- StqI -/
namespace Go.Proofs.YtobnpfcgcoooeaaGreatDoor
open Go.RowKit Go.Deep
set_option maxRecDepth 100000

/-- Lists of rows, read. -/
theorem Orders.read {w : World} {B : Nat} {v : Value} {rows : List (Int × Int × Int)} {k : Nat} {vs : List Value} (h : Orders w B v rows k vs) (hk : 0 < k) : ∃ a cap rbs, v = .slice a k cap ∧ SRow w a rbs ∧ rbs.length = k ∧ (∀ i x, rbs[i]? = some x → RRow w x.a x.l ∧ RowsOf i rows x.l) := by
  have hh : ∀ i, ∃ x : RB, i < k → vs[i]? = some (.slice x.a x.l.length x.cap) ∧ RRow w x.a x.l ∧ RowsOf i rows x.l := by
    intro i
    by_cases hi : i < k
    · obtain ⟨y, hy⟩ : ∃ y, vs[i]? = some y := ⟨_, List.getElem?_eq_getElem (by rw [h.len]; exact hi)⟩
      obtain ⟨l, h1, h2, h3⟩ := h.row i y hy
      obtain ⟨a, c, rfl, hr, _⟩ := h1.form
      exact ⟨⟨a, c, l⟩, fun _ => ⟨hy, hr, ⟨h2, h3⟩⟩⟩
    · exact ⟨⟨none, 0, []⟩, fun h => absurd h hi⟩
  obtain ⟨F, hF⟩ := Classical.axiomOfChoice hh
  have hget : ∀ i x, ((List.range k).map F)[i]? = some x → i < k ∧ x = F i := by
    intro i x hx
    rw [List.getElem?_map] at hx
    obtain ⟨j, hj, rfl⟩ := Option.map_eq_some_iff.1 hx
    obtain ⟨h1, h2⟩ := List.getElem?_eq_some_iff.1 hj
    simp at h1 h2
    exact ⟨h1, by rw [h2]⟩
  rcases h.own.1.2 with ⟨_, h0⟩ | ⟨g, cap, cur, hv, hB, hc, hle, _, hsz, htk⟩
  · have := h.len
    omega
  · rw [h.len] at hv
    refine ⟨_, cap, (List.range k).map F, hv, .inr ⟨g, 0, rfl, ?_, fun i x hx => ?_⟩, by simp, fun i x hx => ?_⟩
    · exact (h.own.2 g (by rw [hv]; rfl)).2
    · obtain ⟨hi, rfl⟩ := hget i x hx
      have h1 := (hF i hi).1
      rw [← htk, List.getElem?_take, if_pos (by rw [h.len]; omega)] at h1
      rw [Nat.zero_add]
      simp only [World.cell?, hc]
      simpa using h1
    · obtain ⟨hi, rfl⟩ := hget i x hx
      exact (hF i hi).2
theorem Row3c.but {w w' : World} {b g : Nat} {v0 v1 v2 : Value} (h : Row3c w b v0 v1 v2) (hb : But g w w') (hne : b ≠ g) : Row3c w' b v0 v1 v2 := by
  obtain ⟨h0, h1, h2, h3⟩ := h
  exact ⟨by rw [hb.size]; exact h0, (hb.cell (p := ⟨b, 0, none⟩) hne).trans h1, (hb.cell (p := ⟨b, 1, none⟩) hne).trans h2, (hb.cell (p := ⟨b, 2, none⟩) hne).trans h3⟩
end Go.Proofs.YtobnpfcgcoooeaaGreatDoor

/- StqL -/
namespace Go.Proofs.YtobnpfcgcoooeaaGreatDoor
open Go.RowKit Go.Deep
set_option maxRecDepth 100000

/-- A store behind two slices. -/
structure SArg (w : World) (aT : Option Addr) (tb : List TB) (aR : Option Addr) (rbs : List RB) : Prop where
  trow : TRow w aT tb
  ttxt : TTxt w tb
  fit : ∀ x ∈ tb, x.t.fits
  tlen : tb.length ≤ 1048576
  srow : SRow w aR rbs
  hold : SHold w rbs
  rlen : rbs.length ≤ 1048576
theorem SArg.below {w w' : World} {aT : Option Addr} {tb : List TB} {aR : Option Addr} {rbs : List RB} (h : SArg w aT tb aR rbs) (hb : Below w.heap.size w w') : SArg w' aT tb aR rbs :=
  ⟨h.trow.below hb, h.ttxt.below hb, h.fit, h.tlen, h.srow.below hb, h.hold.below hb, h.rlen⟩
theorem SArg.byt {w : World} {aT : Option Addr} {tb : List TB} {aR : Option Addr} {rbs : List RB} (h : SArg w aT tb aR rbs) : ∀ x ∈ tb, Byt x.b := fun x hx => (h.ttxt x hx).byt

theorem tbAt_mem {tb : List TB} {z : Int} (h : 1 ≤ z ∧ z ≤ tb.length) : tbAt tb z ∈ tb := by
  unfold tbAt
  rw [List.getElem?_eq_getElem (show (z - 1).toNat < tb.length by omega)]
  exact List.getElem_mem _
theorem r3At_in {tb : List TB} {l : List (Int × Int × Int)} (h : ∀ r ∈ l, inR tb.length r) {i : Nat} (hi : i < l.length) : inR tb.length (r3At l i) := by
  unfold r3At
  rw [List.getElem?_eq_getElem hi]
  exact h _ (List.getElem_mem _)
theorem s_fit {tb : List TB} {l : List (Int × Int × Int)} (hf : ∀ x ∈ tb, x.t.fits) (h : ∀ r ∈ l, inR tb.length r) : AllFit l.length (sT tb l) (sU tb l) (sV tb l) :=
  fun _ hi => ⟨hf _ (tbAt_mem (r3At_in h hi).1), hf _ (tbAt_mem (r3At_in h hi).2.1), hf _ (tbAt_mem (r3At_in h hi).2.2)⟩
theorem s_texts {w : World} {tb : List TB} {l : List (Int × Int × Int)} (ht : TTxt w tb) (h : ∀ r ∈ l, inR tb.length r) : Texts w l.length (sT tb l) (sbt tb l) ∧ Texts w l.length (sU tb l) (sbu tb l) ∧ Texts w l.length (sV tb l) (sbv tb l) :=
  ⟨fun _ hi => ht _ (tbAt_mem (r3At_in h hi).1), fun _ hi => ht _ (tbAt_mem (r3At_in h hi).2.1), fun _ hi => ht _ (tbAt_mem (r3At_in h hi).2.2)⟩
theorem row0_map {rbs : List RB} {x : RB} (h : rbs[0]? = some x) : row0 (rbs.map RB.l) = x.l := by
  unfold row0
  rw [List.getElem?_map, h]
  rfl
/-- Two lists of six are the same where each is. -/
theorem rows_iff {p q : List RB} (h : q.length = 6) (hp : p.length = 6) : p.map RB.l = q.map RB.l ↔ ∀ (k : Nat) l, (q.map RB.l)[k]? = some l → ((p[k]?).map RB.l).getD [] = l := by
  constructor
  · intro e k l hl
    rw [← e, List.getElem?_map] at hl
    rw [hl]
    rfl
  · intro hh
    refine lists_eq_of (by simp [h, hp]) fun i x y hx hy => ?_
    have := hh i y hy
    rw [List.getElem?_map] at hx
    rw [hx] at this
    exact this

set_option maxHeartbeats 4000000 in
theorem implStoreOk_not6 (aT aR : Option Addr) (nT capT nR capR : Nat) (w : World) (h6 : nR ≠ 6) :
    Calls Tryz.prog 7 #[.agg #[.slice aT nT capT, .slice aR nR capR]] w fun e w' => e = .returned (.bool false) ∧ Below w.heap.size w w' := by
  have hG := fun W => graphOf_not6 aT aR nT capT nR capR W h6
  clear h6
  go_enter Tryz.func7, Tryz.ntmps7
  go_wp2_with fail
  refine (hG _).mono ?_
  rintro e w1 ⟨rfl, hb1⟩
  have HB1 : Hid (Below w.heap.size w w1) := bl_trans (bl_a _) hb1
  clear hG hb1
  go_wp2
  go_ret
  exact ⟨rfl, bl_alloc HB1.out _⟩

set_option maxHeartbeats 8000000 in
theorem implStoreOk_six (aT aR : Option Addr) (nT capT capR : Nat) (tb : List TB) (rbs : List RB) (x0 : RB) (n : Nat) (w : World) (h : SArg w aT tb aR rbs) (h6 : rbs.length = 6) (hx0 : rbs[0]? = some x0) (hnT : nT = tb.length) (hn0 : n = x0.l.length) (ht : Tab w) :
    Calls Tryz.prog 7 #[.agg #[.slice aT nT capT, .slice aR 6 capR]] w fun e w' => ∃ q, e = .returned (.bool q) ∧ (q = true ↔ Good tb (rbs.map RB.l)) ∧ Below w.heap.size w w' := by
  have HSA : Hid (SArg w aT tb aR rbs) := h
  have HNT : Hid (nT = tb.length) := hnT
  have HN0 : Hid (n = x0.l.length) := hn0
  have HR0 : Hid (row0 (rbs.map RB.l) = x0.l) := row0_map hx0
  have H6 : Hid (rbs.length = 6) := h6
  have HTab : Hid (Tab w) := ht
  have hnT' : nT ≤ 1048576 := by rw [hnT]; exact h.tlen
  have hx0m := List.mem_of_getElem? hx0
  have hn : n ≤ 1048576 := by rw [hn0]; exact (h.hold x0 hx0m).2
  have hne : rbs ≠ [] := by
    intro e
    rw [e] at h6
    simp at h6
  obtain ⟨bR, oR, rfl, hbR, hcR⟩ := h.srow.resolve_left hne
  have hc0 := hcR 0 x0 hx0
  rw [← hn0, Nat.add_zero] at hc0
  have hG := fun o => graphOf_six aT (some ⟨bR, oR, none⟩) capT capR tb x0.l x0.a x0.cap (w.alloc o) nT n hnT hn0 hnT' hn (h.trow.below (bl_a o)) ((h.hold x0 hx0m).1.below (bl_a o)) bR oR rfl (by simp; omega) (((bl_a o).cell (p := ⟨bR, oR, none⟩) hbR).trans hc0)
  have HSO0 : Hid (∀ W a cap, Below w.heap.size w W → Rows W a n (sT tb x0.l) (sU tb x0.l) (sV tb x0.l) → (∀ r ∈ x0.l, inR tb.length r) → sOk tb x0.l = false → Calls Tryz.prog 5 #[.agg #[.slice a n cap]] W fun e w' => e = .returned (.tuple #[.agg #[.slice none 0 0, .slice none 0 0], .bool false]) ∧ Below W.heap.size W w') := by
    intro W a cap hW hRr hin hok
    have hsa := h.below hW
    obtain ⟨t1, t2, t3⟩ := s_texts hsa.ttxt hin
    have hf := s_fit hsa.fit hin
    rw [← hn0] at t1 t2 t3 hf
    unfold sOk at hok
    rw [← hn0] at hok
    exact implStoreOf_no a n cap _ _ _ _ _ _ W hn hf hRr t1 t2 t3 hok
  have HSO1 : Hid (∀ W a cap, Below w.heap.size w W → Rows W a n (sT tb x0.l) (sU tb x0.l) (sV tb x0.l) → (∀ r ∈ x0.l, inR tb.length r) → sOk tb x0.l = true → Calls Tryz.prog 5 #[.agg #[.slice a n cap]] W (StoreRes W n (sT tb x0.l) (sU tb x0.l) (sV tb x0.l) (sbt tb x0.l) (sbu tb x0.l) (sbv tb x0.l))) := by
    intro W a cap hW hRr hin hok
    have hsa := h.below hW
    obtain ⟨t1, t2, t3⟩ := s_texts hsa.ttxt hin
    have hf := s_fit hsa.fit hin
    rw [← hn0] at t1 t2 t3 hf
    unfold sOk at hok
    rw [← hn0] at hok
    exact implStoreOf_yes a n cap _ _ _ _ _ _ W hf hRr t1 t2 t3 hok (ht.below hW)
  clear h h6 hx0 hnT hn0 ht hx0m hne hc0 hcR
  go_enter Tryz.func7, Tryz.ntmps7
  go_wp2_with fail
  refine (hG _).mono ?_
  intro e w1 hres
  rcases hres with ⟨a1, cap1, rfl, hin, hrw, hb1⟩ | ⟨rfl, hnin, hb1⟩
  rotate_left
  · have HB1 : Hid (Below w.heap.size w w1) := bl_trans (bl_a _) hb1
    have HNI : Hid (¬ ∀ r ∈ x0.l, inR tb.length r) := hnin
    clear hG hb1 hnin
    go_wp2
    go_ret
    refine ⟨false, rfl, ⟨fun h => (by cases h), fun h => absurd ?_ HNI.out⟩, bl_alloc HB1.out _⟩
    have := h.rng
    rw [HR0.out] at this
    exact this
  · have HB1a : Hid (Below (w.heap.size + 1) (w.alloc (.cells #[.slice aT nT capT, .slice (some ⟨bR, oR, none⟩) 6 capR] 30)) w1) := (show Below _ _ _ by simpa using hb1)
    have HB1 : Hid (Below w.heap.size w w1) := bl_trans (bl_a _) hb1
    have HIN : Hid (∀ r ∈ x0.l, inR tb.length r) := hin
    have HRW : Hid (Rows w1 a1 n (sT tb x0.l) (sU tb x0.l) (sV tb x0.l)) := hrw
    clear hG hb1 hin hrw
    by_cases hok : sOk tb x0.l = true
    rotate_left
    · have hok' : sOk tb x0.l = false := by simpa using hok
      have HOK : Hid (¬ sOk tb x0.l = true) := hok
      have hS := fun o => HSO0.out (w1.alloc o) a1 cap1 (bl_alloc HB1.out o) (HRW.out.below (bl_a o)) HIN.out hok'
      clear hok hok'
      go_wp2_with fail
      refine (hS _).mono ?_
      rintro e w2 ⟨rfl, hb2⟩
      have HB2 : Hid (Below w.heap.size w w2) := bl_trans (bl_alloc HB1.out _) hb2
      clear hS hb2
      go_wp2
      go_ret
      refine ⟨false, rfl, ⟨fun h => (by cases h), fun h => absurd ?_ HOK.out⟩, bl_alloc HB2.out _⟩
      have := h.grf
      rw [HR0.out] at this
      exact this
    · have HOK : Hid (sOk tb x0.l = true) := hok
      have hS := fun o => HSO1.out (w1.alloc o) a1 cap1 (bl_alloc HB1.out o) (HRW.out.below (bl_a o)) HIN.out hok
      clear hok
      go_wp2_with fail
      refine (hS _).mono ?_
      rintro e w2 ⟨vT2, vR2, r, vs, B', B2, rfl, hOT, hTM, hrl, hb2, hOY, _, _, _, _, _, hOR⟩
      obtain ⟨aT2, cT2, rfl, hTR, _⟩ := hOT.form
      obtain ⟨aR2, cR2, rb2, rfl, hSR, hl2, hrb2⟩ := hOR.read (by omega)
      have HB2b : Hid (Below w1.heap.size w1 w2) := bl_trans (bl_a _) hb2
      have HB2 : Hid (Below w.heap.size w w2) := bl_trans (bl_alloc HB1.out _) hb2
      have HTM : Hid (TermsOf (allT (sT tb x0.l) (sU tb x0.l) (sV tb x0.l) (sbt tb x0.l) (sbu tb x0.l) (sbv tb x0.l) n) (r.map TB.td)) := hTM
      have HTR : Hid (TRow w2 aT2 r ∧ TTxt w2 r ∧ r.length ≤ 1048576) := ⟨hTR, fun y hy => (hOY y hy).2.2, by have := (sAll_good HSA.out.byt HOK.out).1; have := HN0.out; omega⟩
      have HRD : Hid (SRow w2 aR2 rb2 ∧ rb2.length = 6 ∧ ∀ i x, rb2[i]? = some x → RRow w2 x.a x.l ∧ RowsOf i (gRows (r.map TB.td) (sT tb x0.l) (sU tb x0.l) (sV tb x0.l) (sbt tb x0.l) (sbu tb x0.l) (sbv tb x0.l) n) x.l) := ⟨hSR, hl2, hrb2⟩
      obtain ⟨nr, hnr⟩ : ∃ nr, nr = r.length := ⟨_, rfl⟩
      have HNR : Hid (nr = r.length) := hnr
      rw [← hnr]
      have hbx : ∀ W, Below w2.heap.size w2 W → W.cell? ⟨w.heap.size, 0, none⟩ = some (.slice aT nT capT) ∧ W.cell? ⟨w.heap.size, 1, none⟩ = some (.slice (some ⟨bR, oR, none⟩) 6 capR) := by
        intro W hW
        have hs1 : w.heap.size + 1 ≤ w1.heap.size := by have := HB1a.out.size; simpa using this
        have hall : Below (w.heap.size + 1) (w.alloc (.cells #[.slice aT nT capT, .slice (some ⟨bR, oR, none⟩) 6 capR] 30)) W := (HB1a.out.trans (HB2b.out.mono (by omega))).trans (hW.mono (by have := HB2b.out.size; omega))
        exact ⟨(hall.cell (p := ⟨w.heap.size, 0, none⟩) (Nat.lt_succ_self _)).trans (by simp [go_sem]), (hall.cell (p := ⟨w.heap.size, 1, none⟩) (Nat.lt_succ_self _)).trans (by simp [go_sem])⟩
      have b0 := fun o => (hbx (w2.alloc o) (bl_a o)).1
      have HBX : Hid (∀ W, Below w2.heap.size w2 W → W.cell? ⟨w.heap.size, 0, none⟩ = some (.slice aT nT capT) ∧ W.cell? ⟨w.heap.size, 1, none⟩ = some (.slice (some ⟨bR, oR, none⟩) 6 capR)) := hbx
      have HRG : Hid (∀ x ∈ r, x.good) := fun y hy => by
        have h1 := (HTM.out.mem y.td).1 (List.mem_map_of_mem (f := TB.td) hy)
        have h2 := (sAll_good HSA.out.byt HOK.out).2
        rw [← HN0.out] at h2
        exact allT_good h2 _ h1
      have hET := fun o => equalTerms_any aT2 aT cT2 capT r tb (w2.alloc o) HTR.out.2.2 HSA.out.tlen (HTR.out.1.below (bl_a o)) (HSA.out.trow.below (bl_alloc HB2.out o)) (HTR.out.2.1.below (bl_a o)) (HSA.out.ttxt.below (bl_alloc HB2.out o)) HRG.out HSA.out.fit
      rw [← hnr, ← HNT.out] at hET
      have HGI : Hid (Good tb (rbs.map RB.l) ↔ (r.map TB.td = tb.map TB.td ∧ rb2.map RB.l = rbs.map RB.l)) := by
        have hgi := good_iff (tb := tb) (rs := rbs.map RB.l) (r := r.map TB.td) (R := fun k => ((rb2[k]?).map RB.l).getD []) HSA.out.byt (by rw [List.length_map]; exact H6.out) (by rw [HR0.out]; exact HIN.out) (by rw [HR0.out]; exact HOK.out) (by rw [HR0.out]; unfold sAll; rw [← HN0.out]; exact HTM.out) (fun k hk => by
          rw [HR0.out]
          unfold sRows
          rw [← HN0.out]
          obtain ⟨y, hy⟩ : ∃ y, rb2[k]? = some y := ⟨_, List.getElem?_eq_getElem (by rw [HRD.out.2.1]; exact hk)⟩
          rw [hy]
          exact (HRD.out.2.2 k y hy).2)
        rw [hgi, rows_iff H6.out HRD.out.2.1]
        exact Iff.rfl
      clear hS hb2 hOT hTM hrl hOY hOR hTR hSR hl2 hrb2 hnr hbx HSO0 HSO1
      go_wp2_with fail
      refine (hET _).mono ?_
      rintro e w3 ⟨q1, rfl, hq1, hb3⟩
      have HQ1 : Hid (q1 = true ↔ r.map TB.td = tb.map TB.td) := hq1
      have HB3a : Hid (Below w2.heap.size w2 w3) := bl_trans (bl_a _) hb3
      have HB3 : Hid (Below w.heap.size w w3) := bl_trans (bl_alloc HB2.out _) hb3
      have HB3c : Hid (Below (w2.heap.size + 1) (w2.alloc (.cells #[.slice aT2 nr cT2, .slice aR2 6 cR2] 30)) w3) := (show Below _ _ _ by simpa using hb3)
      clear hET hq1 hb3 b0
      cases q1 with
      | false =>
        go_wp2
        go_ret
        refine ⟨false, rfl, ⟨fun h => (by cases h), fun h => ?_⟩, HB3.out⟩
        have := HQ1.out.2 (HGI.out.1 h).1
        simp at this
      | true =>
        have b1 := (HBX.out w3 HB3a.out).2
        have b2 : w3.cell? ⟨w2.heap.size, 1, none⟩ = some (.slice aR2 6 cR2) := (HB3c.out.cell (p := ⟨w2.heap.size, 1, none⟩) (Nat.lt_succ_self _)).trans (by simp [go_sem])
        have hER := equalRowss_any aR2 (some ⟨bR, oR, none⟩) cR2 capR rb2 rbs w3 (by rw [HRD.out.2.1]; omega) HSA.out.rlen (HRD.out.1.below HB3a.out) (HSA.out.srow.below HB3.out) (fun y hy => by
          obtain ⟨i, hi, rfl⟩ := List.mem_iff_getElem.1 hy
          have h1 := HRD.out.2.2 i _ (List.getElem?_eq_getElem hi)
          refine ⟨h1.1.below HB3a.out, ?_⟩
          rw [h1.2.perm.length_eq, gRows_len]
          exact hn) (HSA.out.hold.below HB3.out)
        rw [HRD.out.2.1, H6.out] at hER
        obtain ⟨q2, hq2⟩ : ∃ q2, q2 = decide (rb2.map RB.l = rbs.map RB.l) := ⟨_, rfl⟩
        have HQ2 : Hid (q2 = decide (rb2.map RB.l = rbs.map RB.l)) := hq2
        rw [← hq2] at hER
        clear hq2
        go_wp2_with fail
        refine hER.mono ?_
        rintro e w4 ⟨rfl, hb4⟩
        have HB4 : Hid (Below w.heap.size w w4) := bl_trans HB3.out hb4
        clear hER hb4 b1 b2
        go_wp2
        go_ret
        refine ⟨q2, rfl, ?_, HB4.out⟩
        rw [HGI.out]
        constructor
        · intro h
          exact ⟨HQ1.out.1 (by simp), of_decide_eq_true (by rw [← HQ2.out]; exact h)⟩
        · intro h
          rw [HQ2.out]
          exact decide_eq_true h.2
/-- The program's StoreOk tells whether a store may be. -/
theorem implStoreOk_any (aT aR : Option Addr) (capT capR : Nat) (tb : List TB) (rbs : List RB) (w : World) (h : SArg w aT tb aR rbs) (ht : Tab w) :
    Calls Tryz.prog 7 #[.agg #[.slice aT tb.length capT, .slice aR rbs.length capR]] w fun e w' => ∃ q, e = .returned (.bool q) ∧ (q = true ↔ Good tb (rbs.map RB.l)) ∧ Below w.heap.size w w' := by
  by_cases h6 : rbs.length = 6
  · obtain ⟨x0, hx0⟩ : ∃ x0, rbs[0]? = some x0 := ⟨_, List.getElem?_eq_getElem (by omega)⟩
    have := implStoreOk_six aT aR tb.length capT capR tb rbs x0 x0.l.length w h h6 hx0 rfl rfl ht
    rw [h6]
    exact this
  · refine (implStoreOk_not6 aT aR tb.length capT rbs.length capR w h6).mono ?_
    rintro e w' ⟨rfl, hb⟩
    refine ⟨false, rfl, ⟨fun h => (by cases h), fun h => absurd ?_ h6⟩, hb⟩
    have := h.six
    rw [List.length_map] at this
    exact this
end Go.Proofs.YtobnpfcgcoooeaaGreatDoor

/- StwC -/
namespace Go.Proofs.YtobnpfcgcoooeaaGreatDoor
open Go.RowKit Go.Deep
set_option maxRecDepth 100000

theorem ownsRow_upper {w w' : World} {B : Nat} {T : TypeId} {c : Nat} {v : Value} {n : Nat} {l : List Value} (h : w.ownsRow B T c v n l) {H : Nat} (hl : ∀ g, v.ownBlock = some g → g < H) (hu : ∀ b, B ≤ b → b < H → w'.heap[b]? = w.heap[b]?) : w'.ownsRow B T c v n l := by
  obtain ⟨h1, h2⟩ := h
  refine ⟨h1, ?_⟩
  rcases h2 with h2 | ⟨g', cap', cur, hv, hB, hh, r⟩
  · exact .inl h2
  · refine .inr ⟨g', cap', cur, hv, hB, ?_, r⟩
    rw [hu g' hB (hl g' (by rw [hv]; rfl))]
    exact hh
theorem ownsRow_base {w : World} {B B' : Nat} {T : TypeId} {c : Nat} {v : Value} {n : Nat} {l : List Value} (h : w.ownsRow B' T c v n l) (hB : B ≤ B') : w.ownsRow B T c v n l := by
  obtain ⟨h1, h2⟩ := h
  refine ⟨h1, ?_⟩
  rcases h2 with h2 | ⟨g', cap', cur, hv, hb, r⟩
  · exact .inl h2
  · exact .inr ⟨g', cap', cur, hv, Nat.le_trans hB hb, r⟩
/-- A row of the call's own has its cells, which may be written. -/
theorem ownsRow_cells {w : World} {B : Nat} {T : TypeId} {c g n cap : Nat} {l : List Value} (h : w.ownsRow B T c (.slice (some ⟨g, 0, none⟩) n cap) n l) : (∀ j u, l[j]? = some u → w.cell? ⟨g, j, none⟩ = some u) ∧ ∀ j, w.frozen? ⟨g, j, none⟩ = false := by
  obtain ⟨h1, h2⟩ := h
  rcases h2 with ⟨h2, _⟩ | ⟨g', cap', cur, hv, hB, hh, _, _, hsz, htk⟩
  · cases h2
  · cases hv
    refine ⟨fun j u hu => ?_, fun j => by simp [World.frozen?, hh]⟩
    have hj := (List.getElem?_eq_some_iff.1 hu).1
    rw [← htk, List.getElem?_take, if_pos (by rw [h1] at hj; exact hj)] at hu
    simp only [World.cell?, hh]
    simpa using hu

/-- A text of the call's own stays, where its block does. -/
theorem OwnY.upperH {w w' : World} {B H : Nat} {a : Option Addr} {len cap : Nat} {bs : List Int} (h : OwnY w B a len cap bs) (hl : ∀ p, a = some p → p.block < H) (hu : ∀ b, B ≤ b → b < H → w'.heap[b]? = w.heap[b]?) (hs : w.heap.size ≤ w'.heap.size) : OwnY w' B a len cap bs := by
  obtain ⟨h1, h3, ⟨b1, b2, b3, b4⟩⟩ := h
  refine ⟨ownsRow_upper (H := H) h1 (fun g hg => ?_) hu, fun ad ha => ⟨(h3 ad ha).1, Nat.lt_of_lt_of_le (h3 ad ha).2 hs⟩, ⟨b1, b2, b3, ?_⟩⟩
  · cases a with
    | none => cases hg
    | some p => have := hl p rfl; cases hg; exact this
  · rcases b4 with b4 | ⟨b, off, rfl, hbl, hcc⟩
    · exact .inl b4
    · refine .inr ⟨b, off, rfl, Nat.lt_of_lt_of_le hbl hs, fun i hi => ?_⟩
      rw [World.cell?_of_block (w := w) (a := ⟨b, off + i, none⟩) (hu b (h3 _ rfl).1 (hl _ rfl))]
      exact hcc i hi

/-- A store that a call has made: each list in a block of its own, from C on, below H. -/
structure OS (w : World) (C H : Nat) (vT vR : Value) (r : List TB) (rbs : List RB) : Prop where
  ot : OwnTR w C vT r
  oy : ∀ y ∈ r, OwnY w C y.t.a y.t.len y.t.cap y.b
  pw : r.Pairwise (fun x y => ∀ p q, x.t.a = some p → y.t.a = some q → p.block < q.block)
  ty : ∀ y ∈ r, ∀ p, y.t.a = some p → vT.ownBlock ≠ some p.block
  ov : OwnV w C vR (rbs.map RB.v)
  rr : ∀ x ∈ rbs, OwnRR w C x.v x.l
  rd : ∀ x ∈ rbs, ∀ g, x.v.ownBlock = some g → vR.ownBlock ≠ some g
  rp : rbs.Pairwise (fun x y => ∀ p q, x.v.ownBlock = some p → y.v.ownBlock = some q → p < q)
  tv : ∀ g, vR.ownBlock = some g → vT.ownBlock ≠ some g ∧ ∀ y ∈ r, ∀ p, y.t.a = some p → p.block ≠ g
  tr : ∀ x ∈ rbs, ∀ g, x.v.ownBlock = some g → vT.ownBlock ≠ some g ∧ ∀ y ∈ r, ∀ p, y.t.a = some p → p.block ≠ g
  gd : ∀ y ∈ r, y.good
  nr : r.length ≤ 180
  ns : rbs.length ≤ 6
  nl : ∀ x ∈ rbs, x.l.length ≤ 60
  h1 : ∀ g, vT.ownBlock = some g → g < H
  h2 : ∀ y ∈ r, ∀ p, y.t.a = some p → p.block < H
  h3 : ∀ g, vR.ownBlock = some g → g < H
  h4 : ∀ x ∈ rbs, ∀ g, x.v.ownBlock = some g → g < H
  hh : C ≤ H ∧ H ≤ w.heap.size
theorem OS.upper {w w' : World} {C H : Nat} {vT vR : Value} {r : List TB} {rbs : List RB} (h : OS w C H vT vR r rbs) (hs : w.heap.size ≤ w'.heap.size) (hu : ∀ b, C ≤ b → b < H → w'.heap[b]? = w.heap[b]?) : OS w' C H vT vR r rbs := by
  refine ⟨⟨ownsRow_upper h.ot.1 h.h1 hu, fun g hg => ⟨(h.ot.2 g hg).1, Nat.lt_of_lt_of_le (h.ot.2 g hg).2 hs⟩⟩, fun y hy => (h.oy y hy).upperH (h.h2 y hy) hu hs, h.pw, h.ty,
    ⟨ownsRow_upper h.ov.1 h.h3 hu, fun g hg => ⟨(h.ov.2 g hg).1, Nat.lt_of_lt_of_le (h.ov.2 g hg).2 hs⟩⟩,
    fun x hx => ⟨ownsRow_upper (h.rr x hx).1 (h.h4 x hx) hu, fun g hg => ⟨((h.rr x hx).2 g hg).1, Nat.lt_of_lt_of_le ((h.rr x hx).2 g hg).2 hs⟩⟩, h.rd, h.rp, h.tv, h.tr, h.gd, h.nr, h.ns, h.nl, h.h1, h.h2, h.h3, h.h4, h.hh.1, Nat.le_trans h.hh.2 hs⟩
theorem OS.below {w w' : World} {C H : Nat} {vT vR : Value} {r : List TB} {rbs : List RB} (h : OS w C H vT vR r rbs) (hb : Below w.heap.size w w') : OS w' C H vT vR r rbs := h.upper hb.size (fun b _ hb' => hb.block b (Nat.lt_of_lt_of_le hb' h.hh.2))
theorem OS.nil {w : World} {C : Nat} (hC : C ≤ w.heap.size) : OS w C w.heap.size (.slice none 0 0) (.slice none 0 0) [] [] := by
  refine ⟨OwnTR.nil _ _, ?_, .nil, ?_, OwnV.nil _ _, ?_, ?_, .nil, ?_, ?_, ?_, by simp, by simp, ?_, ?_, ?_, ?_, ?_, hC, Nat.le_refl _⟩
  all_goals first | (intro y hy; cases hy) | (intro g hg; cases hg)

theorem OS.arg {w : World} {C H : Nat} {vT vR : Value} {r : List TB} {rbs : List RB} (h : OS w C H vT vR r rbs) : ∃ aT capT aR capR, vT = .slice aT r.length capT ∧ vR = .slice aR rbs.length capR ∧ SArg w aT r aR rbs := by
  obtain ⟨aT, capT, hvT, hT, _⟩ := h.ot.form
  have hh : SHold w rbs := fun x hx => by
    obtain ⟨a, cap, hv, hr, _⟩ := (h.rr x hx).form
    have := h.nl x hx
    simp only [RB.v, Value.slice.injEq] at hv
    exact ⟨by rw [hv.1]; exact hr, by omega⟩
  have hn := h.nr
  have hs := h.ns
  have hfit : ∀ y ∈ r, y.t.fits := fun y hy => fits_of_ok (TB.ok (h.gd y hy))
  rcases h.ov.1.2 with ⟨rfl, h0⟩ | ⟨g, cap, cur, hv, hB, hc, hle, _, hsz, htk⟩
  · have h0 : rbs = [] := by simpa using h0
    subst h0
    exact ⟨aT, capT, none, 0, hvT, rfl, hT, fun y hy => (h.oy y hy).2.2, hfit, by omega, .inl rfl, hh, by simp⟩
  · refine ⟨aT, capT, some ⟨g, 0, none⟩, cap, hvT, by simpa using hv, hT, fun y hy => (h.oy y hy).2.2, hfit, by omega, .inr ⟨g, 0, rfl, (h.ov.2 g (by rw [hv]; rfl)).2, fun i x hx => ?_⟩, hh, by omega⟩
    have hown := h.ov.1
    rw [hv] at hown
    rw [Nat.zero_add]
    exact (ownsRow_cells hown).1 i _ (by rw [List.getElem?_map, hx]; rfl)

/-- Of a list: where its i-th text lies, and how long it is. -/
def tA (r : List TB) (i : Nat) : Option Addr := match r[i]? with | some x => x.t.a | none => none
def tL (r : List TB) (i : Nat) : Nat := match r[i]? with | some x => x.t.len | none => 0
def tC (r : List TB) (i : Nat) : Nat := match r[i]? with | some x => x.t.cap | none => 0
def rA (l : List RB) (i : Nat) : Option Addr := match l[i]? with | some x => x.a | none => none
def rL (l : List RB) (i : Nat) : Nat := match l[i]? with | some x => x.l.length | none => 0
def rC (l : List RB) (i : Nat) : Nat := match l[i]? with | some x => x.cap | none => 0
theorem tAt {r : List TB} {i : Nat} (hi : i < r.length) : ∃ x, r[i]? = some x ∧ x ∈ r ∧ tA r i = x.t.a ∧ tL r i = x.t.len ∧ tC r i = x.t.cap := by
  have e : r[i]? = some r[i] := List.getElem?_eq_getElem hi
  exact ⟨_, e, List.getElem_mem hi, by simp [tA, e], by simp [tL, e], by simp [tC, e]⟩
theorem rAt {r : List RB} {i : Nat} (hi : i < r.length) : ∃ x, r[i]? = some x ∧ x ∈ r ∧ rA r i = x.a ∧ rL r i = x.l.length ∧ rC r i = x.cap := by
  have e : r[i]? = some r[i] := List.getElem?_eq_getElem hi
  exact ⟨_, e, List.getElem_mem hi, by simp [rA, e], by simp [rL, e], by simp [rC, e]⟩
theorem termOk_len {k n s : Int} {bs : List Int} (h : termOk k bs n s = true) : bs.length ≤ 30 := by
  unfold termOk nameOk textOk at h
  split at h
  · simp at h; first | omega | simp_all
  · split at h
    · simp at h; first | omega | simp_all
    · split at h
      · simp at h; first | omega | simp_all
      · split at h
        · simp at h; first | omega | simp_all
        · cases h

theorem OwnY.tx {w : World} {C : Nat} {a : Option Addr} {len cap : Nat} {bs : List Int} (h : OwnY w C a len cap bs) : TxW w a len := by
  obtain ⟨h1, h2, h3⟩ := h
  refine ⟨h3.2.1, ?_⟩
  rcases h1.2 with ⟨hv, h0⟩ | ⟨g, c, cur, hv, hB, hh, _⟩
  · exact .inl h0
  · have ea : a = some ⟨g, 0, none⟩ := by simp only [Value.slice.injEq] at hv; exact hv.1
    subst ea
    refine .inr ⟨g, rfl, (h2 _ rfl).2, fun i hi => ?_⟩
    obtain ⟨hc, hf⟩ := ownsRow_cells h1
    have hl : bs.length = len := h3.1
    have e : (bs.map (Value.int .u8))[i]? = some (.int .u8 bs[i]) := by rw [List.getElem?_map, List.getElem?_eq_getElem (by omega)]; rfl
    exact ⟨⟨_, hc i _ e⟩, hf i⟩

theorem RB.own {x : RB} {p : Addr} (h : x.a = some p) : x.v.ownBlock = some p.block := by simp [RB.v, h, Value.ownBlock]

theorem OS.tlen {w : World} {C H : Nat} {vT vR : Value} {r : List TB} {rbs : List RB} (h : OS w C H vT vR r rbs) (i : Nat) (hi : i < r.length) : tL r i ≤ 30 := by
  obtain ⟨x, _, hm, _, e2, _⟩ := tAt hi
  have h1 := termOk_len (TB.ok (h.gd x hm))
  have h2 : x.b.length = x.t.len := (h.oy x hm).2.2.1
  omega
theorem OS.rlen {w : World} {C H : Nat} {vT vR : Value} {r : List TB} {rbs : List RB} (h : OS w C H vT vR r rbs) (i : Nat) (hi : i < rbs.length) : rL rbs i ≤ 60 := by
  obtain ⟨x, _, hm, _, e2, _⟩ := rAt hi
  rw [e2]
  exact h.nl x hm
end Go.Proofs.YtobnpfcgcoooeaaGreatDoor

/- StwD -/
namespace Go.Proofs.YtobnpfcgcoooeaaGreatDoor
open Go.RowKit Go.Deep
set_option maxRecDepth 100000

/-- Its terms are marked; its rows are marked from k on. -/
def MHT (w : World) (a : Option Addr) (r : List TB) : Prop := r.length = 0 ∨ ∃ g, a = some ⟨g, 0, none⟩ ∧ g < w.heap.size ∧ ∀ i, i < r.length → MdT w g (tA r) (tL r) (tC r) (posT (tL r) 1 i) i
def MHR (w : World) (a : Option Addr) (rbs : List RB) (k : Int) : Prop := rbs.length = 0 ∨ ∃ g, a = some ⟨g, 0, none⟩ ∧ g < w.heap.size ∧ (∀ i, i < rbs.length → w.cell? ⟨g, i, none⟩ = some (.slice (rA rbs i) (rL rbs i) (rC rbs i))) ∧ ∀ i, i < rbs.length → MdR w (rA rbs i) (rL rbs i) (posR (rL rbs) k i)
theorem MHT.below {w w' : World} {a : Option Addr} {r : List TB} (h : MHT w a r) (hb : Below w.heap.size w w') : MHT w' a r := by
  rcases h with h | ⟨g, ha, hg, hm⟩
  · exact .inl h
  · exact .inr ⟨g, ha, Nat.lt_of_lt_of_le hg hb.size, fun i hi => (hm i hi).below hg hb⟩
theorem MHR.below {w w' : World} {a : Option Addr} {rbs : List RB} {k : Int} (h : MHR w a rbs k) (hb : Below w.heap.size w w') : MHR w' a rbs k := by
  rcases h with h | ⟨g, ha, hg, hc, hm⟩
  · exact .inl h
  · exact .inr ⟨g, ha, Nat.lt_of_lt_of_le hg hb.size, fun i hi => (hb.cell (p := ⟨g, i, none⟩) hg).trans (hc i hi), fun i hi => (hm i hi).below hb⟩

theorem Mid.trans {B C : Nat} {w w1 w2 : World} (h : Mid B C w w1) (k : Mid B C w1 w2) : Mid B C w w2 :=
  ⟨k.os.trans h.os, k.tape.trans h.tape, k.output.trans h.output, k.size.trans h.size, fun b hb => (k.block b hb).trans (h.block b hb)⟩

end Go.Proofs.YtobnpfcgcoooeaaGreatDoor
