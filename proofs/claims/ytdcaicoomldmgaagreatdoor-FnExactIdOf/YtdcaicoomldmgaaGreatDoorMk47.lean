/- Texts put together: StvE -/
import Derived.Test.YtdcaicoomldmgaaGreatDoorMk42
import Derived.Test.YtdcaicoomldmgaaGreatDoorMk36
/- StvE -/
namespace Go.Proofs.YtdcaicoomldmgaaGreatDoor
open Go.RowKit Go.Deep Go.Maps
set_option maxRecDepth 100000

/-- What IdOf answers. -/
def IdRes (w : World) (tb : List TB) (rbs : List RB) (x : TB) (e : Ending) (w' : World) : Prop :=
  ∃ r : Int, e = .returned (.int .i64 r) ∧ ((Good tb (rbs.map RB.l) ∧ x.td.ok = true) → r = (idOf (tb.map TB.td) x.td : Nat)) ∧ (¬ (Good tb (rbs.map RB.l) ∧ x.td.ok = true) → r = 0) ∧ Below w.heap.size w w'

set_option maxHeartbeats 4000000 in
theorem specIdOf_any (aT aR : Option Addr) (capT capR : Nat) (tb : List TB) (rbs : List RB) (x : TB) (w : World) (h : SArg w aT tb aR rbs) (hf : x.t.fits) (hx : Bs w x.t.a x.t.len x.b) :
    Calls Tryz.prog 18 #[.agg #[.slice aT tb.length capT, .slice aR rbs.length capR], .agg #[.int .i64 x.t.k, .slice x.t.a x.t.len x.t.cap, .int .i64 x.t.n, .int .i64 x.t.s]] w (IdRes w tb rbs x) := by
  have HSA : Hid (SArg w aT tb aR rbs) := h
  have HXF : Hid (x.t.fits) := hf
  have HXB : Hid (Bs w x.t.a x.t.len x.b) := hx
  obtain ⟨nT, hnT⟩ : ∃ nT, nT = tb.length := ⟨_, rfl⟩
  have HNT : Hid (nT = tb.length) := hnT
  obtain ⟨nR, hnR⟩ : ∃ nR, nR = rbs.length := ⟨_, rfl⟩
  have hS := fun (W : World) (hW : Below w.heap.size w W) => specStoreOk_any aT aR capT capR tb rbs W (h.below hW)
  rw [← hnT, ← hnR] at hS
  rw [← hnT, ← hnR]
  clear h hf hx hnT hnR
  go_enter Tryz.func18, Tryz.ntmps18
  go_wp2_with fail
  refine (hS _ (bl_alloc (bl_a _) _)).mono ?_
  rintro e w1 ⟨q, rfl, hq, hb1⟩
  have HQ : Hid (q = true ↔ Good tb (rbs.map RB.l)) := hq
  have HB1a : Hid (Below (w.heap.size + 1 + 1) ((w.alloc (.cells #[.slice aT nT capT, .slice aR nR capR] 29)).alloc (.cells #[.int .i64 x.t.k, .slice x.t.a x.t.len x.t.cap, .int .i64 x.t.n, .int .i64 x.t.s] 52)) w1) := (show Below _ _ _ by simpa using hb1)
  have HB1 : Hid (Below w.heap.size w w1) := bl_trans (bl_alloc (bl_a _) _) hb1
  have HBX0 : Hid (∀ W, Below w1.heap.size w1 W → W.cell? ⟨w.heap.size, 0, none⟩ = some (.slice aT nT capT) ∧ W.cell? ⟨w.heap.size + 1, 0, none⟩ = some (.int .i64 x.t.k) ∧ W.cell? ⟨w.heap.size + 1, 1, none⟩ = some (.slice x.t.a x.t.len x.t.cap) ∧ W.cell? ⟨w.heap.size + 1, 2, none⟩ = some (.int .i64 x.t.n) ∧ W.cell? ⟨w.heap.size + 1, 3, none⟩ = some (.int .i64 x.t.s)) := by
    intro W hW
    have hs1 : w.heap.size + 1 + 1 ≤ w1.heap.size := by have := HB1a.out.size; simpa using this
    have hall := HB1a.out.trans (hW.mono hs1)
    exact ⟨(hall.cell (p := ⟨w.heap.size, 0, none⟩) (by show w.heap.size < _; omega)).trans (by simp [go_sem]), (hall.cell (p := ⟨w.heap.size + 1, 0, none⟩) (Nat.lt_succ_self _)).trans (by simp [go_sem]), (hall.cell (p := ⟨w.heap.size + 1, 1, none⟩) (Nat.lt_succ_self _)).trans (by simp [go_sem]), (hall.cell (p := ⟨w.heap.size + 1, 2, none⟩) (Nat.lt_succ_self _)).trans (by simp [go_sem]), (hall.cell (p := ⟨w.heap.size + 1, 3, none⟩) (Nat.lt_succ_self _)).trans (by simp [go_sem])⟩
  clear hS hb1 hq
  cases q with
  | false =>
    go_wp2
    go_ret
    refine ⟨0, rfl, fun h => absurd (HQ.out.2 h.1) (by simp), fun _ => rfl, HB1.out⟩
  | true =>
    obtain ⟨c0, c1, c2, c3, c4⟩ := HBX0.out w1 (Below.refl _ _)
    have hT := specTermOk_any x.t.k x.t.n x.t.s x.t.a x.t.len x.t.cap x.b w1 (HXB.out.below HB1.out) HXF.out.1 HXF.out.2.1
    have e : termOk x.t.k x.b x.t.n x.t.s = x.td.ok := rfl
    rw [e] at hT
    obtain ⟨p, hp⟩ : ∃ p, p = x.td.ok := ⟨_, rfl⟩
    have HP : Hid (p = x.td.ok) := hp
    rw [← hp] at hT
    clear hp e
    go_wp2_with fail
    refine hT.mono ?_
    rintro e w2 ⟨rfl, ob, hob⟩
    have HB2 : Hid (Below w1.heap.size w1 w2) := by rw [hob]; exact bl_a _
    have HBw2 : Hid (Below w.heap.size w w2) := bl_trans HB1.out HB2.out
    clear hob hT c0 c1 c2 c3 c4
    cases p with
    | false =>
      go_wp2
      go_ret
      refine ⟨0, rfl, fun h => ?_, fun _ => rfl, HBw2.out⟩
      have := h.2
      rw [← HP.out] at this
      cases this
    | true =>
      obtain ⟨c0, c1, c2, c3, c4⟩ := HBX0.out w2 HB2.out
      have HG : Hid (Good tb (rbs.map RB.l)) := HQ.out.1 (by simp)
      have hsa := HSA.out.below HBw2.out
      have hL := l3id_any aT capT tb x w2 hsa.tlen hsa.trow hsa.ttxt (HG.out.terms hsa.byt) ⟨HP.out.symm, (HXB.out).byt⟩ (HXB.out.below HBw2.out)
      rw [← HNT.out] at hL
      clear hsa
      obtain ⟨r, hr⟩ : ∃ r : Int, r = (idOf (tb.map TB.td) x.td : Nat) := ⟨_, rfl⟩
      have HR : Hid (r = (idOf (tb.map TB.td) x.td : Nat)) := hr
      rw [← hr] at hL
      clear hr
      go_wp2_with fail
      refine hL.mono ?_
      rintro e w3 ⟨rfl, hb3⟩
      have HB3 : Hid (Below w.heap.size w w3) := bl_trans HBw2.out hb3
      clear hL hb3 c0 c1 c2 c3 c4
      go_wp2
      go_ret
      exact ⟨r, rfl, fun _ => HR.out, fun h => absurd ⟨HG.out, HP.out.symm⟩ h, HB3.out⟩

set_option maxHeartbeats 4000000 in
theorem implIdOf_any (aT aR : Option Addr) (capT capR : Nat) (tb : List TB) (rbs : List RB) (x : TB) (w : World) (h : SArg w aT tb aR rbs) (hf : x.t.fits) (hx : Bs w x.t.a x.t.len x.b) (ht : Tab w) :
    Calls Tryz.prog 21 #[.agg #[.slice aT tb.length capT, .slice aR rbs.length capR], .agg #[.int .i64 x.t.k, .slice x.t.a x.t.len x.t.cap, .int .i64 x.t.n, .int .i64 x.t.s]] w (IdRes w tb rbs x) := by
  have HTab : Hid (Tab w) := ht
  have HSA : Hid (SArg w aT tb aR rbs) := h
  have HXF : Hid (x.t.fits) := hf
  have HXB : Hid (Bs w x.t.a x.t.len x.b) := hx
  obtain ⟨nT, hnT⟩ : ∃ nT, nT = tb.length := ⟨_, rfl⟩
  have HNT : Hid (nT = tb.length) := hnT
  obtain ⟨nR, hnR⟩ : ∃ nR, nR = rbs.length := ⟨_, rfl⟩
  have hS := fun (W : World) (hW : Below w.heap.size w W) => implStoreOk_any aT aR capT capR tb rbs W (h.below hW) (ht.below hW)
  rw [← hnT, ← hnR] at hS
  rw [← hnT, ← hnR]
  clear h hf hx hnT hnR ht
  go_enter Tryz.func21, Tryz.ntmps21
  go_wp2_with fail
  refine (hS _ (bl_alloc (bl_a _) _)).mono ?_
  rintro e w1 ⟨q, rfl, hq, hb1⟩
  have HQ : Hid (q = true ↔ Good tb (rbs.map RB.l)) := hq
  have HB1a : Hid (Below (w.heap.size + 1 + 1) ((w.alloc (.cells #[.slice aT nT capT, .slice aR nR capR] 29)).alloc (.cells #[.int .i64 x.t.k, .slice x.t.a x.t.len x.t.cap, .int .i64 x.t.n, .int .i64 x.t.s] 52)) w1) := (show Below _ _ _ by simpa using hb1)
  have HB1 : Hid (Below w.heap.size w w1) := bl_trans (bl_alloc (bl_a _) _) hb1
  have HBX0 : Hid (∀ W, Below w1.heap.size w1 W → W.cell? ⟨w.heap.size, 0, none⟩ = some (.slice aT nT capT) ∧ W.cell? ⟨w.heap.size + 1, 0, none⟩ = some (.int .i64 x.t.k) ∧ W.cell? ⟨w.heap.size + 1, 1, none⟩ = some (.slice x.t.a x.t.len x.t.cap) ∧ W.cell? ⟨w.heap.size + 1, 2, none⟩ = some (.int .i64 x.t.n) ∧ W.cell? ⟨w.heap.size + 1, 3, none⟩ = some (.int .i64 x.t.s)) := by
    intro W hW
    have hs1 : w.heap.size + 1 + 1 ≤ w1.heap.size := by have := HB1a.out.size; simpa using this
    have hall := HB1a.out.trans (hW.mono hs1)
    exact ⟨(hall.cell (p := ⟨w.heap.size, 0, none⟩) (by show w.heap.size < _; omega)).trans (by simp [go_sem]), (hall.cell (p := ⟨w.heap.size + 1, 0, none⟩) (Nat.lt_succ_self _)).trans (by simp [go_sem]), (hall.cell (p := ⟨w.heap.size + 1, 1, none⟩) (Nat.lt_succ_self _)).trans (by simp [go_sem]), (hall.cell (p := ⟨w.heap.size + 1, 2, none⟩) (Nat.lt_succ_self _)).trans (by simp [go_sem]), (hall.cell (p := ⟨w.heap.size + 1, 3, none⟩) (Nat.lt_succ_self _)).trans (by simp [go_sem])⟩
  clear hS hb1 hq
  cases q with
  | false =>
    go_wp2
    go_ret
    refine ⟨0, rfl, fun h => absurd (HQ.out.2 h.1) (by simp), fun _ => rfl, HB1.out⟩
  | true =>
    obtain ⟨c0, c1, c2, c3, c4⟩ := HBX0.out w1 (Below.refl _ _)
    have hT := implTermOk_any x.t.k x.t.n x.t.s x.t.a x.t.len x.t.cap x.b w1 (HXB.out.below HB1.out) HXF.out.1 HXF.out.2.1 HXF.out.2.2.1 HXF.out.2.2.2
    have e : termOk x.t.k x.b x.t.n x.t.s = x.td.ok := rfl
    rw [e] at hT
    obtain ⟨p, hp⟩ : ∃ p, p = x.td.ok := ⟨_, rfl⟩
    have HP : Hid (p = x.td.ok) := hp
    rw [← hp] at hT
    clear hp e
    go_wp2_with fail
    refine hT.mono ?_
    rintro e w3 ⟨rfl, hb2⟩
    have HB2 : Hid (Below w1.heap.size w1 w3) := hb2
    have HBw3 : Hid (Below w.heap.size w w3) := bl_trans HB1.out hb2
    clear hT c0 c1 c2 c3 c4 hb2
    cases p with
    | false =>
      go_wp2
      go_ret
      refine ⟨0, rfl, fun h => ?_, fun _ => rfl, HBw3.out⟩
      have := h.2
      rw [← HP.out] at this
      cases this
    | true =>
      have HG : Hid (Good tb (rbs.map RB.l)) := HQ.out.1 (by simp)
      have HXG : Hid x.good := ⟨HP.out.symm, HXB.out.byt⟩
      have HBX : Hid (∀ w', w3.grownBy w' none → w'.cell? ⟨w.heap.size, 0, none⟩ = some (.slice aT nT capT) ∧ w'.cell? ⟨w.heap.size + 1, 0, none⟩ = some (.int .i64 x.t.k) ∧ w'.cell? ⟨w.heap.size + 1, 1, none⟩ = some (.slice x.t.a x.t.len x.t.cap) ∧ w'.cell? ⟨w.heap.size + 1, 2, none⟩ = some (.int .i64 x.t.n) ∧ w'.cell? ⟨w.heap.size + 1, 3, none⟩ = some (.int .i64 x.t.s)) := by
        intro w' hg
        have hs1 : w.heap.size + 1 + 1 ≤ w1.heap.size := by have := HB1a.out.size; simpa using this
        have hs3 := HB2.out.size
        obtain ⟨d0, d1, d2, d3, d4⟩ := HBX0.out w3 HB2.out
        exact ⟨(cell_grown hg (by omega) (by simp)).trans d0, (cell_grown hg (by omega) (by simp)).trans d1, (cell_grown hg (by omega) (by simp)).trans d2, (cell_grown hg (by omega) (by simp)).trans d3, (cell_grown hg (by omega) (by simp)).trans d4⟩
      have hsa := HSA.out.below (Below.drew HBw3.out)
      have HNB : Hid (Calls Tryz.prog 40 #[.slice aT nT capT] w3.drew (NumsRes w3.drew (tb.map TB.td))) := by
        have h := numbersOf_any aT capT tb w3.drew hsa.tlen hsa.trow hsa.ttxt (HG.out.terms hsa.byt) HG.out.trm.asc (HTab.out.below (Below.drew HBw3.out))
        rw [← HNT.out] at h
        exact h
      have HSC : Hid (∀ w4, Below w3.heap.size w3.drew w4 → Calls Tryz.prog 59 #[.agg #[.int .i64 x.t.k, .slice x.t.a x.t.len x.t.cap, .int .i64 x.t.n, .int .i64 x.t.s]] w4 fun e w' => TxRes w4 x.td.shown e w') := fun w4 hb => by
        have hw4 : Below w.heap.size w w4 := (Below.drew HBw3.out).trans (hb.mono HBw3.out.size)
        exact implShow_tb x w4 HXG.out (HXB.out.below hw4) (HTab.out.below hw4)
      clear hsa
      go_wp2_with fail
      refine wp_region_held_drew (S := fun w' => w3.grownBy w' none) (by kernel_rfl) ?_ (fun hHeld => ?_)
      · exact grown_drew _ _
      refine take_at (i := 0) 13 (v := ?v1) rfl rfl (by kernel_rfl) (by kernel_rfl) (by kernel_rfl) (fun _ _ _ h => h) (Or.inl ⟨by rfl, ?y1⟩) hHeld ?r1
      case y1 => (intro w' hSw; skip; go_simp; (try with_reducible rfl))
      try simp only [Act.put, List.setIfInBounds_toArray, List.set_cons_zero, List.set_cons_succ]
      refine take_at (i := 1) 14 (v := ?v2) rfl rfl (by kernel_rfl) (by kernel_rfl) (by kernel_rfl) (fun _ _ _ h => h) (Or.inl ⟨by rfl, ?y2⟩) hHeld ?r2
      case y2 => (intro w' hSw; obtain ⟨b0, b1, b2, b3, b4⟩ := HBX.out w' hSw; go_simp; (try with_reducible rfl))
      try simp only [Act.put, List.setIfInBounds_toArray, List.set_cons_zero, List.set_cons_succ]
      refine take_at (i := 3) 16 (v := ?v3) rfl rfl (by kernel_rfl) (by kernel_rfl) (by kernel_rfl) (fun _ _ _ h => h) (Or.inl ⟨by rfl, ?y3⟩) hHeld ?r3
      case y3 => (intro w' hSw; obtain ⟨b0, b1, b2, b3, b4⟩ := HBX.out w' hSw; go_simp; (try with_reducible rfl))
      try simp only [Act.put, List.setIfInBounds_toArray, List.set_cons_zero, List.set_cons_succ]
      refine wpAnyH_ready (rs := [2]) (by kernel_rfl) (by simp) ?_
      refine AllReadyH.cons rfl (fun K hK => ?_) AllReadyH.nil
      go_simp
      refine HNB.out.mono ?_
      rintro e w4 ⟨D, rfl, HMO, HND, HB4⟩
      have HMO : Hid _ := HMO
      have HND : Hid _ := HND
      have HB4 : Hid (Below w3.heap.size w3.drew w4) := HB4
      go_wp2_with fail
      refine hK.out _ _ ?_ (fun hHeld => ?_)
      · exact (grown_drew _ _).trans (grown_of_below HB4.out)
      clear hK K
      try simp only [Act.put, List.setIfInBounds_toArray, List.set_cons_zero, List.set_cons_succ]
      have HSH := HSC.out w4 HB4.out
      refine wpAnyH_ready (rs := [4]) (by kernel_rfl) (by simp) ?_
      refine AllReadyH.cons rfl (fun K hK => ?_) AllReadyH.nil
      go_simp
      refine HSH.mono ?_
      rintro e w5 ⟨a5, cap5, rfl, HN5, HX5⟩
      have HX5 : Hid (Below w4.heap.size w4 w5) := HX5
      have HC5 : Hid (∀ w', w5.grownBy w' none → (convert 45 9 (.slice a5 x.td.shown.length cap5)).run Tryz.prog w' = .ok (.string (strOfNums x.td.shown)) w') := fun w' hw' => (nw_grown HN5 hw' (fun b hb => by cases hb)).str
      have HLT : Hid (w3.heap.size < w4.heap.size) := by
         obtain ⟨es, ck, hh, _⟩ := HMO.out
         obtain ⟨h1, _⟩ := Array.getElem?_eq_some_iff.1 hh
         exact h1
      have HLK : Hid (∀ w', w5.grownBy w' none → (Instr.lookup 73 (.map (some w3.heap.size)) (.string (strOfNums x.td.shown)) false).run Tryz.prog w' = .ok (.int .i64 (idOf (tb.map TB.td) x.td : Nat)) w') := fun w' hw' => look_at (ownsMap_block HMO.out ((hw'.block _ (Nat.lt_of_lt_of_le HLT.out HX5.out.size) (by simp)).trans (HX5.out.block _ HLT.out))) HND.out HXG.out
      clear HSH HN5
      go_wp2_with fail
      refine hK.out _ _ ?_ (fun hHeld => ?_)
      · exact (grown_drew _ _).trans ((grown_of_below HB4.out).trans (grown_of_below HX5.out))
      clear hK K
      try simp only [Act.put, List.setIfInBounds_toArray, List.set_cons_zero, List.set_cons_succ]
      refine wpAnyH_imp (S' := (fun w' => w5.grownBy w' none)) (fun w' h => (grown_drew _ _).trans (((grown_of_below HB4.out).trans (grown_of_below HX5.out)).trans h)) _ _ _ _ ?_
      have hHeld : w5.grownBy w5 none := grown_refl _ _
      refine take_at (i := 5) 18 (v := ?v4) rfl rfl (by kernel_rfl) (by kernel_rfl) (by kernel_rfl) (fun _ _ _ h => h) (Or.inl ⟨by rfl, ?y4⟩) hHeld ?r4
      case y4 => (intro w' hSw; have hcv := HC5.out w' hSw; go_simp; (try with_reducible rfl))
      try simp only [Act.put, List.setIfInBounds_toArray, List.set_cons_zero, List.set_cons_succ]
      refine take_at (i := 6) 19 (v := ?v5) rfl rfl (by kernel_rfl) (by kernel_rfl) (by kernel_rfl) (fun _ _ _ h => h) (Or.inl ⟨by rfl, ?y5⟩) hHeld ?r5
      case y5 => (intro w' hSw; have hlk := HLK.out w' hSw; go_simp; (try with_reducible rfl))
      try simp only [Act.put, List.setIfInBounds_toArray, List.set_cons_zero, List.set_cons_succ]
      refine take_at (i := 7) 4 (v := ?v6) rfl rfl (by kernel_rfl) (by kernel_rfl) (by kernel_rfl) (fun _ _ _ h => h) (Or.inl ⟨by rfl, ?y6⟩) hHeld ?r6
      case y6 => (intro w' hSw; skip; go_simp; (try with_reducible rfl))
      try simp only [Act.put, List.setIfInBounds_toArray, List.set_cons_zero, List.set_cons_succ]
      refine wpAnyH_done (by kernel_rfl) ?_ _
      go_wp2
      go_ret
      exact ⟨_, rfl, fun _ => rfl, fun h => absurd ⟨HG.out, HP.out.symm⟩ h, ((Below.drew HBw3.out).trans (HB4.out.mono HBw3.out.size)).trans (HX5.out.mono (by have := HBw3.out.size; have := HB4.out.size; simp at *; omega))⟩
end Go.Proofs.YtdcaicoomldmgaaGreatDoor
