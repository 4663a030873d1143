/- Texts put together: StvJ -/
import Derived.Test.YtdcaicoomldmgaaGreatDoorMk46
import Derived.Test.YtdcaicoomldmgaaGreatDoorMk47
/- StvJ -/
namespace Go.Proofs.YtdcaicoomldmgaaGreatDoor
open Go.RowKit Go.Deep Go.Maps
set_option maxRecDepth 100000

set_option maxHeartbeats 8000000 in
theorem walkIdOf (aT aR : Option Addr) (capT capR : Nat) (tb : List TB) (rbs : List RB) (x : TB) (w : World) (hnT : tb.length ≤ 9223372036854775807) (hnR : rbs.length ≤ 9223372036854775807) (hT : TRow w aT tb) (hTC : ∀ y ∈ tb, CameT w y) (hR : SRow w aR rbs) (hRC : ∀ y ∈ rbs, CameR w y) (hXF : CameT w x) (ht : Tab w) :
    Calls Tryz.prog 4 #[.agg #[.slice aT tb.length capT, .slice aR rbs.length capR], .agg #[.int .i64 x.t.k, .slice x.t.a x.t.len x.t.cap, .int .i64 x.t.n, .int .i64 x.t.s]] w fun e w' => e = .returned (.bool true) ∧ Below w.heap.size w w' := by
  have HTab : Hid (Tab w) := ht
  have HSIN : Hid ((tb.length ≤ 1048576 ∧ ∀ x ∈ tb, x.t.len ≤ 1048576) ∧ rbs.length ≤ 1048576 ∧ (∀ x ∈ rbs, x.l.length ≤ 1048576) → SIn w aT tb aR rbs) := fun h => ⟨hT, fun x hx => (hTC x hx).2.2 (h.1.2 x hx), fun x hx => (hTC x hx).1, h.1.1, hR, fun x hx => ⟨(hRC x hx).1, h.2.2 x hx⟩, h.2.1⟩
  obtain ⟨R, hR1, hR0⟩ : ∃ R : Int, ((Good tb (rbs.map RB.l) ∧ x.td.ok = true) → R = (idOf (tb.map TB.td) x.td : Nat)) ∧ (¬ (Good tb (rbs.map RB.l) ∧ x.td.ok = true) → R = 0) := by
    by_cases hP : Good tb (rbs.map RB.l) ∧ x.td.ok = true
    · exact ⟨_, fun _ => rfl, fun h => absurd hP h⟩
    · exact ⟨0, fun h => absurd h hP, fun _ => rfl⟩
  have HXL : Hid (x.t.len ≤ 9223372036854775807) := hXF.2.1
  have HXB : Hid (x.t.len ≤ 1048576 → Bs w x.t.a x.t.len x.b) := hXF.2.2
  have HZ : Hid (∀ W, Below w.heap.size w W → Calls Tryz.prog 16 #[.agg #[.slice aT tb.length capT, .slice aR rbs.length capR], .int .i64 1048576] W fun e w' => SzS tb rbs e ∧ Below W.heap.size W w') := fun W hW => szStore_any aT aR capT capR tb rbs 1048576 W (by omega) (by omega) hnT hnR (hT.below hW) (hR.below hW) (fun x hx => (hTC x hx).2.1) (fun x hx => (hRC x hx).2)
  have HTO0 : Hid (∀ W, SIn W aT tb aR rbs → Calls Tryz.prog 19 #[.agg #[.slice aT tb.length capT, .slice aR rbs.length capR]] W (CopyA W tb rbs)) := fun W h => toStore_arg aT aR capT capR tb rbs W h
  have HTT : Hid (∀ W, Bs W x.t.a x.t.len x.b → Calls Tryz.prog 20 #[.agg #[.int .i64 x.t.k, .slice x.t.a x.t.len x.t.cap, .int .i64 x.t.n, .int .i64 x.t.s]] W (fun e w' => ∃ g, e = .returned (.agg #[.int .i64 x.t.k, .slice (some ⟨g, 0, none⟩) x.t.len x.t.len, .int .i64 x.t.n, .int .i64 x.t.s]) ∧ Bs w' (some ⟨g, 0, none⟩) x.t.len x.b ∧ Below W.heap.size W w')) := fun W h => toTerm_any x.t.k x.t.n x.t.s x.t.a x.t.len x.t.cap x.b W h
  have HSI : Hid (∀ W aT' aR' tb' rbs' g, SArg W aT' tb' aR' rbs' → tb'.map TB.td = tb.map TB.td → rbs'.map RB.l = rbs.map RB.l → Bs W (some ⟨g, 0, none⟩) x.t.len x.b → Calls Tryz.prog 18 #[.agg #[.slice aT' tb.length tb.length, .slice aR' rbs.length rbs.length], .agg #[.int .i64 x.t.k, .slice (some ⟨g, 0, none⟩) x.t.len x.t.len, .int .i64 x.t.n, .int .i64 x.t.s]] W fun e w' => e = .returned (.int .i64 R) ∧ Below W.heap.size W w') := by
    intro W aT' aR' tb' rbs' g h  h1 h2 hg
    have l1 : tb'.length = tb.length := by have := congrArg List.length h1; simpa using this
    have l2 : rbs'.length = rbs.length := by have := congrArg List.length h2; simpa using this
    have := specIdOf_any aT' aR' tb.length rbs.length tb' rbs' ⟨⟨x.t.k, some ⟨g, 0, none⟩, x.t.len, x.t.len, x.t.n, x.t.s⟩, x.b⟩ W h hXF.1 hg 
    rw [l1, l2] at this
    refine this.mono ?_
    rintro e w' ⟨r, rfl, q1, q2, hb⟩
    refine ⟨?_, hb⟩
    rw [h2, h1, good_td h1] at q1
    rw [h2, good_td h1] at q2
    by_cases hP : Good tb (rbs.map RB.l) ∧ x.td.ok = true
    · rw [q1 hP, hR1 hP]; rfl
    · rw [q2 hP, hR0 hP]
  have HII : Hid (∀ W aT' aR' tb' rbs' g, SArg W aT' tb' aR' rbs' → Tab W → tb'.map TB.td = tb.map TB.td → rbs'.map RB.l = rbs.map RB.l → Bs W (some ⟨g, 0, none⟩) x.t.len x.b → Calls Tryz.prog 21 #[.agg #[.slice aT' tb.length tb.length, .slice aR' rbs.length rbs.length], .agg #[.int .i64 x.t.k, .slice (some ⟨g, 0, none⟩) x.t.len x.t.len, .int .i64 x.t.n, .int .i64 x.t.s]] W fun e w' => e = .returned (.int .i64 R) ∧ Below W.heap.size W w') := by
    intro W aT' aR' tb' rbs' g h ht' h1 h2 hg
    have l1 : tb'.length = tb.length := by have := congrArg List.length h1; simpa using this
    have l2 : rbs'.length = rbs.length := by have := congrArg List.length h2; simpa using this
    have := implIdOf_any aT' aR' tb.length rbs.length tb' rbs' ⟨⟨x.t.k, some ⟨g, 0, none⟩, x.t.len, x.t.len, x.t.n, x.t.s⟩, x.b⟩ W h hXF.1 hg ht'
    rw [l1, l2] at this
    refine this.mono ?_
    rintro e w' ⟨r, rfl, q1, q2, hb⟩
    refine ⟨?_, hb⟩
    rw [h2, h1, good_td h1] at q1
    rw [h2, good_td h1] at q2
    by_cases hP : Good tb (rbs.map RB.l) ∧ x.td.ok = true
    · rw [q1 hP, hR1 hP]; rfl
    · rw [q2 hP, hR0 hP]
  have HEQ0 : Hid (∀ W aT' aR' tb' rbs' aT3 aR3 tb3 rbs3, SArg W aT' tb' aR' rbs' → tb'.map TB.td = tb.map TB.td → rbs'.map RB.l = rbs.map RB.l → SArg W aT3 tb3 aR3 rbs3 → tb3.map TB.td = tb.map TB.td → rbs3.map RB.l = rbs.map RB.l → Calls Tryz.prog 11 #[.agg #[.slice aT' tb.length tb.length, .slice aR' rbs.length rbs.length], .agg #[.slice aT3 tb.length tb.length, .slice aR3 rbs.length rbs.length]] W fun e w' => e = .returned (.bool true) ∧ Below W.heap.size W w') := by
    intro W aT' aR' tb' rbs' aT3 aR3 tb3 rbs3 h h1 h2 h' h1' h2'
    have l1 : tb'.length = tb.length := by have := congrArg List.length h1; simpa using this
    have l2 : rbs'.length = rbs.length := by have := congrArg List.length h2; simpa using this
    have l1' : tb3.length = tb.length := by have := congrArg List.length h1'; simpa using this
    have l2' : rbs3.length = rbs.length := by have := congrArg List.length h2'; simpa using this
    have := eqStore_like aT' aT3 aR' aR3 tb.length tb.length rbs.length rbs.length tb' tb3 rbs' rbs3 W h h' (h1.trans h1'.symm) (h2.trans h2'.symm)
    rwa [l1, l2, l1', l2'] at this
  have HET : Hid (∀ W g g', Bs W (some ⟨g, 0, none⟩) x.t.len x.b → Bs W (some ⟨g', 0, none⟩) x.t.len x.b → Calls Tryz.prog 22 #[.agg #[.int .i64 x.t.k, .slice (some ⟨g, 0, none⟩) x.t.len x.t.len, .int .i64 x.t.n, .int .i64 x.t.s], .agg #[.int .i64 x.t.k, .slice (some ⟨g', 0, none⟩) x.t.len x.t.len, .int .i64 x.t.n, .int .i64 x.t.s]] W fun e w' => e = .returned (.bool true) ∧ Below W.heap.size W w') := by
    intro W g g' h h'
    refine (eqTerm_any x.t.k x.t.n x.t.s x.t.k x.t.n x.t.s _ _ x.t.len x.t.len x.t.len x.t.len x.b x.b W h h').mono ?_
    rintro e w' ⟨rfl, hb⟩
    exact ⟨by simp, hb⟩
  obtain ⟨nT, hnT'⟩ : ∃ nT, nT = tb.length := ⟨_, rfl⟩
  obtain ⟨nR, hnR'⟩ : ∃ nR, nR = rbs.length := ⟨_, rfl⟩
  have HTO : Hid (∀ W, SIn W aT tb aR rbs → Calls Tryz.prog 19 #[.agg #[.slice aT nT capT, .slice aR nR capR]] W (fun e w' => ∃ aT aR tb' rbs', e = .returned (.agg #[.slice aT nT nT, .slice aR nR nR]) ∧ SArg w' aT tb' aR rbs' ∧ tb'.map TB.td = tb.map TB.td ∧ rbs'.map RB.l = rbs.map RB.l ∧ Below W.heap.size W w')) := by
    intro W h
    rw [hnT', hnR']
    exact HTO0.out W h
  rw [← hnT', ← hnR'] at HZ HSI HII HEQ0
  rw [← hnT', ← hnR']
  clear hnT hnR hT hTC hR hRC ht hnT' hnR' HTO0 hXF hR1 hR0
  go_enter Tryz.func4, Tryz.ntmps4
  go_wp2_with fail
  refine (HZ.out _ (bl_alloc (bl_a _) _)).mono ?_
  rintro e w1 ⟨⟨r, rfl, hr1, hr2, hr3⟩, hb1⟩
  have HR2 : Hid (¬ r < 0 → (tb.length ≤ 1048576 ∧ ∀ x ∈ tb, x.t.len ≤ 1048576) ∧ rbs.length ≤ 1048576 ∧ ∀ x ∈ rbs, x.l.length ≤ 1048576) := hr2
  have HRL : Hid (r ≤ 1048576) := hr1
  have HB1a : Hid (Below (w.heap.size + 1 + 1) ((w.alloc (.cells #[.slice aT nT capT, .slice aR nR capR] 44)).alloc (.cells #[.int .i64 x.t.k, .slice x.t.a x.t.len x.t.cap, .int .i64 x.t.n, .int .i64 x.t.s] 47)) w1) := (show Below _ _ _ by simpa using hb1)
  have HB1 : Hid (Below w.heap.size w w1) := bl_trans (bl_alloc (bl_a _) _) hb1
  have HBX0 : Hid (∀ W, Below w1.heap.size w1 W → W.cell? ⟨w.heap.size, 0, none⟩ = some (.slice aT nT capT) ∧ W.cell? ⟨w.heap.size, 1, none⟩ = some (.slice aR nR capR) ∧ W.cell? ⟨w.heap.size + 1, 0, none⟩ = some (.int .i64 x.t.k) ∧ W.cell? ⟨w.heap.size + 1, 1, none⟩ = some (.slice x.t.a x.t.len x.t.cap) ∧ W.cell? ⟨w.heap.size + 1, 2, none⟩ = some (.int .i64 x.t.n) ∧ W.cell? ⟨w.heap.size + 1, 3, none⟩ = some (.int .i64 x.t.s)) := by
    intro W hW
    have hs1 : w.heap.size + 1 + 1 ≤ w1.heap.size := by have := HB1a.out.size; simpa using this
    have hall := HB1a.out.trans (hW.mono hs1)
    exact ⟨(hall.cell (p := ⟨w.heap.size, 0, none⟩) (by show w.heap.size < _; omega)).trans (by simp [go_sem]), (hall.cell (p := ⟨w.heap.size, 1, none⟩) (by show w.heap.size < _; omega)).trans (by simp [go_sem]), (hall.cell (p := ⟨w.heap.size + 1, 0, none⟩) (Nat.lt_succ_self _)).trans (by simp [go_sem]), (hall.cell (p := ⟨w.heap.size + 1, 1, none⟩) (Nat.lt_succ_self _)).trans (by simp [go_sem]), (hall.cell (p := ⟨w.heap.size + 1, 2, none⟩) (Nat.lt_succ_self _)).trans (by simp [go_sem]), (hall.cell (p := ⟨w.heap.size + 1, 3, none⟩) (Nat.lt_succ_self _)).trans (by simp [go_sem])⟩
  clear hr2 hb1 hr1 hr3
  by_cases hr : r < 0
  · go_wp2
    go_ret
    exact ⟨rfl, HB1.out⟩
  have HSN : Hid (SIn w aT tb aR rbs) := HSIN.out (HR2.out hr)
  have hZT := szTerm_any x.t.k x.t.n x.t.s x.t.a x.t.len x.t.cap r w1 (by omega) HRL.out HXL.out
  have hlo : ¬ leftOf r x.t.len < 0 → x.t.len ≤ 1048576 := fun h => by have := (leftOf_le h (by omega)).1; have := HRL.out; omega
  obtain ⟨r2, hr2⟩ : ∃ r2, r2 = leftOf r x.t.len := ⟨_, rfl⟩
  rw [← hr2] at hZT hlo
  have HLO : Hid (¬ r2 < 0 → x.t.len ≤ 1048576) := hlo
  clear hlo hr2
  obtain ⟨c0, c1, c2, c3, c4, c5⟩ := HBX0.out w1 (Below.refl _ _)
  go_wp2_with fail
  refine hZT.mono ?_
  rintro e w2 ⟨rfl, hb2⟩
  have HB2 : Hid (Below w1.heap.size w1 w2) := hb2
  have HBw2 : Hid (Below w.heap.size w w2) := bl_trans HB1.out hb2
  clear hZT hb2 c0 c1 c2 c3 c4 c5
  by_cases hrr : r2 < 0
  · go_wp2
    go_ret
    exact ⟨rfl, HBw2.out⟩
  have HBS : Hid (Bs w x.t.a x.t.len x.b) := HXB.out (HLO.out (by omega))
  have HBX2 : Hid (∀ w', w2.grownBy w' none → w'.cell? ⟨w.heap.size, 0, none⟩ = some (.slice aT nT capT) ∧ w'.cell? ⟨w.heap.size, 1, none⟩ = some (.slice aR nR capR) ∧ w'.cell? ⟨w.heap.size + 1, 0, none⟩ = some (.int .i64 x.t.k) ∧ w'.cell? ⟨w.heap.size + 1, 1, none⟩ = some (.slice x.t.a x.t.len x.t.cap) ∧ w'.cell? ⟨w.heap.size + 1, 2, none⟩ = some (.int .i64 x.t.n) ∧ w'.cell? ⟨w.heap.size + 1, 3, none⟩ = some (.int .i64 x.t.s)) := by
    intro w' hg
    have hs1 : w.heap.size + 1 + 1 ≤ w1.heap.size := by have := HB1a.out.size; simpa using this
    have hs2 := HB2.out.size
    obtain ⟨d0, d1, d2, d3, d4, d5⟩ := HBX0.out w2 HB2.out
    exact ⟨(cell_grown hg (by show w.heap.size < _; omega) (by simp)).trans d0, (cell_grown hg (by show w.heap.size < _; omega) (by simp)).trans d1, (cell_grown hg (by show w.heap.size + 1 < _; omega) (by simp)).trans d2, (cell_grown hg (by show w.heap.size + 1 < _; omega) (by simp)).trans d3, (cell_grown hg (by show w.heap.size + 1 < _; omega) (by simp)).trans d4, (cell_grown hg (by show w.heap.size + 1 < _; omega) (by simp)).trans d5⟩
  have HA : Hid (Calls Tryz.prog 19 #[.agg #[.slice aT nT capT, .slice aR nR capR]] w2.drew (fun e w' => ∃ aT aR tb' rbs', e = .returned (.agg #[.slice aT nT nT, .slice aR nR nR]) ∧ SArg w' aT tb' aR rbs' ∧ tb'.map TB.td = tb.map TB.td ∧ rbs'.map RB.l = rbs.map RB.l ∧ Below w2.heap.size w2.drew w')) := HTO.out w2.drew (HSN.out.below (Below.drew HBw2.out))
  go_wp2_with fail
  refine wp_region_held_drew (S := fun w' => w2.grownBy w' none) (by kernel_rfl) ?_ (fun hHeld => ?_)
  · exact grown_drew _ _
  refine take_at (i := 0) 20 (v := ?v1) rfl rfl (by kernel_rfl) (by kernel_rfl) (by kernel_rfl) (fun _ _ _ h => h) (Or.inl ⟨by rfl, ?y1⟩) hHeld ?r1
  case y1 => (intro w' hSw; obtain ⟨b0, b1, b2, b3, b4, b5⟩ := HBX2.out w' hSw; go_simp; (try with_reducible rfl))
  try simp only [Act.put, List.setIfInBounds_toArray, List.set_cons_zero, List.set_cons_succ]
  refine take_at (i := 2) 22 (v := ?v2) rfl rfl (by kernel_rfl) (by kernel_rfl) (by kernel_rfl) (fun _ _ _ h => h) (Or.inl ⟨by rfl, ?y2⟩) hHeld ?r2
  case y2 => (intro w' hSw; obtain ⟨b0, b1, b2, b3, b4, b5⟩ := HBX2.out w' hSw; go_simp; (try with_reducible rfl))
  try simp only [Act.put, List.setIfInBounds_toArray, List.set_cons_zero, List.set_cons_succ]
  refine wpAnyH_ready (rs := [1]) (by kernel_rfl) (by simp) ?_
  refine AllReadyH.cons rfl (fun K hK => ?_) AllReadyH.nil
  go_simp
  refine HA.out.mono ?_
  rintro e w3 ⟨aT1, aR1, tb1, rbs1, rfl, hs1, e1, r1, hb3⟩
  have HB3 : Hid (Below w2.heap.size w2.drew w3) := hb3
  have HS1 : Hid (SArg w3 aT1 tb1 aR1 rbs1) := hs1
  have HE1 : Hid (tb1.map TB.td = tb.map TB.td) := e1
  have HR1 : Hid (rbs1.map RB.l = rbs.map RB.l) := r1
  have hTT := HTT.out w3 (HBS.out.below ((Below.drew HBw2.out).trans (HB3.out.mono HBw2.out.size)))
  clear hs1 e1 r1 hb3
  go_wp2_with fail
  refine hK.out _ _ ?_ (fun hHeld => ?_)
  · exact (grown_drew _ _).trans (grown_of_below HB3.out)
  clear hK K
  try simp only [Act.put, List.setIfInBounds_toArray, List.set_cons_zero, List.set_cons_succ]
  refine wpAnyH_ready (rs := [3]) (by kernel_rfl) (by simp) ?_
  refine AllReadyH.cons rfl (fun K hK => ?_) AllReadyH.nil
  go_simp
  refine hTT.mono ?_
  rintro e w4 ⟨g1, rfl, hg1, hb4⟩
  have HB4 : Hid (Below w3.heap.size w3 w4) := hb4
  have hSI := HSI.out w4 aT1 aR1 tb1 rbs1 g1 (HS1.out.below HB4.out) HE1.out HR1.out hg1
  clear hTT hg1 hb4
  go_wp2_with fail
  refine hK.out _ _ ?_ (fun hHeld => ?_)
  · exact (grown_drew _ _).trans ((grown_of_below HB3.out).trans (grown_of_below HB4.out))
  clear hK K
  try simp only [Act.put, List.setIfInBounds_toArray, List.set_cons_zero, List.set_cons_succ]
  refine wpAnyH_ready (rs := [4]) (by kernel_rfl) (by simp) ?_
  refine AllReadyH.cons rfl (fun K hK => ?_) AllReadyH.nil
  go_simp
  refine hSI.mono ?_
  rintro e w5 ⟨rfl, hb5⟩
  have HB5 : Hid (Below w4.heap.size w4 w5) := hb5
  clear hSI hb5
  go_wp2_with fail
  refine hK.out _ _ ?_ (fun hHeld => ?_)
  · exact (grown_drew _ _).trans ((grown_of_below HB3.out).trans ((grown_of_below HB4.out).trans (grown_of_below HB5.out)))
  clear hK K
  try simp only [Act.put, List.setIfInBounds_toArray, List.set_cons_zero, List.set_cons_succ]
  refine take_at (i := 5) 6 (v := ?v3) rfl rfl (by kernel_rfl) (by kernel_rfl) (by kernel_rfl) (fun _ _ _ h => h) (Or.inl ⟨by rfl, ?y3⟩) hHeld ?r3
  case y3 => (intro w' hSw; skip; go_simp; (try with_reducible rfl))
  try simp only [Act.put, List.setIfInBounds_toArray, List.set_cons_zero, List.set_cons_succ]
  refine wpAnyH_done (by kernel_rfl) ?_ _
  have HB25 : Hid (Below w2.heap.size w2 w5) := ((Below.drew (Below.refl _ _)).trans HB3.out).trans ((HB4.out.mono (by have := HB3.out.size; simpa using this)).trans (HB5.out.mono (by have := HB3.out.size; have := HB4.out.size; simp at *; omega)))
  have HB15 : Hid (Below w1.heap.size w1 w5) := bl_trans HB2.out HB25.out
  have HBw5 : Hid (Below w.heap.size w w5) := bl_trans HB1.out HB15.out
  clear HBX2 HA HB25 HB3 HB4 HB5 HS1 HE1 HR1
  obtain ⟨c0, c1, c2, c3, c4, c5⟩ := HBX0.out w5 HB15.out
  have hT2 := HTO.out w5 (HSN.out.below HBw5.out)
  go_wp2_with fail
  refine hT2.mono ?_
  rintro e w6 ⟨aT2, aR2, tb2, rbs2, rfl, hs2, e2, r2', hb6⟩
  have HS2 : Hid (SArg w6 aT2 tb2 aR2 rbs2) := hs2
  have HE2 : Hid (tb2.map TB.td = tb.map TB.td) := e2
  have HRR2 : Hid (rbs2.map RB.l = rbs.map RB.l) := r2'
  have HB16 : Hid (Below w1.heap.size w1 w6) := bl_trans HB15.out hb6
  have HBw6 : Hid (Below w.heap.size w w6) := bl_trans HBw5.out hb6
  clear hT2 hs2 e2 r2' hb6 c0 c1 c2 c3 c4 c5
  obtain ⟨c0, c1, c2, c3, c4, c5⟩ := HBX0.out w6 HB16.out
  have hx6 : w.heap.size + 1 < w6.heap.size := by have := HB1a.out.size; have := HB16.out.size; simp at *; omega
  have hT3 := fun o => HTT.out (w6.alloc o) (HBS.out.below (bl_alloc HBw6.out o))
  go_wp2_with fail
  refine (hT3 _).mono ?_
  rintro e w7 ⟨g2, rfl, hg2, hb7⟩
  have HG2 : Hid (Bs w7 (some ⟨g2, 0, none⟩) x.t.len x.b) := hg2
  have HB7a : Hid (Below (w6.heap.size + 1) (w6.alloc (.cells #[.slice aT2 nT nT, .slice aR2 nR nR] 29)) w7) := (show Below _ _ _ by simpa using hb7)
  have HB67 : Hid (Below w6.heap.size w6 w7) := bl_trans (bl_a _) hb7
  have HB17 : Hid (Below w1.heap.size w1 w7) := bl_trans HB16.out HB67.out
  have HBw7 : Hid (Below w.heap.size w w7) := bl_trans HBw6.out HB67.out
  have hI := fun W (hW : Below w7.heap.size w7 W) => HII.out W aT2 aR2 tb2 rbs2 g2 (HS2.out.below (bl_trans HB67.out hW)) (HTab.out.below (bl_trans HBw7.out hW)) HE2.out HRR2.out (HG2.out.below hW)
  have d6 : w7.cell? ⟨w6.heap.size, 0, none⟩ = some (.slice aT2 nT nT) := (HB7a.out.cell (p := ⟨w6.heap.size, 0, none⟩) (Nat.lt_succ_self _)).trans (by simp [go_sem])
  have d7 : w7.cell? ⟨w6.heap.size, 1, none⟩ = some (.slice aR2 nR nR) := (HB7a.out.cell (p := ⟨w6.heap.size, 1, none⟩) (Nat.lt_succ_self _)).trans (by simp [go_sem])
  have hx7 : w6.heap.size < w7.heap.size := by have := HB7a.out.size; simp at this; omega
  clear hT3 hg2 hb7 c0 c1 c2 c3 c4 c5 hx6
  go_wp2_with fail
  refine (hI _ (bl_a _)).mono ?_
  rintro e w8 ⟨rfl, hb8⟩
  have HD : Hid (w7.cell? ⟨w6.heap.size, 0, none⟩ = some (.slice aT2 nT nT) ∧ w7.cell? ⟨w6.heap.size, 1, none⟩ = some (.slice aR2 nR nR)) := ⟨d6, d7⟩
  have HB8a : Hid (Below (w7.heap.size + 1) (w7.alloc (.cells #[.int .i64 x.t.k, .slice (some ⟨g2, 0, none⟩) x.t.len x.t.len, .int .i64 x.t.n, .int .i64 x.t.s] 52)) w8) := (show Below _ _ _ by simpa using hb8)
  have HB78 : Hid (Below w7.heap.size w7 w8) := bl_trans (bl_a _) hb8
  have HB18 : Hid (Below w1.heap.size w1 w8) := bl_trans HB17.out HB78.out
  have HBw8 : Hid (Below w.heap.size w w8) := bl_trans HBw7.out HB78.out
  have HBX8 : Hid (∀ w', w8.grownBy w' none → w'.cell? ⟨w.heap.size, 0, none⟩ = some (.slice aT nT capT) ∧ w'.cell? ⟨w.heap.size, 1, none⟩ = some (.slice aR nR capR) ∧ w'.cell? ⟨w.heap.size + 1, 0, none⟩ = some (.int .i64 x.t.k) ∧ w'.cell? ⟨w.heap.size + 1, 1, none⟩ = some (.slice x.t.a x.t.len x.t.cap) ∧ w'.cell? ⟨w.heap.size + 1, 2, none⟩ = some (.int .i64 x.t.n) ∧ w'.cell? ⟨w.heap.size + 1, 3, none⟩ = some (.int .i64 x.t.s) ∧ w'.cell? ⟨w6.heap.size, 0, none⟩ = some (.slice aT2 nT nT) ∧ w'.cell? ⟨w6.heap.size, 1, none⟩ = some (.slice aR2 nR nR) ∧ w'.cell? ⟨w7.heap.size, 0, none⟩ = some (.int .i64 x.t.k) ∧ w'.cell? ⟨w7.heap.size, 1, none⟩ = some (.slice (some ⟨g2, 0, none⟩) x.t.len x.t.len) ∧ w'.cell? ⟨w7.heap.size, 2, none⟩ = some (.int .i64 x.t.n) ∧ w'.cell? ⟨w7.heap.size, 3, none⟩ = some (.int .i64 x.t.s)) := by
    intro w' hg
    have hs1 : w.heap.size + 1 + 1 ≤ w1.heap.size := by have := HB1a.out.size; simpa using this
    have hs6 := HB16.out.size
    have hs7 : w6.heap.size + 1 ≤ w7.heap.size := by have := HB7a.out.size; simpa using this
    have hs8 : w7.heap.size + 1 ≤ w8.heap.size := by have := HB8a.out.size; simpa using this
    obtain ⟨d0, d1, d2, d3, d4, d5⟩ := HBX0.out w8 HB18.out
    have d6 := (HB78.out.cell (p := ⟨w6.heap.size, 0, none⟩) (by show w6.heap.size < _; omega)).trans HD.out.1
    have d7 := (HB78.out.cell (p := ⟨w6.heap.size, 1, none⟩) (by show w6.heap.size < _; omega)).trans HD.out.2
    have d8 : w8.cell? ⟨w7.heap.size, 0, none⟩ = some (.int .i64 x.t.k) := (HB8a.out.cell (p := ⟨w7.heap.size, 0, none⟩) (Nat.lt_succ_self _)).trans (by simp [go_sem])
    have d9 : w8.cell? ⟨w7.heap.size, 1, none⟩ = some (.slice (some ⟨g2, 0, none⟩) x.t.len x.t.len) := (HB8a.out.cell (p := ⟨w7.heap.size, 1, none⟩) (Nat.lt_succ_self _)).trans (by simp [go_sem])
    have d10 : w8.cell? ⟨w7.heap.size, 2, none⟩ = some (.int .i64 x.t.n) := (HB8a.out.cell (p := ⟨w7.heap.size, 2, none⟩) (Nat.lt_succ_self _)).trans (by simp [go_sem])
    have d11 : w8.cell? ⟨w7.heap.size, 3, none⟩ = some (.int .i64 x.t.s) := (HB8a.out.cell (p := ⟨w7.heap.size, 3, none⟩) (Nat.lt_succ_self _)).trans (by simp [go_sem])
    exact ⟨(cell_grown hg (by show w.heap.size < _; omega) (by simp)).trans d0, (cell_grown hg (by show w.heap.size < _; omega) (by simp)).trans d1, (cell_grown hg (by show w.heap.size + 1 < _; omega) (by simp)).trans d2, (cell_grown hg (by show w.heap.size + 1 < _; omega) (by simp)).trans d3, (cell_grown hg (by show w.heap.size + 1 < _; omega) (by simp)).trans d4, (cell_grown hg (by show w.heap.size + 1 < _; omega) (by simp)).trans d5,
      (cell_grown hg (by show w6.heap.size < _; omega) (by simp)).trans d6, (cell_grown hg (by show w6.heap.size < _; omega) (by simp)).trans d7, (cell_grown hg (by show w7.heap.size < _; omega) (by simp)).trans d8, (cell_grown hg (by show w7.heap.size < _; omega) (by simp)).trans d9, (cell_grown hg (by show w7.heap.size < _; omega) (by simp)).trans d10, (cell_grown hg (by show w7.heap.size < _; omega) (by simp)).trans d11⟩
  have HBX8 : Hid (∀ w', w8.grownBy w' none → w'.cell? ⟨w.heap.size, 0, none⟩ = some (.slice aT nT capT) ∧ w'.cell? ⟨w.heap.size, 1, none⟩ = some (.slice aR nR capR) ∧ w'.cell? ⟨w.heap.size + 1, 0, none⟩ = some (.int .i64 x.t.k) ∧ w'.cell? ⟨w.heap.size + 1, 1, none⟩ = some (.slice x.t.a x.t.len x.t.cap) ∧ w'.cell? ⟨w.heap.size + 1, 2, none⟩ = some (.int .i64 x.t.n) ∧ w'.cell? ⟨w.heap.size + 1, 3, none⟩ = some (.int .i64 x.t.s) ∧ w'.cell? ⟨w6.heap.size, 0, none⟩ = some (.slice aT2 nT nT) ∧ w'.cell? ⟨w6.heap.size, 1, none⟩ = some (.slice aR2 nR nR) ∧ w'.cell? ⟨w7.heap.size, 0, none⟩ = some (.int .i64 x.t.k) ∧ w'.cell? ⟨w7.heap.size, 1, none⟩ = some (.slice (some ⟨g2, 0, none⟩) x.t.len x.t.len) ∧ w'.cell? ⟨w7.heap.size, 2, none⟩ = some (.int .i64 x.t.n) ∧ w'.cell? ⟨w7.heap.size, 3, none⟩ = some (.int .i64 x.t.s)) := HBX8
  have HT3 : Hid (Calls Tryz.prog 19 #[.agg #[.slice aT nT capT, .slice aR nR capR]] w8.drew (fun e w' => ∃ aT aR tb' rbs', e = .returned (.agg #[.slice aT nT nT, .slice aR nR nR]) ∧ SArg w' aT tb' aR rbs' ∧ tb'.map TB.td = tb.map TB.td ∧ rbs'.map RB.l = rbs.map RB.l ∧ Below w8.heap.size w8.drew w')) := HTO.out w8.drew (HSN.out.below (Below.drew HBw8.out))
  have HEQ : Hid (∀ W aT3 aR3 tb3 rbs3, Below w8.heap.size w8.drew W → SArg W aT3 tb3 aR3 rbs3 → tb3.map TB.td = tb.map TB.td → rbs3.map RB.l = rbs.map RB.l → Calls Tryz.prog 11 #[.agg #[.slice aT2 nT nT, .slice aR2 nR nR], .agg #[.slice aT3 nT nT, .slice aR3 nR nR]] W fun e w' => e = .returned (.bool true) ∧ Below W.heap.size W w') := by
    intro W aT3 aR3 tb3 rbs3 hb h1 h2 h3
    have h68 := bl_trans HB67.out HB78.out
    exact HEQ0.out W aT2 aR2 tb2 rbs2 aT3 aR3 tb3 rbs3 (HS2.out.below ((Below.drew h68).trans (hb.mono h68.size))) HE2.out HRR2.out h1 h2 h3
  clear hI hb8 d6 d7 hx7
  go_wp2_with fail
  refine wp_region_held_drew (S := fun w' => w8.grownBy w' none) (by kernel_rfl) ?_ (fun hHeld => ?_)
  · exact grown_drew _ _
  refine take_at (i := 0) 35 (v := ?v4) rfl rfl (by kernel_rfl) (by kernel_rfl) (by kernel_rfl) (fun _ _ _ h => h) (Or.inl ⟨by rfl, ?y4⟩) hHeld ?r4
  case y4 => (intro w' hSw; obtain ⟨b0, b1, b2, b3, b4, b5, b6, b7, b8, b9, b10, b11⟩ := HBX8.out w' hSw; go_simp; (try with_reducible rfl))
  try simp only [Act.put, List.setIfInBounds_toArray, List.set_cons_zero, List.set_cons_succ]
  refine take_at (i := 1) 36 (v := ?v5) rfl rfl (by kernel_rfl) (by kernel_rfl) (by kernel_rfl) (fun _ _ _ h => h) (Or.inl ⟨by rfl, ?y5⟩) hHeld ?r5
  case y5 => (intro w' hSw; obtain ⟨b0, b1, b2, b3, b4, b5, b6, b7, b8, b9, b10, b11⟩ := HBX8.out w' hSw; go_simp; (try with_reducible rfl))
  try simp only [Act.put, List.setIfInBounds_toArray, List.set_cons_zero, List.set_cons_succ]
  refine wpAnyH_ready (rs := [2]) (by kernel_rfl) (by simp) ?_
  refine AllReadyH.cons rfl (fun K hK => ?_) AllReadyH.nil
  go_simp
  refine HT3.out.mono ?_
  rintro e w9 ⟨aT3, aR3, tb3, rbs3, rfl, hs3, e3, r3, hb9⟩
  have HB9 : Hid (Below w8.heap.size w8.drew w9) := hb9
  have hEQ := HEQ.out w9 aT3 aR3 tb3 rbs3 HB9.out hs3 e3 r3
  clear hs3 e3 r3 hb9
  go_wp2_with fail
  refine hK.out _ _ ?_ (fun hHeld => ?_)
  · exact (grown_drew _ _).trans (grown_of_below HB9.out)
  clear hK K
  try simp only [Act.put, List.setIfInBounds_toArray, List.set_cons_zero, List.set_cons_succ]
  refine wpAnyH_ready (rs := [3]) (by kernel_rfl) (by simp) ?_
  refine AllReadyH.cons rfl (fun K hK => ?_) AllReadyH.nil
  go_simp
  refine hEQ.mono ?_
  rintro e w10 ⟨rfl, hb10⟩
  have HB10 : Hid (Below w9.heap.size w9 w10) := hb10
  clear hEQ hb10
  go_wp2_with fail
  refine hK.out _ _ ?_ (fun hHeld => ?_)
  · exact (grown_drew _ _).trans ((grown_of_below HB9.out).trans (grown_of_below HB10.out))
  clear hK K
  try simp only [Act.put, List.setIfInBounds_toArray, List.set_cons_zero, List.set_cons_succ]
  refine take_at (i := 4) 39 (v := ?v6) rfl rfl (by kernel_rfl) (by kernel_rfl) (by kernel_rfl) (fun _ _ _ h => h) (Or.inl ⟨by rfl, ?y6⟩) hHeld ?r6
  case y6 => (intro w' hSw; skip; go_simp; (try with_reducible rfl))
  try simp only [Act.put, List.setIfInBounds_toArray, List.set_cons_zero, List.set_cons_succ]
  refine wpAnyH_done (by kernel_rfl) ?_ _
  have HB810 : Hid (Below w8.heap.size w8 w10) := ((Below.drew (Below.refl _ _)).trans HB9.out).trans (HB10.out.mono (by have := HB9.out.size; simpa using this))
  have HG10 : Hid (w8.grownBy w10 none) := (grown_drew _ _).trans ((grown_of_below HB9.out).trans (grown_of_below HB10.out))
  have HBw10 : Hid (Below w.heap.size w w10) := bl_trans HBw8.out HB810.out
  have HT4 : Hid (Calls Tryz.prog 20 #[.agg #[.int .i64 x.t.k, .slice x.t.a x.t.len x.t.cap, .int .i64 x.t.n, .int .i64 x.t.s]] w10.drew (fun e w' => ∃ g, e = .returned (.agg #[.int .i64 x.t.k, .slice (some ⟨g, 0, none⟩) x.t.len x.t.len, .int .i64 x.t.n, .int .i64 x.t.s]) ∧ Bs w' (some ⟨g, 0, none⟩) x.t.len x.b ∧ Below w10.heap.size w10.drew w')) := HTT.out w10.drew (HBS.out.below (Below.drew HBw10.out))
  have HEQT : Hid (∀ W g4, Below w10.heap.size w10.drew W → Bs W (some ⟨g4, 0, none⟩) x.t.len x.b → Calls Tryz.prog 22 #[.agg #[.int .i64 x.t.k, .slice (some ⟨g2, 0, none⟩) x.t.len x.t.len, .int .i64 x.t.n, .int .i64 x.t.s], .agg #[.int .i64 x.t.k, .slice (some ⟨g4, 0, none⟩) x.t.len x.t.len, .int .i64 x.t.n, .int .i64 x.t.s]] W fun e w' => e = .returned (.bool true) ∧ Below W.heap.size W w') := by
    intro W g4 hb h
    have h710 := bl_trans HB78.out HB810.out
    exact HET.out W g2 g4 (HG2.out.below ((Below.drew h710).trans (hb.mono h710.size))) h
  go_wp2_with fail
  refine wp_region_held_drew (S := fun w' => w10.grownBy w' none) (by kernel_rfl) ?_ (fun hHeld => ?_)
  · exact grown_drew _ _
  refine take_at (i := 0) 40 (v := ?v7) rfl rfl (by kernel_rfl) (by kernel_rfl) (by kernel_rfl) (fun _ _ _ h => h) (Or.inl ⟨by rfl, ?y7⟩) hHeld ?r7
  case y7 => (intro w' hSw; obtain ⟨b0, b1, b2, b3, b4, b5, b6, b7, b8, b9, b10, b11⟩ := HBX8.out w' (HG10.out.trans hSw); go_simp; (try with_reducible rfl))
  try simp only [Act.put, List.setIfInBounds_toArray, List.set_cons_zero, List.set_cons_succ]
  refine take_at (i := 1) 41 (v := ?v8) rfl rfl (by kernel_rfl) (by kernel_rfl) (by kernel_rfl) (fun _ _ _ h => h) (Or.inl ⟨by rfl, ?y8⟩) hHeld ?r8
  case y8 => (intro w' hSw; obtain ⟨b0, b1, b2, b3, b4, b5, b6, b7, b8, b9, b10, b11⟩ := HBX8.out w' (HG10.out.trans hSw); go_simp; (try with_reducible rfl))
  try simp only [Act.put, List.setIfInBounds_toArray, List.set_cons_zero, List.set_cons_succ]
  refine wpAnyH_ready (rs := [2]) (by kernel_rfl) (by simp) ?_
  refine AllReadyH.cons rfl (fun K hK => ?_) AllReadyH.nil
  go_simp
  refine HT4.out.mono ?_
  rintro e w11 ⟨g4, rfl, hg4, hb11⟩
  have HB11 : Hid (Below w10.heap.size w10.drew w11) := hb11
  have hEQ := HEQT.out w11 g4 HB11.out hg4
  clear hg4 hb11
  go_wp2_with fail
  refine hK.out _ _ ?_ (fun hHeld => ?_)
  · exact (grown_drew _ _).trans (grown_of_below HB11.out)
  clear hK K
  try simp only [Act.put, List.setIfInBounds_toArray, List.set_cons_zero, List.set_cons_succ]
  refine wpAnyH_ready (rs := [3]) (by kernel_rfl) (by simp) ?_
  refine AllReadyH.cons rfl (fun K hK => ?_) AllReadyH.nil
  go_simp
  refine hEQ.mono ?_
  rintro e w12 ⟨rfl, hb12⟩
  have HB12 : Hid (Below w11.heap.size w11 w12) := hb12
  clear hEQ hb12
  go_wp2_with fail
  refine hK.out _ _ ?_ (fun hHeld => ?_)
  · exact (grown_drew _ _).trans ((grown_of_below HB11.out).trans (grown_of_below HB12.out))
  clear hK K
  try simp only [Act.put, List.setIfInBounds_toArray, List.set_cons_zero, List.set_cons_succ]
  refine take_at (i := 4) 44 (v := ?v9) rfl rfl (by kernel_rfl) (by kernel_rfl) (by kernel_rfl) (fun _ _ _ h => h) (Or.inl ⟨by rfl, ?y9⟩) hHeld ?r9
  case y9 => (intro w' hSw; skip; go_simp; (try with_reducible rfl))
  try simp only [Act.put, List.setIfInBounds_toArray, List.set_cons_zero, List.set_cons_succ]
  refine wpAnyH_done (by kernel_rfl) ?_ _
  go_wp2
  go_ret
  exact ⟨rfl, ((Below.drew HBw10.out).trans (HB11.out.mono HBw10.out.size)).trans (HB12.out.mono (by have := HBw10.out.size; have := HB11.out.size; simp at *; omega))⟩
end Go.Proofs.YtdcaicoomldmgaaGreatDoor
