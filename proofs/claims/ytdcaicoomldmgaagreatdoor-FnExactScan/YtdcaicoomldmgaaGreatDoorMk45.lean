/- Texts put together: StvD OpnA StvF -/
import Derived.Test.YtdcaicoomldmgaaGreatDoorMk44
import Derived.Test.YtdcaicoomldmgaaGreatDoorMk06
import Derived.Deep.Strs
import Derived.Deep.Slices
/- StvD -/
namespace Go.Proofs.YtdcaicoomldmgaaGreatDoor
open Go.RowKit Go.Deep
set_option maxRecDepth 100000

/-- A store of the call's own. -/
structure Copy (w : World) (B gT gR : Nat) (tb : List TB) (rbs : List RB) : Prop where
  ot : OwnTR w B (.slice (some ⟨gT, 0, none⟩) tb.length tb.length) tb
  tx : ∀ x ∈ tb, ∃ g, x.t.a = some ⟨g, 0, none⟩ ∧ x.t.cap = x.t.len ∧ B ≤ g ∧ OwnT w g x.t.len x.b
  rl : B ≤ gR ∧ gR < w.heap.size
  fz : ∀ j, j < rbs.length → w.frozen? ⟨gR, j, none⟩ = false
  rc : ∀ i x, rbs[i]? = some x → w.cell? ⟨gR, i, none⟩ = some (.slice x.a x.l.length x.cap) ∧ ∃ g, x.a = some ⟨g, 0, none⟩ ∧ B ≤ g ∧ OwnRR w B (.slice x.a x.l.length x.cap) x.l
theorem Copy.below {w w' : World} {B gT gR : Nat} {tb : List TB} {rbs : List RB} (h : Copy w B gT gR tb rbs) (hb : Below w.heap.size w w') : Copy w' B gT gR tb rbs := by
  refine ⟨h.ot.below hb, fun x hx => ?_, ⟨h.rl.1, Nat.lt_of_lt_of_le h.rl.2 hb.size⟩, fun j hj => (hb.frozen (p := ⟨gR, j, none⟩) h.rl.2).trans (h.fz j hj), fun i x hx => ?_⟩
  · obtain ⟨g, h1, h2, h3, h4⟩ := h.tx x hx
    exact ⟨g, h1, h2, h3, h4.below hb⟩
  · obtain ⟨h1, g, h2, h3, h4⟩ := h.rc i x hx
    exact ⟨(hb.cell (p := ⟨gR, i, none⟩) h.rl.2).trans h1, g, h2, h3, h4.below hb⟩
theorem Copy.but {w w' : World} {B c gT gR : Nat} {tb : List TB} {rbs : List RB} (h : Copy w B gT gR tb rbs) (hb : But c w w') (hc : c < B) : Copy w' B gT gR tb rbs := by
  have hr := h.rl.1
  refine ⟨h.ot.but hb hc, fun x hx => ?_, ⟨h.rl.1, by rw [hb.size]; exact h.rl.2⟩, fun j hj => (hb.frozen (p := ⟨gR, j, none⟩) (by show gR ≠ c; omega)).trans (h.fz j hj), fun i x hx => ?_⟩
  · obtain ⟨g, h1, h2, h3, h4⟩ := h.tx x hx
    exact ⟨g, h1, h2, h3, h4.but hb (by omega)⟩
  · obtain ⟨h1, g, h2, h3, h4⟩ := h.rc i x hx
    exact ⟨(hb.cell (p := ⟨gR, i, none⟩) (by show gR ≠ c; omega)).trans h1, g, h2, h3, h4.but hb (fun g' hg' => by have := (h4.2 g' hg').1; omega)⟩
theorem Copy.sarg {w : World} {B gT gR : Nat} {tb : List TB} {rbs : List RB} (h : Copy w B gT gR tb rbs) (hf : ∀ x ∈ tb, x.t.fits) (hn : tb.length ≤ 1048576) (hm : rbs.length ≤ 1048576) (hl : ∀ x ∈ rbs, x.l.length ≤ 1048576) : SArg w (some ⟨gT, 0, none⟩) tb (some ⟨gR, 0, none⟩) rbs := by
  refine ⟨?_, fun x hx => ?_, hf, hn, .inr ⟨gR, 0, rfl, h.rl.2, fun i x hx => by rw [Nat.zero_add]; exact (h.rc i x hx).1⟩, fun x hx => ⟨?_, hl x hx⟩, hm⟩
  · obtain ⟨a, c, hv, hr, _⟩ := h.ot.form
    simp only [Value.slice.injEq] at hv
    rw [hv.1]
    exact hr
  · obtain ⟨g, h1, _, _, h4⟩ := h.tx x hx
    rw [h1]
    exact h4.1
  · obtain ⟨i, hi, rfl⟩ := List.mem_iff_getElem.1 hx
    obtain ⟨_, g, h2, _, h4⟩ := h.rc i _ (List.getElem?_eq_getElem hi)
    rw [h2] at h4 ⊢
    exact h4.row
theorem fits_td {x y : TB} (h : x.td = y.td) (hy : y.t.fits) : x.t.fits := by
  have h1 : x.t.n = y.t.n := congrArg TD.n h
  have h2 : x.t.s = y.t.s := congrArg TD.s h
  unfold Tm.fits at *
  rw [h1, h2]
  exact hy
theorem fits_map {l m : List TB} (h : l.map TB.td = m.map TB.td) (hm : ∀ y ∈ m, y.t.fits) : ∀ x ∈ l, x.t.fits := by
  intro x hx
  have h1 : x.td ∈ m.map TB.td := by rw [← h]; exact List.mem_map_of_mem (f := TB.td) hx
  obtain ⟨y, hy, e⟩ := List.mem_map.1 h1
  exact fits_td e.symm (hm y hy)
theorem lens_map {l m : List RB} (h : l.map RB.l = m.map RB.l) (hm : ∀ y ∈ m, y.l.length ≤ 1048576) : ∀ x ∈ l, x.l.length ≤ 1048576 := by
  intro x hx
  have h1 : x.l ∈ m.map RB.l := by rw [← h]; exact List.mem_map_of_mem (f := RB.l) hx
  obtain ⟨y, hy, e⟩ := List.mem_map.1 h1
  rw [← e]
  exact hm y hy

/-- What copying a store answers. -/
def CopyS (w : World) (tb : List TB) (rbs : List RB) (e : Ending) (w' : World) : Prop :=
  ∃ gT gR tb' rbs', e = .returned (.agg #[.slice (some ⟨gT, 0, none⟩) tb.length tb.length, .slice (some ⟨gR, 0, none⟩) rbs.length rbs.length]) ∧ Copy w' w.heap.size gT gR tb' rbs' ∧ tb'.map TB.td = tb.map TB.td ∧ rbs'.map RB.l = rbs.map RB.l ∧ Below w.heap.size w w'

set_option maxHeartbeats 4000000 in
theorem toStore_any (aT aR : Option Addr) (capT capR : Nat) (tb : List TB) (rbs : List RB) (w : World) (hnT : tb.length ≤ 1048576) (hnR : rbs.length ≤ 1048576) (hT : TRow w aT tb) (hTx : TTxt w tb) (hR : SRow w aR rbs) (hH : SHoldW w rbs) :
    Calls Tryz.prog 19 #[.agg #[.slice aT tb.length capT, .slice aR rbs.length capR]] w (CopyS w tb rbs) := by
  have T1 := fun (W : World) (hW : Below w.heap.size w W) => toTermS_any aT capT tb W hnT (hT.below hW) (hTx.below hW)
  have HT2 : Hid (∀ W, Below w.heap.size w W → Calls Tryz.prog 56 #[.slice aR rbs.length capR] W (CopyR W rbs)) := fun W hW => toRowSS_any aR capR rbs W hnR (hR.below hW) (fun x hx => ⟨(hH x hx).1.below hW, (hH x hx).2⟩)
  obtain ⟨nT, hNT⟩ : ∃ nT, nT = tb.length := ⟨_, rfl⟩
  obtain ⟨nR, hNR⟩ : ∃ nR, nR = rbs.length := ⟨_, rfl⟩
  have HNT : Hid (nT = tb.length) := hNT
  have HNR : Hid (nR = rbs.length) := hNR
  rw [← hNT] at T1
  rw [← hNR] at HT2
  rw [← hNT, ← hNR]
  clear hT hTx hR hH hnT hnR hNT hNR
  go_enter Tryz.func19, Tryz.ntmps19
  go_wp2_with fail
  refine (T1 _ (bl_alloc (bl_alloc (bl_a _) _) _)).mono ?_
  rintro e w1 ⟨L, rfl, hO, hE, hX, hb1⟩
  rw [← HNT.out] at hO
  rw [← HNT.out]
  have e3 : (((w.alloc (.cells #[.slice aT nT capT, .slice aR nR capR] 44)).alloc (.cells #[.slice none 0 0, .slice none 0 0] 29)).alloc (.cells #[.slice none 0 0, .slice none 0 0] 29)).heap.size = (w.heap.size + 1 + 1 + 1) := by simp
  rw [e3] at hO hX hb1 ⊢
  have HB1a : Hid (Below (w.heap.size + 1 + 1 + 1) (((w.alloc (.cells #[.slice aT nT capT, .slice aR nR capR] 44)).alloc (.cells #[.slice none 0 0, .slice none 0 0] 29)).alloc (.cells #[.slice none 0 0, .slice none 0 0] 29)) w1) := hb1
  have HBw1 : Hid (Below w.heap.size w w1) := (bl_alloc (bl_alloc (bl_a _) _) _).trans (hb1.mono (by omega))
  have HO : Hid (OwnTR w1 (w.heap.size + 1 + 1 + 1) (.slice (some ⟨(w.heap.size + 1 + 1 + 1), 0, none⟩) nT nT) L) := hO
  have HE : Hid (L.map TB.td = tb.map TB.td) := hE
  have HX : Hid (∀ x ∈ L, ∃ g, x.t.a = some ⟨g, 0, none⟩ ∧ x.t.cap = x.t.len ∧ (w.heap.size + 1 + 1 + 1) < g ∧ OwnT w1 g x.t.len x.b) := hX
  have hs1 : (w.heap.size + 1 + 1 + 1) < w1.heap.size := (hO.2 (w.heap.size + 1 + 1 + 1) rfl).2
  have c1 : w1.cell? ⟨w.heap.size, 1, none⟩ = some (.slice aR nR capR) := (HB1a.out.cell (p := ⟨w.heap.size, 1, none⟩) (by show w.heap.size < _; omega)).trans (by simp [go_sem])
  have r0 : w1.cell? ⟨w.heap.size + 1, 0, none⟩ = some (.slice none 0 0) := (HB1a.out.cell (p := ⟨w.heap.size + 1, 0, none⟩) (by show w.heap.size + 1 < _; omega)).trans (by simp [go_sem])
  have r1 : w1.cell? ⟨w.heap.size + 1, 1, none⟩ = some (.slice none 0 0) := (HB1a.out.cell (p := ⟨w.heap.size + 1, 1, none⟩) (by show w.heap.size + 1 < _; omega)).trans (by simp [go_sem])
  have r2 : w1.frozen? ⟨w.heap.size + 1, 0, none⟩ = false := (HB1a.out.frozen (p := ⟨w.heap.size + 1, 0, none⟩) (by show w.heap.size + 1 < _; omega)).trans (by simp [go_sem])
  have r3 : w1.frozen? ⟨w.heap.size + 1, 1, none⟩ = false := (HB1a.out.frozen (p := ⟨w.heap.size + 1, 1, none⟩) (by show w.heap.size + 1 < _; omega)).trans (by simp [go_sem])
  have o0 : w1.cell? ⟨(w.heap.size + 1 + 1), 0, none⟩ = some (.slice none 0 0) := (HB1a.out.cell (p := ⟨(w.heap.size + 1 + 1), 0, none⟩) (by show (w.heap.size + 1 + 1) < _; omega)).trans (by simp [go_sem])
  have o1 : w1.cell? ⟨(w.heap.size + 1 + 1), 1, none⟩ = some (.slice none 0 0) := (HB1a.out.cell (p := ⟨(w.heap.size + 1 + 1), 1, none⟩) (by show (w.heap.size + 1 + 1) < _; omega)).trans (by simp [go_sem])
  have o2 : w1.frozen? ⟨(w.heap.size + 1 + 1), 0, none⟩ = false := (HB1a.out.frozen (p := ⟨(w.heap.size + 1 + 1), 0, none⟩) (by show (w.heap.size + 1 + 1) < _; omega)).trans (by simp [go_sem])
  have o3 : w1.frozen? ⟨(w.heap.size + 1 + 1), 1, none⟩ = false := (HB1a.out.frozen (p := ⟨(w.heap.size + 1 + 1), 1, none⟩) (by show (w.heap.size + 1 + 1) < _; omega)).trans (by simp [go_sem])
  have HR : Hid (w1.cell? ⟨w.heap.size + 1, 0, none⟩ = some (.slice none 0 0) ∧ w1.cell? ⟨w.heap.size + 1, 1, none⟩ = some (.slice none 0 0) ∧ w1.frozen? ⟨w.heap.size + 1, 0, none⟩ = false ∧ w1.frozen? ⟨w.heap.size + 1, 1, none⟩ = false ∧ w1.cell? ⟨(w.heap.size + 1 + 1), 0, none⟩ = some (.slice none 0 0) ∧ w1.cell? ⟨(w.heap.size + 1 + 1), 1, none⟩ = some (.slice none 0 0) ∧ w1.frozen? ⟨(w.heap.size + 1 + 1), 0, none⟩ = false ∧ w1.frozen? ⟨(w.heap.size + 1 + 1), 1, none⟩ = false) := ⟨r0, r1, r2, r3, o0, o1, o2, o3⟩
  have hbut1 : But (w.heap.size + 1 + 1) w1 (w1.setCell ⟨(w.heap.size + 1 + 1), 0, none⟩ (.slice (some ⟨(w.heap.size + 1 + 1 + 1), 0, none⟩) nT nT)) := (But.refl _ _).set _ _
  have HBUT1 : Hid (But (w.heap.size + 1 + 1) w1 (w1.setCell ⟨(w.heap.size + 1 + 1), 0, none⟩ (.slice (some ⟨(w.heap.size + 1 + 1 + 1), 0, none⟩) nT nT))) := hbut1
  have T2 := HT2.out (w1.setCell ⟨(w.heap.size + 1 + 1), 0, none⟩ (.slice (some ⟨(w.heap.size + 1 + 1 + 1), 0, none⟩) nT nT)) (HBw1.out.trans (hbut1.below (by omega)))
  clear T1 hO hE hX hb1 hbut1 r0 r1 r2 r3
  go_wp2_with fail
  refine T2.mono ?_
  rintro e w2 ⟨M, rfl, hM, hs2, hF, hC, hb2⟩
  have es : (w1.setCell ⟨(w.heap.size + 1 + 1), 0, none⟩ (.slice (some ⟨(w.heap.size + 1 + 1 + 1), 0, none⟩) nT nT)).heap.size = w1.heap.size := by simp
  rw [es] at hs2 hF hC hb2 ⊢
  rw [← HNR.out] at hF ⊢
  have HM : Hid (M.map RB.l = rbs.map RB.l) := hM
  have HB2 : Hid (Below w1.heap.size (w1.setCell ⟨(w.heap.size + 1 + 1), 0, none⟩ (.slice (some ⟨(w.heap.size + 1 + 1 + 1), 0, none⟩) nT nT)) w2) := hb2
  have HF : Hid (∀ j, j < nR → w2.frozen? ⟨w1.heap.size, j, none⟩ = false) := hF
  have HC : Hid (∀ i x, M[i]? = some x → w2.cell? ⟨w1.heap.size, i, none⟩ = some (.slice x.a x.l.length x.cap) ∧ ∃ g, x.a = some ⟨g, 0, none⟩ ∧ w1.heap.size < g ∧ OwnRR w2 w1.heap.size (.slice x.a x.l.length x.cap) x.l) := hC
  have hcc : ∀ b o, b < w1.heap.size → b ≠ (w.heap.size + 1 + 1) → w2.cell? ⟨b, o, none⟩ = w1.cell? ⟨b, o, none⟩ := fun b o hb hne => (HB2.out.cell (p := ⟨b, o, none⟩) hb).trans (HBUT1.out.cell (p := ⟨b, o, none⟩) hne)
  have hff : ∀ b o, b < w1.heap.size → w2.frozen? ⟨b, o, none⟩ = w1.frozen? ⟨b, o, none⟩ := fun b o hb => (HB2.out.frozen (p := ⟨b, o, none⟩) hb).trans (by rw [World.frozen?_setCell])
  have r0 := (hcc (w.heap.size + 1) 0 (by omega) (by omega)).trans HR.out.1
  have r1 := (hcc (w.heap.size + 1) 1 (by omega) (by omega)).trans HR.out.2.1
  have r2 := (hff (w.heap.size + 1) 0 (by omega)).trans HR.out.2.2.1
  have r3 := (hff (w.heap.size + 1) 1 (by omega)).trans HR.out.2.2.2.1
  have q0 : w2.cell? ⟨(w.heap.size + 1 + 1), 0, none⟩ = some (.slice (some ⟨(w.heap.size + 1 + 1 + 1), 0, none⟩) nT nT) := (HB2.out.cell (p := ⟨(w.heap.size + 1 + 1), 0, none⟩) (by show (w.heap.size + 1 + 1) < _; omega)).trans (set_same HR.out.2.2.2.2.1)
  have q1 : w2.cell? ⟨(w.heap.size + 1 + 1), 1, none⟩ = some (.slice none 0 0) := (HB2.out.cell (p := ⟨(w.heap.size + 1 + 1), 1, none⟩) (by show (w.heap.size + 1 + 1) < _; omega)).trans ((set_other (by omega)).trans HR.out.2.2.2.2.2.1)
  have q2 := (hff (w.heap.size + 1 + 1) 1 (by omega)).trans HR.out.2.2.2.2.2.2.2
  have HBw2 : Hid (Below w.heap.size w w2) := (HBw1.out.trans (HBUT1.out.below (by omega))).trans (HB2.out.mono (by have := HBw1.out.size; omega))
  have HCP : Hid (Copy w2 (w.heap.size + 1 + 1 + 1) (w.heap.size + 1 + 1 + 1) w1.heap.size L M) := by
    have hLn : L.length = nT := by
      obtain ⟨_, _, _, _, _, _, h, _⟩ := ownT_cells HO.out
      exact h.symm
    have hMn : M.length = nR := by
      have := congrArg List.length HM.out
      rw [List.length_map, List.length_map, ← HNR.out] at this
      exact this
    have hbb : Below w1.heap.size (w1.setCell ⟨(w.heap.size + 1 + 1), 0, none⟩ (.slice (some ⟨(w.heap.size + 1 + 1 + 1), 0, none⟩) nT nT)) w2 := HB2.out
    refine ⟨?_, fun x hx => ?_, ⟨by omega, by omega⟩, fun j hj => HF.out j (by omega), fun i x hx => ?_⟩
    · rw [hLn]
      have h1 : OwnTR (w1.setCell ⟨(w.heap.size + 1 + 1), 0, none⟩ (.slice (some ⟨(w.heap.size + 1 + 1 + 1), 0, none⟩) nT nT)) (w.heap.size + 1 + 1 + 1) (.slice (some ⟨(w.heap.size + 1 + 1 + 1), 0, none⟩) nT nT) L := HO.out.but HBUT1.out (by omega)
      exact h1.below (by rw [es]; exact hbb)
    · obtain ⟨g, g1, g2, g3, g4⟩ := HX.out x hx
      have h1 : OwnT (w1.setCell ⟨(w.heap.size + 1 + 1), 0, none⟩ (.slice (some ⟨(w.heap.size + 1 + 1 + 1), 0, none⟩) nT nT)) g x.t.len x.b := g4.but HBUT1.out (by omega)
      exact ⟨g, g1, g2, by omega, h1.below (by rw [es]; exact hbb)⟩
    · obtain ⟨g1, g, g2, g3, g4⟩ := HC.out i x hx
      exact ⟨g1, g, g2, by omega, g4.base (by omega)⟩
  clear T2 hM hs2 hF hC hb2 hcc hff HB2 o0 o1 o2 o3 c1
  go_wp2
  refine bodyPost_ret (v := .agg #[.slice (some ⟨(w.heap.size + 1 + 1 + 1), 0, none⟩) nT nT, .slice (some ⟨w1.heap.size, 0, none⟩) nR nR]) (by simp [results, Tryz.results19, go_sem, *]) rfl ?_
  refine ⟨(w.heap.size + 1 + 1 + 1), w1.heap.size, L, M, by rw [← HNT.out, ← HNR.out], ?_, HE.out, HM.out, ?_⟩
  · have hB : ∀ W, Copy W (w.heap.size + 1 + 1 + 1) (w.heap.size + 1 + 1 + 1) w1.heap.size L M → Copy W w.heap.size (w.heap.size + 1 + 1 + 1) w1.heap.size L M := fun W h => ⟨h.ot.base (by omega), fun x hx => by obtain ⟨g, g1, g2, g3, g4⟩ := h.tx x hx; exact ⟨g, g1, g2, by omega, g4⟩, ⟨by have := h.rl.1; omega, h.rl.2⟩, h.fz, fun i x hx => by obtain ⟨g1, g, g2, g3, g4⟩ := h.rc i x hx; exact ⟨g1, g, g2, by omega, g4.base (by omega)⟩⟩
    refine hB _ ?_
    repeat (first | exact HCP.out | (refine Copy.but ?_ ((But.refl _ _).set _ _) (by omega)))
  · repeat (first | exact HBw2.out | (refine bl_set ?_ (by first | (dsimp only; omega) | omega) _))
end Go.Proofs.YtdcaicoomldmgaaGreatDoor

/- OpnA -/
namespace Go.Proofs.YtdcaicoomldmgaaGreatDoor
open Go.ChangeShapes Go.WideShapes Go.ChangeAt Go.RowKit Go.Joins Go.Deep

theorem Tryz.cells107 : Tryz.prog.cellsOf 107 = 12 := by kernel_rfl

def tmCells (t : Tm) : List Value := [.int .i64 t.k, .slice t.a t.len t.cap, .int .i64 t.n, .int .i64 t.s]

set_option maxRecDepth 100000 in
/-- A term's cells, opened. -/
theorem trod_term {H : Type} {enc : TypeId × Value → H} {W : World} {fuel : Nat} {cs : List Value} {x : DataW H × List MemPlace}
    (h : DataW.trod enc Tryz.prog W 0 (fun _ => true) true fuel 47 cs = some x) :
    ∃ (t : Tm) (bs : List Int), cs = tmCells t ∧ t.fits ∧ t.len ≤ 9223372036854775807 ∧ (t.len ≤ 1048576 → Bs W t.a t.len bs) := by
  obtain ⟨y0, y1, y2, y3, m, _, hlen, hy0, hy1, hy2, hy3⟩ := trod_struct4 Tryz.underlying47 h
  rw [Tryz.cells47] at hlen
  match cs, hlen with
  | [c0, c1, c2, c3], _ =>
    have e3 : Tryz.prog.cellsOf 3 = 1 := by kernel_rfl
    have e8 : Tryz.prog.cellsOf 45 = 1 := by kernel_rfl
    simp [e3, e8] at hy0 hy1 hy2 hy3
    obtain ⟨k, e0, _, wk⟩ := DataW.trod_int Tryz.underlying3 hy0
    obtain ⟨n, e2, _, wn⟩ := DataW.trod_int Tryz.underlying3 hy2
    obtain ⟨s, e3, _, ws⟩ := DataW.trod_int Tryz.underlying3 hy3
    simp at e0 e2 e3
    subst e0 e2 e3
    have bn := bounds_i64 wn
    have bsc := bounds_i64 ws
    rcases open_ints Tryz.underlying45 Tryz.underlying5 Tryz.cells5 hy1 with ⟨hcs, _⟩ | ⟨x, l, c, zs, hcs, _, hl, hm, hz, _, hcell, hwz⟩
    · simp at hcs
      subst hcs
      exact ⟨⟨k, none, 0, 0, n, s⟩, [], rfl, ⟨bn.1, bn.2, bsc.1, bsc.2⟩, by show (0 : Nat) ≤ _; omega, fun _ => ⟨rfl, by show (0 : Nat) ≤ _; omega, by simp, .inl rfl⟩⟩
    · simp at hcs
      subst hcs
      simp only [if_true] at hz
      refine ⟨⟨k, some x, l, c, n, s⟩, zs.take l, rfl, ⟨bn.1, bn.2, bsc.1, bsc.2⟩, ?_, fun h20 => ?_⟩
      · show l ≤ _
        unfold maxLen at hm
        omega
      · exact Bs.of_cells hl hz h20 hcell hwz

set_option maxRecDepth 100000 in
/-- A triple's cells, opened. -/
theorem trod_triple {H : Type} {enc : TypeId × Value → H} {W : World} {fuel : Nat} {cs : List Value} {x : DataW H × List MemPlace}
    (h : DataW.trod enc Tryz.prog W 0 (fun _ => true) true fuel 107 cs = some x) :
    ∃ (t u v : Tm) (bt bu bv : List Int), cs = tmCells t ++ (tmCells u ++ tmCells v) ∧ (t.fits ∧ u.fits ∧ v.fits) ∧ (t.len ≤ 9223372036854775807 ∧ u.len ≤ 9223372036854775807 ∧ v.len ≤ 9223372036854775807) ∧
      ((t.len ≤ 1048576 → Bs W t.a t.len bt) ∧ (u.len ≤ 1048576 → Bs W u.a u.len bu) ∧ (v.len ≤ 1048576 → Bs W v.a v.len bv)) := by
  obtain ⟨y0, y1, y2, m, _, hlen, hy0, hy1, hy2⟩ := trod_struct3 Tryz.underlying107 h
  rw [Tryz.cells107] at hlen
  simp only [Tryz.cells47] at hy0 hy1 hy2
  obtain ⟨t, bt, e0, f0, l0, b0⟩ := trod_term hy0
  obtain ⟨u, bu, e1, f1, l1, b1⟩ := trod_term hy1
  obtain ⟨v, bv, e2, f2, l2, b2⟩ := trod_term hy2
  refine ⟨t, u, v, bt, bu, bv, ?_, ⟨f0, f1, f2⟩, ⟨l0, l1, l2⟩, ⟨b0, b1, b2⟩⟩
  rw [← e0, ← e1, ← e2]
  match cs, hlen with
  | [_, _, _, _, _, _, _, _, _, _, _, _], _ => rfl

set_option maxRecDepth 100000 in
/-- A triple that came in, opened. -/
theorem open_triple {H : Type} {enc : TypeId × Value → H} {W : World} {b0 : Nat} {x : Value} {d : DataW H} {p : List MemPlace}
    (hv : Value.okWide Tryz.prog W .any b0 107 x) (h : DataW.Trod enc Tryz.prog W 0 (fun _ => true) true 107 x d p) :
    ∃ (t u v : Tm) (bt bu bv : List Int), x = .agg #[.int .i64 t.k, .slice t.a t.len t.cap, .int .i64 t.n, .int .i64 t.s, .int .i64 u.k, .slice u.a u.len u.cap, .int .i64 u.n, .int .i64 u.s, .int .i64 v.k, .slice v.a v.len v.cap, .int .i64 v.n, .int .i64 v.s] ∧ (t.fits ∧ u.fits ∧ v.fits) ∧ (t.len ≤ 9223372036854775807 ∧ u.len ≤ 9223372036854775807 ∧ v.len ≤ 9223372036854775807) ∧
      ((t.len ≤ 1048576 → Bs W t.a t.len bt) ∧ (u.len ≤ 1048576 → Bs W u.a u.len bu) ∧ (v.len ≤ 1048576 → Bs W v.a v.len bv)) := by
  obtain ⟨cs, rfl, hsz⟩ := okWide_struct Tryz.underlying107 hv
  obtain ⟨fuel, hf⟩ := h
  obtain ⟨t, u, v, bt, bu, bv, hcs, hr⟩ := trod_triple hf
  refine ⟨t, u, v, bt, bu, bv, ?_, hr⟩
  have : cs.toList = tmCells t ++ (tmCells u ++ tmCells v) := by simpa [Value.cells] using hcs
  cases cs
  simp at this
  subst this
  rfl
end Go.Proofs.YtdcaicoomldmgaaGreatDoor

/- StvF -/
namespace Go.Proofs.YtdcaicoomldmgaaGreatDoor
open Go.ChangeShapes Go.WideShapes Go.ChangeAt Go.RowKit Go.Joins Go.Deep

theorem Tryz.cells44 : Tryz.prog.cellsOf 44 = 2 := by kernel_rfl
theorem Tryz.cells149 : Tryz.prog.cellsOf 149 = 3 := by kernel_rfl
theorem Tryz.cells122 : Tryz.prog.cellsOf 122 = 1 := by kernel_rfl
theorem Tryz.cells42 : Tryz.prog.cellsOf 42 = 1 := by kernel_rfl
theorem Tryz.cells41 : Tryz.prog.cellsOf 41 = 1 := by kernel_rfl

theorem addr_none (b off i : Nat) : (⟨b, off, none⟩ : Addr).add i = ⟨b, off + i, none⟩ := by
  by_cases h0 : i = 0 <;> simp [Addr.add, h0]

/-- A row that came in, opened, whatever its elements are. -/
theorem open_row {H Q : Type} {enc : TypeId × Value → H} {W : World} {fuel : Nat} {c : Value} {x : DataW H × List MemPlace} {t e : TypeId} {k : Nat} (cell : Q → List Value) (ok : Q → Prop)
    (ht : Tryz.prog.underlying t = some (.slice e)) (hk : Tryz.prog.cellsOf e = k) (h0 : 0 < k) (hcl : ∀ q, (cell q).length = k)
    (hq : ∀ (n : Nat) (cs : List Value) (y : DataW H × List MemPlace), DataW.trod enc Tryz.prog W 0 (fun _ => true) true n e cs = some y → ∃ q, cs = cell q ∧ ok q)
    (h : DataW.trod enc Tryz.prog W 0 (fun _ => true) true fuel t [c] = some x) :
    ∃ (a : Option Addr) (cap : Nat) (l : List Q), c = .slice a l.length cap ∧ l.length ≤ 9223372036854775807 ∧
      (l = [] ∨ ∃ b off, a = some ⟨b, off, none⟩ ∧ b < W.heap.size ∧ ∀ j u, (l.flatMap cell)[j]? = some u → W.cell? ⟨b, off + j, none⟩ = some u) ∧ ∀ q ∈ l, ok q := by
  rcases open_slice ht h with ⟨hcs, _⟩ | ⟨a, len, cap, m, n, D, Pl, hcs, _, hl, hm, hmm, _, hx⟩
  · simp at hcs
    subst hcs
    exact ⟨none, 0, [], rfl, by simp, .inl rfl, fun q hq => by cases hq⟩
  · simp at hcs
    subst hcs
    simp only [if_true] at hmm
    subst hmm
    rw [hk] at hx
    have hh : ∀ i : Fin len, ∃ q : Q, ok q ∧ W.cells? 0 (a.add (i.1 * k)) k = some (cell q) := by
      intro i
      obtain ⟨cs', hc, ht'⟩ := hx i.1 (by have := i.2; omega)
      obtain ⟨q, rfl, hok⟩ := hq _ _ _ ht'
      exact ⟨q, hok, hc⟩
    obtain ⟨F, hF⟩ := Classical.axiomOfChoice hh
    refine ⟨some a, m, List.ofFn F, by simp, by unfold maxLen at hm; simp; omega, ?_, fun q hq => ?_⟩
    · by_cases hn : len = 0
      · subst hn
        exact .inl (by simp)
      right
      obtain ⟨b, off, spot⟩ := a
      obtain ⟨_, _, hz⟩ := World.cells?_some (hF ⟨0, by omega⟩).2
      have h00 := hz 0 h0
      have hsome : ∃ v, (cell (F ⟨0, by omega⟩))[0]? = some v := ⟨_, List.getElem?_eq_getElem (by rw [hcl]; exact h0)⟩
      obtain ⟨v, hv⟩ := hsome
      rw [hv] at h00
      have hspot : spot = none := by
        have := World.cell?_spot (w := W) (a := ((⟨b, off, spot⟩ : Addr).add (0 * k)).add 0) (by rw [h00])
        simpa [Addr.add] using this
      subst hspot
      refine ⟨b, off, rfl, ?_, fun j u hu => ?_⟩
      · rw [addr_none, addr_none] at h00
        exact cell_lt (a := ⟨b, off + 0 * k + 0, none⟩) h00
      · have hj : j < ((List.ofFn F).flatMap cell).length := by
          obtain ⟨h1, _⟩ := List.getElem?_eq_some_iff.1 hu
          exact h1
        rw [flatMap_len cell k hcl, List.length_ofFn] at hj
        have hi : j / k < len := (Nat.div_lt_iff_lt_mul h0).2 hj
        have hr : j % k < k := Nat.mod_lt _ h0
        have hd : j = j / k * k + j % k := (Nat.div_add_mod' j k).symm
        rw [hd, flatMap_get cell k hcl _ _ _ (by simpa using hi) hr] at hu
        obtain ⟨_, _, hc⟩ := World.cells?_some (hF ⟨j / k, hi⟩).2
        have h1 := hc (j % k) hr
        rw [addr_none, addr_none] at h1
        have e1 : off + j = off + j / k * k + j % k := by omega
        rw [e1, h1]
        simpa using hu
    · obtain ⟨i, rfl⟩ := List.mem_ofFn.1 hq
      exact (hF i).1

/-- What is known of a term that came in. -/
def CameT (W : World) (x : TB) : Prop := x.t.fits ∧ x.t.len ≤ 9223372036854775807 ∧ (x.t.len ≤ 1048576 → Bs W x.t.a x.t.len x.b)
/-- What is known of a list of rows that came in. -/
def CameR (W : World) (x : RB) : Prop := RRowW W x.a x.l ∧ x.l.length ≤ 9223372036854775807

set_option maxRecDepth 100000 in
theorem open_terms {H : Type} {enc : TypeId × Value → H} {W : World} {fuel : Nat} {c : Value} {x : DataW H × List MemPlace}
    (h : DataW.trod enc Tryz.prog W 0 (fun _ => true) true fuel 41 [c] = some x) :
    ∃ (a : Option Addr) (cap : Nat) (l : List TB), c = .slice a l.length cap ∧ l.length ≤ 9223372036854775807 ∧ TRow W a l ∧ ∀ y ∈ l, CameT W y := by
  refine open_row (fun y : TB => enc4 y.t) (CameT W) Tryz.underlying41 Tryz.cells47 (by omega) (fun _ => rfl) (fun n cs y hy => ?_) h
  obtain ⟨t, bs, e, hf, hl, hb⟩ := trod_term hy
  exact ⟨⟨t, bs⟩, e, hf, hl, hb⟩

set_option maxRecDepth 100000 in
theorem trod_row {H : Type} {enc : TypeId × Value → H} {W : World} {fuel : Nat} {cs : List Value} {x : DataW H × List MemPlace}
    (h : DataW.trod enc Tryz.prog W 0 (fun _ => true) true fuel 149 cs = some x) : ∃ r : Int × Int × Int, cs = encR r := by
  obtain ⟨y0, y1, y2, m, _, hlen, hy0, hy1, hy2⟩ := trod_struct3 Tryz.underlying149 h
  rw [Tryz.cells149] at hlen
  match cs, hlen with
  | [c0, c1, c2], _ =>
    have e3 : Tryz.prog.cellsOf 3 = 1 := by kernel_rfl
    simp [e3] at hy0 hy1 hy2
    obtain ⟨k, e0, _, _⟩ := DataW.trod_int Tryz.underlying3 hy0
    obtain ⟨n, e1, _, _⟩ := DataW.trod_int Tryz.underlying3 hy1
    obtain ⟨s, e2, _, _⟩ := DataW.trod_int Tryz.underlying3 hy2
    simp at e0 e1 e2
    subst e0 e1 e2
    exact ⟨(k, n, s), rfl⟩

set_option maxRecDepth 100000 in
theorem open_rows {H : Type} {enc : TypeId × Value → H} {W : World} {fuel : Nat} {cs : List Value} {x : DataW H × List MemPlace}
    (h : DataW.trod enc Tryz.prog W 0 (fun _ => true) true fuel 122 cs = some x) : ∃ q : RB, cs = [q.v] ∧ CameR W q := by
  obtain ⟨c, rfl⟩ : ∃ c, cs = [c] := by
    rcases open_slice Tryz.underlying122 h with ⟨hcs, _⟩ | ⟨a, len, cap, m, n, D, Pl, hcs, _⟩
    · exact ⟨_, hcs⟩
    · exact ⟨_, hcs⟩
  obtain ⟨a, cap, l, rfl, hn, hr, _⟩ := open_row encR (fun _ => True) Tryz.underlying122 Tryz.cells149 (by omega) encR_len (fun n cs y hy => by obtain ⟨r, hr⟩ := trod_row hy; exact ⟨r, hr, trivial⟩) h
  exact ⟨⟨a, cap, l⟩, rfl, hr, hn⟩

set_option maxRecDepth 100000 in
/-- A store that came in, opened. -/
theorem open_store {H : Type} {enc : TypeId × Value → H} {W : World} {b0 : Nat} {x : Value} {d : DataW H} {p : List MemPlace}
    (hv : Value.okWide Tryz.prog W .any b0 44 x) (h : DataW.Trod enc Tryz.prog W 0 (fun _ => true) true 44 x d p) :
    ∃ (aT aR : Option Addr) (capT capR : Nat) (tb : List TB) (rbs : List RB), x = .agg #[.slice aT tb.length capT, .slice aR rbs.length capR] ∧ tb.length ≤ 9223372036854775807 ∧ rbs.length ≤ 9223372036854775807 ∧
      TRow W aT tb ∧ (∀ y ∈ tb, CameT W y) ∧ SRow W aR rbs ∧ ∀ y ∈ rbs, CameR W y := by
  obtain ⟨cs, rfl, hsz⟩ := okWide_struct Tryz.underlying44 hv
  rw [Tryz.cells44] at hsz
  obtain ⟨fuel, hf⟩ := h
  obtain ⟨y0, y1, m, _, _, hy0, hy1⟩ := trod_struct2 Tryz.underlying44 hf
  obtain ⟨c0, c1, rfl⟩ : ∃ c0 c1, cs = #[c0, c1] := by
    cases cs with
    | mk l => match l, hsz with
      | [c0, c1], _ => exact ⟨c0, c1, rfl⟩
  simp [Tryz.cells41, Tryz.cells42, Value.cells] at hy0 hy1
  obtain ⟨aT, capT, tb, rfl, hnT, hT, hTC⟩ := open_terms hy0
  obtain ⟨aR, capR, rbs, rfl, hnR, hR, hRC⟩ := open_row (fun y : RB => [y.v]) (CameR W) Tryz.underlying42 Tryz.cells122 (by omega) (fun _ => rfl) (fun n cs y hy => open_rows hy) hy1
  refine ⟨aT, aR, capT, capR, tb, rbs, rfl, hnT, hnR, hT, hTC, ?_, hRC⟩
  rcases hR with hR | ⟨b, off, ha, hl, hc⟩
  · exact .inl hR
  · refine .inr ⟨b, off, ha, hl, fun i y hy => hc i _ ?_⟩
    obtain ⟨hi, e⟩ := List.getElem?_eq_some_iff.1 hy
    have := flatMap_get (fun y : RB => [y.v]) 1 (fun _ => rfl) rbs i 0 hi (by omega)
    rw [Nat.mul_one, Nat.add_zero] at this
    rw [this, e]
    rfl
end Go.Proofs.YtdcaicoomldmgaaGreatDoor
