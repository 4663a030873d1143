/- PROVED: at every store, order and keys the program's Scan answers as its model, writes into no argument, and its answer owns its memory (FnExactScanCardSaid; no condition; the library's three tables lie as the program's text lays them, which the card ties). Texts put together: DvStxG DvStxH DvStxI -/
import Derived.Test.YtdcaicoomldmgaaGreatDoorMkYb
import Derived.Test.YtdcaicoomldmgaaGreatDoorMk46
import Derived.Test.YtdcaicoomldmgaaGreatDoorMk43
import Derived.Test.YtdcaicoomldmgaaGreatDoorCards
import Derived.Test.YtdcaicoomldmgaaGreatDoorTie
import Derived.LaidMore
import Derived.Stop.Joined
import Derived.Lib.LaidTab
import Derived.Stop.LaidErr
import Derived.SevenTiedAt
/- DvStxG -/
namespace Go.Proofs.YtdcaicoomldmgaaGreatDoor
open Go.RowKit Go.Deep
set_option maxRecDepth 100000

theorem flat3_int {l : List (Int × Int × Int)} {j : Nat} (hj : j < l.length * 3) : ∃ v, (flat3 l)[j]? = some (.int .i64 v) := by
  have hi : j / 3 < l.length := by omega
  have hc : j % 3 < 3 := Nat.mod_lt _ (by omega)
  have e : j = j / 3 * 3 + j % 3 := by omega
  have h := flat3_get l (j / 3) (j % 3) hi hc
  rw [← e] at h
  rw [h]
  have h3 : j % 3 = 0 ∨ j % 3 = 1 ∨ j % 3 = 2 := by omega
  rcases h3 with h3 | h3 | h3 <;> rw [h3] <;> exact ⟨_, rfl⟩
theorem Copy.tsk {w : World} {B gT gR : Nat} {tb : List TB} {rbs : List RB} (h : Copy w B gT gR tb rbs) : TsK B w.heap.size w (some ⟨gT, 0, none⟩) tb.length (tA tb) (tL tb) (tC tb) := by
  obtain ⟨h1, h2⟩ := h.ot.2 gT rfl
  refine .inr ⟨gT, rfl, h1, h2, fun i hi => ?_⟩
  obtain ⟨x, hx, hm, e1, e2, e3⟩ := tAt hi
  obtain ⟨c0, c1, c2, c3⟩ := ownT_at h.ot i x hx
  obtain ⟨g, ha, _, hB, ho⟩ := h.tx x hm
  rw [e1, e2, e3]
  refine ⟨⟨⟨_, c0⟩, c1, ⟨_, c2⟩, ⟨_, c3⟩⟩, ⟨ownT_fr h.ot _, ownT_fr h.ot _, ownT_fr h.ot _⟩, ho.1.2.1, .inr ⟨g, ha, hB, ho.2.1, fun j hj => ⟨ho.2.2.1 j hj, ho.2.2.2 j hj⟩⟩⟩
theorem Copy.ssk {w : World} {B gT gR : Nat} {tb : List TB} {rbs : List RB} (h : Copy w B gT gR tb rbs) (hl : ∀ x ∈ rbs, x.l.length ≤ 1048576) : SsK B w.heap.size w (some ⟨gR, 0, none⟩) rbs.length (rA rbs) (rL rbs) (rC rbs) := by
  refine .inr ⟨gR, rfl, h.rl.2, fun i hi => ?_⟩
  obtain ⟨x, hx, hm, e1, e2, e3⟩ := rAt hi
  obtain ⟨hc, g, ha, hB, ho⟩ := h.rc i x hx
  rw [e1, e2, e3]
  refine ⟨hc, hl x hm, .inr ⟨g, ha, hB, ?_, fun j hj => ?_⟩⟩
  · rw [ha] at ho
    exact (ho.2 g rfl).2
  · rw [ha] at ho
    obtain ⟨c, f⟩ := ownsRow_cells ho.1
    obtain ⟨v, hv⟩ := flat3_int hj
    exact ⟨⟨v, c j _ hv⟩, f j⟩
theorem Copy.caps {w : World} {B gT gR : Nat} {tb : List TB} {rbs : List RB} (h : Copy w B gT gR tb rbs) : ∀ x ∈ rbs, x.l.length ≤ x.cap := fun x hx => by
  obtain ⟨i, hi, rfl⟩ := List.getElem_of_mem hx
  obtain ⟨_, g, _, _, ho⟩ := h.rc i _ (List.getElem?_eq_getElem hi)
  obtain ⟨a, c, hv, _, hle⟩ := ho.form
  simp only [Value.slice.injEq] at hv
  rw [hv.2.2]
  exact hle

/-- A copy of a store in a world: what it says, and that it may be marked. -/
structure CX (B C : Nat) (w : World) (gT gR nT nR : Nat) (tb tb' : List TB) (rbs rbs' : List RB) : Prop where
  arg : SArg w (some ⟨gT, 0, none⟩) tb' (some ⟨gR, 0, none⟩) rbs'
  cap : ∀ x ∈ rbs', x.l.length ≤ x.cap
  td : tb'.map TB.td = tb.map TB.td
  rl : rbs'.map RB.l = rbs.map RB.l
  nt : tb'.length = nT
  nr : rbs'.length = nR
  ts : TsK B C w (some ⟨gT, 0, none⟩) nT (tA tb') (tL tb') (tC tb')
  ss : SsK B C w (some ⟨gR, 0, none⟩) nR (rA rbs') (rL rbs') (rC rbs')
theorem CX.below {B C C' gT gR nT nR : Nat} {w w' : World} {tb tb' : List TB} {rbs rbs' : List RB} (h : CX B C w gT gR nT nR tb tb' rbs rbs') (hC : C ≤ w.heap.size) (hb : Below w.heap.size w w') (hC' : C ≤ C') : CX B C' w' gT gR nT nR tb tb' rbs rbs' :=
  ⟨h.arg.below hb, h.cap, h.td, h.rl, h.nt, h.nr, h.ts.below (hb.mono hC) hC', h.ss.below (hb.mono hC) hC'⟩
theorem toStore_cx (aT aR : Option Addr) (capT capR : Nat) (tb : List TB) (rbs : List RB) (w : World) (h : SIn w aT tb aR rbs) :
    Calls Tryz.prog 19 #[.agg #[.slice aT tb.length capT, .slice aR rbs.length capR]] w fun e w' => ∃ gT gR tb' rbs', e = .returned (.agg #[.slice (some ⟨gT, 0, none⟩) tb.length tb.length, .slice (some ⟨gR, 0, none⟩) rbs.length rbs.length]) ∧
      CX w.heap.size w'.heap.size w' gT gR tb.length rbs.length tb tb' rbs rbs' ∧ Below w.heap.size w w' := by
  refine (toStore_any aT aR capT capR tb rbs w h.tlen h.rlen h.trow h.ttxt h.srow h.hold).mono ?_
  rintro e w' ⟨gT, gR, tb', rbs', rfl, hc, h1, h2, hb⟩
  have l1 : tb'.length = tb.length := by have := congrArg List.length h1; simpa using this
  have l2 : rbs'.length = rbs.length := by have := congrArg List.length h2; simpa using this
  have hl := lens_map h2 fun x hx => (h.hold x hx).2
  exact ⟨gT, gR, tb', rbs', rfl, ⟨hc.sarg (fits_map h1 h.fit) (by rw [l1]; exact h.tlen) (by rw [l2]; exact h.rlen) hl, hc.caps, h1, h2, l1, l2, by have := hc.tsk; rw [l1] at this; exact this, by have := hc.ssk hl; rw [l2] at this; exact this⟩, hb⟩

theorem KO.isk {w : World} {g : Nat} {ks : List Int} (h : KO w g ks) {B : Nat} (hB : B ≤ g) {C : Nat} (hC : g < C) : IsK B C w (some ⟨g, 0, none⟩) ks.length := .inr ⟨g, rfl, hB, hC, fun j hj => ⟨⟨_, h.at_ j hj⟩, h.fr j hj⟩⟩
theorem OwnRR.mid {w w' : World} {B C D : Nat} {v : Value} {l : List (Int × Int × Int)} (h : OwnRR w D v l) (hm : Mid B C w w') (hC : C ≤ D) : OwnRR w' D v l :=
  ⟨ownsRow_upper (H := w.heap.size) h.1 (fun g hg => (h.2 g hg).2) (fun b hb _ => hm.block b (.inr (by omega))), fun g hg => ⟨(h.2 g hg).1, by rw [hm.size]; exact (h.2 g hg).2⟩⟩
theorem OwnRR.rrow {w : World} {D : Nat} {a : Option Addr} {n cap : Nat} {l : List (Int × Int × Int)} (h : OwnRR w D (.slice a n cap) l) : RRow w a l := by
  obtain ⟨a', c, hv, hr, _⟩ := h.form
  simp only [Value.slice.injEq] at hv
  rw [hv.1]
  exact hr
theorem OwnRR.rwl {w : World} {D : Nat} {a : Option Addr} {cap : Nat} {l : List (Int × Int × Int)} (h : OwnRR w D (.slice a l.length cap) l) (hl : l.length ≤ 1048576) : RwW w a l.length := by
  refine ⟨hl, ?_⟩
  have h1 := h.1
  rcases h.1.2 with ⟨hv, h0⟩ | ⟨g, c, cur, hv, hB, hh, _⟩
  · exact .inl h0
  · have ea : a = some ⟨g, 0, none⟩ := by simp only [Value.slice.injEq] at hv; exact hv.1
    subst ea
    obtain ⟨hc, hf⟩ := ownsRow_cells h1
    refine .inr ⟨g, rfl, (h.2 g rfl).2, fun j hj => ?_, fun j _ => hf j⟩
    have hj' : j < (flat3 l).length := by rw [flat3_len]; exact hj
    exact ⟨_, hc j _ (List.getElem?_eq_getElem hj')⟩
theorem ButT.mid {w w' : World} {D : Nat} {a : Option Addr} {n : Nat} (h : ButT a n w w') (hD : ∀ p, a = some p → D ≤ p.block) : Below D w w' ∧ w'.heap.size = w.heap.size := by
  rcases h with ⟨_, rfl⟩ | ⟨g, _, ha, hb⟩
  · exact ⟨Below.refl _ _, rfl⟩
  · exact ⟨hb.below (hD _ ha), hb.size⟩
theorem OwnRR.low {w : World} {D : Nat} {a : Option Addr} {n cap : Nat} {l : List (Int × Int × Int)} (h : OwnRR w D (.slice a n cap) l) : ∀ p, a = some p → D ≤ p.block := fun p hp => by
  subst hp
  exact (h.2 p.block rfl).1
end Go.Proofs.YtdcaicoomldmgaaGreatDoor

/- DvStxH -/
namespace Go.Proofs.YtdcaicoomldmgaaGreatDoor
open Go.RowKit Go.Deep
set_option maxRecDepth 100000

set_option maxHeartbeats 8000000 in
theorem walkScan (aT aR : Option Addr) (capT capR : Nat) (tb : List TB) (rbs : List RB) (order : Int) (pk : Option Addr) (capK : Nat) (ks : List Int) (w : World) (hnT : tb.length ≤ 9223372036854775807) (hnR : rbs.length ≤ 9223372036854775807) (hT : TRow w aT tb) (hTC : ∀ y ∈ tb, CameT w y) (hR : SRow w aR rbs) (hRC : ∀ y ∈ rbs, CameR w y)
    (hkl : ks.length ≤ 9223372036854775807) (hKI : KIn w pk ks) (ht : Tab w) :
    Calls Tryz.prog 5 #[.agg #[.slice aT tb.length capT, .slice aR rbs.length capR], .int .i64 order, .slice pk ks.length capK] w fun e w' => e = .returned (.bool true) ∧ Below w.heap.size w w' := by
  have HTab : Hid (Tab w) := ht
  have HKI : Hid (KIn w pk ks) := hKI
  have HSIN : Hid ((tb.length ≤ 1048576 ∧ ∀ x ∈ tb, x.t.len ≤ 1048576) ∧ rbs.length ≤ 1048576 ∧ (∀ x ∈ rbs, x.l.length ≤ 1048576) → SIn w aT tb aR rbs) := fun h => ⟨hT, fun x hx => (hTC x hx).2.2 (h.1.2 x hx), fun x hx => (hTC x hx).1, h.1.1, hR, fun x hx => ⟨(hRC x hx).1, h.2.2 x hx⟩, h.2.1⟩
  have HZ0 : Hid (∀ o, Calls Tryz.prog 16 #[.agg #[.slice aT tb.length capT, .slice aR rbs.length capR], .int .i64 1048576] (w.alloc o) fun e w' => SzS tb rbs e ∧ Below (w.alloc o).heap.size (w.alloc o) w') := fun o => szStore_any aT aR capT capR tb rbs 1048576 (w.alloc o) (by omega) (by omega) hnT hnR (hT.below (bl_a o)) (hR.below (bl_a o)) (fun x hx => (hTC x hx).2.1) (fun x hx => (hRC x hx).2)
  obtain ⟨P, hP⟩ : ∃ P, P = ScanAns tb (rbs.map RB.l) order ks := ⟨_, rfl⟩
  have HU : Hid (∀ L L', P L → P L' → L = L') := fun L L' h h' => by rw [hP] at h h'; exact h.unique h'
  have HPX : Hid (∀ (tb' : List TB) (rbs' : List RB), tb'.map TB.td = tb.map TB.td → rbs'.map RB.l = rbs.map RB.l → ∀ L, ScanAns tb' (rbs'.map RB.l) order ks L → P L) := fun tb' rbs' h1 h2 L h => by
    rw [hP]
    rw [h2] at h
    exact h.td (good_td h1)
  clear hP hT hTC hR hRC ht hKI
  obtain ⟨nT, hnT'⟩ : ∃ nT, nT = tb.length := ⟨_, rfl⟩
  obtain ⟨nR, hnR'⟩ : ∃ nR, nR = rbs.length := ⟨_, rfl⟩
  obtain ⟨k, hk'⟩ : ∃ k, k = ks.length := ⟨_, rfl⟩
  have HK : Hid (k = ks.length) := hk'
  have HTO : Hid (∀ W, SIn W aT tb aR rbs → Calls Tryz.prog 19 #[.agg #[.slice aT nT capT, .slice aR nR capR]] W (fun e w' => ∃ gT gR tb' rbs', e = .returned (.agg #[.slice (some ⟨gT, 0, none⟩) nT nT, .slice (some ⟨gR, 0, none⟩) nR nR]) ∧ CX W.heap.size w'.heap.size w' gT gR nT nR tb tb' rbs rbs' ∧ Below W.heap.size W w')) := fun W h => by
    rw [hnT', hnR']
    exact toStore_cx aT aR capT capR tb rbs W h
  have HTI : Hid (k ≤ 1048576 → ∀ W, KIn W pk ks → Calls Tryz.prog 24 #[.slice pk k capK] W fun e w' => e = .returned (.slice (some ⟨W.heap.size, 0, none⟩) k k) ∧ KO w' W.heap.size ks ∧ Below W.heap.size W w') := fun hk W h => by
    rw [hk'] at hk ⊢
    exact toIntS_any pk capK ks W hk h
  have HSP : Hid (k ≤ 1048576 → ∀ B C W gT gR tb' rbs' g, CX B C W gT gR nT nR tb tb' rbs rbs' → KO W g ks → Calls Tryz.prog 23 #[.agg #[.slice (some ⟨gT, 0, none⟩) nT nT, .slice (some ⟨gR, 0, none⟩) nR nR], .int .i64 order, .slice (some ⟨g, 0, none⟩) k k] W (ScRes W P)) := fun hk B C W gT gR tb' rbs' g h hg => by
    have := specScan_any (some ⟨gT, 0, none⟩) (some ⟨gR, 0, none⟩) nT nR tb' rbs' order (some ⟨g, 0, none⟩) k ks W h.arg (by rw [← hk']; exact hk) hg.kin
    rw [h.nt, h.nr, ← hk'] at this
    exact this.mono fun e w' ⟨a, c, L, h1, h2, h3⟩ => ⟨a, c, L, h1, HPX.out tb' rbs' h.td h.rl L h2, h3⟩
  have HIM : Hid (k ≤ 1048576 → ∀ B C W gT gR tb' rbs' g, CX B C W gT gR nT nR tb tb' rbs rbs' → KO W g ks → Tab W → Calls Tryz.prog 25 #[.agg #[.slice (some ⟨gT, 0, none⟩) nT nT, .slice (some ⟨gR, 0, none⟩) nR nR], .int .i64 order, .slice (some ⟨g, 0, none⟩) k k] W (ScRes W P)) := fun hk B C W gT gR tb' rbs' g h hg htb => by
    have := implScan_any (some ⟨gT, 0, none⟩) (some ⟨gR, 0, none⟩) nT nR tb' rbs' order (some ⟨g, 0, none⟩) k ks W h.arg h.cap (by rw [← hk']; exact hk) hg.kin htb
    rw [h.nt, h.nr, ← hk'] at this
    exact this.mono fun e w' ⟨a, c, L, h1, h2, h3⟩ => ⟨a, c, L, h1, HPX.out tb' rbs' h.td h.rl L h2, h3⟩
  have HEQ0 : Hid (∀ (W : World) (gT gR : Nat) (tb' : List TB) (rbs' : List RB) (gT3 gR3 : Nat) (tb3 : List TB) (rbs3 : List RB), SArg W (some ⟨gT, 0, none⟩) tb' (some ⟨gR, 0, none⟩) rbs' → tb'.map TB.td = tb.map TB.td → rbs'.map RB.l = rbs.map RB.l → tb'.length = nT → rbs'.length = nR → SArg W (some ⟨gT3, 0, none⟩) tb3 (some ⟨gR3, 0, none⟩) rbs3 → tb3.map TB.td = tb.map TB.td → rbs3.map RB.l = rbs.map RB.l → tb3.length = nT → rbs3.length = nR →
      Calls Tryz.prog 11 #[.agg #[.slice (some ⟨gT, 0, none⟩) nT nT, .slice (some ⟨gR, 0, none⟩) nR nR], .agg #[.slice (some ⟨gT3, 0, none⟩) nT nT, .slice (some ⟨gR3, 0, none⟩) nR nR]] W fun e w' => e = .returned (.bool true) ∧ Below W.heap.size W w') := by
    intro W gT gR tb' rbs' gT3 gR3 tb3 rbs3 h h1 h2 l1 l2 h' h1' h2' l1' l2'
    have := eqStore_like (some ⟨gT, 0, none⟩) (some ⟨gT3, 0, none⟩) (some ⟨gR, 0, none⟩) (some ⟨gR3, 0, none⟩) nT nT nR nR tb' tb3 rbs' rbs3 W h h' (h1.trans h1'.symm) (h2.trans h2'.symm)
    rwa [l1, l2, l1', l2'] at this
  have HEI : Hid (k ≤ 1048576 → ∀ W g g', KO W g ks → KO W g' ks → Calls Tryz.prog 27 #[.slice (some ⟨g, 0, none⟩) k k, .slice (some ⟨g', 0, none⟩) k k] W fun e w' => e = .returned (.bool true) ∧ Below W.heap.size W w') := fun hk W g g' h h' => by
    rw [hk'] at hk ⊢
    exact eqIntS_same _ _ _ _ ks W hk h.kin h'.kin
  have HER : Hid (∀ W a c L a' c' L', RRow W a L → RRow W a' L' → P L → P L' → List.length L ≤ 1048576 → Calls Tryz.prog 26 #[.slice a (List.length L) c, .slice a' (List.length L') c'] W fun e w' => e = .returned (.bool true) ∧ Below W.heap.size W w') := fun W a c L a' c' L' h h' p p' hl => by
    have e := HU.out L L' p p'
    subst e
    exact eqRowS_same a a' c c' L W hl h h'
  rw [← hnT', ← hnR'] at HZ0
  rw [← hk'] at hkl
  rw [← hnT', ← hnR', ← hk']
  have HNT : Hid (nT = tb.length ∧ nR = rbs.length) := ⟨hnT', hnR'⟩
  clear hnT hnR hnT' hnR' hk'
  go_enter Tryz.func5, Tryz.ntmps5
  by_cases hk20 : k ≤ 1048576
  rotate_left
  · have hkz : (k : Int) > 1048576 := by omega
    go_wp2_with fail
    go_ret
    exact ⟨rfl, bl_a _⟩
  have hkz : ¬ (k : Int) > 1048576 := by omega
  have hZ := HZ0.out
  go_wp2_with fail
  refine (hZ _).mono ?_
  rintro e w1 ⟨⟨r, rfl, hr1, hr2, hr3⟩, hb1⟩
  have HR2 : Hid (¬ r < 0 → (tb.length ≤ 1048576 ∧ ∀ x ∈ tb, x.t.len ≤ 1048576) ∧ rbs.length ≤ 1048576 ∧ ∀ x ∈ rbs, x.l.length ≤ 1048576) := hr2
  have HBX1 : Hid (Bx2 w1 w.heap.size (.slice aT nT capT) (.slice aR nR capR)) := (Bx2.new w _ _ 44).below hb1
  have HB1 : Hid (Below w.heap.size w w1) := bl_trans (bl_a _) hb1
  clear hZ hr2 hb1 hr1 hr3 HZ0
  by_cases hr : r < 0
  · go_wp2
    go_ret
    exact ⟨rfl, HB1.out⟩
  have HSI : Hid (SIn w aT tb aR rbs) := HSIN.out (HR2.out hr)
  have HnT : Hid (nT ≤ 1048576 ∧ nR ≤ 1048576) := ⟨by rw [HNT.out.1]; exact (HR2.out hr).1.1, by rw [HNT.out.2]; exact (HR2.out hr).2.1⟩
  have TI := HTI.out hk20
  have HSP := (show Hid _ from HSP.out hk20)
  have HIM := (show Hid _ from HIM.out hk20)
  have HEI := (show Hid _ from HEI.out hk20)
  clear HTI HSIN HR2
  obtain ⟨c0, c1, c2⟩ := id HBX1.out
  have hT1 := HTO.out w1 (HSI.out.below HB1.out)
  go_wp2_with fail
  refine hT1.mono ?_
  rintro e w2 ⟨gT2, gR2, tb2, rbs2, rfl, hC2, hb2⟩
  have HC2 : Hid (CX w1.heap.size w2.heap.size w2 gT2 gR2 nT nR tb tb2 rbs rbs2) := hC2
  have HB2 : Hid (Below w1.heap.size w1 w2) := hb2
  have hI2 := TI w2 (HKI.out.below (bl_trans HB1.out HB2.out))
  clear hT1 hC2 hb2 c0 c1 c2
  go_wp2_with fail
  refine hI2.mono ?_
  rintro e w3 ⟨rfl, hK3, hb3⟩
  have hS3 := HSP.out _ _ w3 gT2 gR2 tb2 rbs2 w2.heap.size (HC2.out.below (Nat.le_refl _) hb3 (Nat.le_refl _)) hK3
  have HB3 : Hid (Below w1.heap.size w1 w3) := bl_trans HB2.out hb3
  clear hI2 hK3 hb3 HC2 HB2
  go_wp2_with fail
  refine hS3.mono ?_
  rintro e w4 ⟨a0, k0, L0, rfl, hP0, hO0, hL0, hb4⟩
  have HP0 : Hid (P L0) := hP0
  have HR0 : Hid (RRow w4 a0 L0) := hO0.rrow
  have HB4 : Hid (Below w1.heap.size w1 w4) := bl_trans HB3.out hb4
  have HW4 : Hid (Below w.heap.size w w4) := bl_trans HB1.out HB4.out
  have HX4 : Hid (Bx2 w4 w.heap.size (.slice aT nT capT) (.slice aR nR capR)) := HBX1.out.below HB4.out
  clear hS3 hP0 hO0 hb4 HB3 HB4 HB1 HBX1
  obtain ⟨c0, c1, c2⟩ := id HX4.out
  have hT4 := HTO.out w4 (HSI.out.below HW4.out)
  go_wp2_with fail
  refine hT4.mono ?_
  rintro e w5 ⟨gT, gR, tb5, rbs5, rfl, hC5, hb5⟩
  have HC5 : Hid (∀ o, CX w4.heap.size w5.heap.size (w5.alloc o) gT gR nT nR tb tb5 rbs rbs5) := fun o => hC5.below (Nat.le_refl _) (bl_a o) (Nat.le_refl _)
  have HB5 : Hid (Below w4.heap.size w4 w5) := hb5
  have hl45 : w4.heap.size ≤ w5.heap.size := hb5.size
  have hI5 := fun o => TI (w5.alloc o) (HKI.out.below (bl_alloc (bl_trans HW4.out HB5.out) o))
  clear hT4 hC5 hb5 c0 c1 c2
  go_wp2_with fail
  refine (hI5 _).mono ?_
  rintro e w6 ⟨rfl, hK6, hb6⟩
  have hsz5 : (w5.alloc (.cells #[.slice (some ⟨gT, 0, none⟩) nT nT, .slice (some ⟨gR, 0, none⟩) nR nR] 29)).heap.size = w5.heap.size + 1 := by simp
  have HK6 : Hid (KO w6 (w5.heap.size + 1) ks) := (show KO w6 (w5.heap.size + 1) ks by rw [← hsz5]; exact hK6)
  have HXB6 : Hid (Bx2 w6 w5.heap.size (.slice (some ⟨gT, 0, none⟩) nT nT) (.slice (some ⟨gR, 0, none⟩) nR nR)) := (Bx2.new w5 _ _ 29).below hb6
  have HB6 : Hid (Below w4.heap.size w4 w6) := bl_trans (bl_alloc HB5.out _) hb6
  have HC6 : Hid (CX w4.heap.size w6.heap.size w6 gT gR nT nR tb tb5 rbs rbs5) := (HC5.out _).below (by rw [hsz5]; omega) hb6 (by have := hb6.size; rw [hsz5] at this; omega)
  have hl6 : w5.heap.size + 1 < w6.heap.size := HK6.out.lt
  have hS6 := HIM.out _ _ w6 gT gR tb5 rbs5 (w5.heap.size + 1) HC6.out HK6.out (HTab.out.below (bl_trans HW4.out HB6.out))
  clear hI5 hK6 hb6 hsz5 HC5 HB5
  obtain ⟨x0, x1, x2⟩ := id HXB6.out
  go_wp2_with fail
  refine hS6.mono ?_
  rintro e w7 ⟨a1, k1, L1, rfl, hP1, hO1, hL1, hb7⟩
  have HP1 : Hid (P L1) := hP1
  have HO7 : Hid (OwnRR w7 w6.heap.size (.slice a1 L1.length k1) L1) := hO1
  have HB7 : Hid (Below w6.heap.size w6 w7) := hb7
  have hE7 := HER.out w7 a1 k1 L1 a0 k0 L0 HO7.out.rrow (HR0.out.below (bl_trans HB6.out HB7.out)) HP1.out HP0.out hL1
  clear hS6 hP1 hO1 hb7 x0 x1 x2
  go_wp2_with fail
  refine hE7.mono ?_
  rintro e w8 ⟨rfl, hb8⟩
  have HB8 : Hid (Below w6.heap.size w6 w8) := bl_trans HB7.out hb8
  have HO8 : Hid (OwnRR w8 w6.heap.size (.slice a1 L1.length k1) L1) := HO7.out.below hb8
  have HW8 : Hid (Below w4.heap.size w4 w8) := bl_trans HB6.out HB8.out
  have HA8 : Hid (Bx2 w8 w.heap.size (.slice aT nT capT) (.slice aR nR capR)) := HX4.out.below HW8.out
  have HXB8 : Hid (Bx2 w8 w5.heap.size (.slice (some ⟨gT, 0, none⟩) nT nT) (.slice (some ⟨gR, 0, none⟩) nR nR)) := HXB6.out.below HB8.out
  clear hE7 hb8 HO7 HB7 HXB6
  have HBX : Hid (∀ w', w8.grownBy w' none → w'.cell? ⟨w.heap.size, 0, none⟩ = some (.slice aT nT capT) ∧ w'.cell? ⟨w.heap.size, 1, none⟩ = some (.slice aR nR capR) ∧ w'.cell? ⟨w5.heap.size, 0, none⟩ = some (.slice (some ⟨gT, 0, none⟩) nT nT) ∧ w'.cell? ⟨w5.heap.size, 1, none⟩ = some (.slice (some ⟨gR, 0, none⟩) nR nR)) := by
    intro w' hg
    obtain ⟨d0, d1, d2⟩ := HA8.out
    obtain ⟨d3, d4, d5⟩ := HXB8.out
    exact ⟨(cell_grown hg d2 (by simp)).trans d0, (cell_grown hg d2 (by simp)).trans d1, (cell_grown hg d5 (by simp)).trans d3, (cell_grown hg d5 (by simp)).trans d4⟩
  have HT3 : Hid (Calls Tryz.prog 19 #[.agg #[.slice aT nT capT, .slice aR nR capR]] w8.drew (fun e w' => ∃ gT gR tb' rbs', e = .returned (.agg #[.slice (some ⟨gT, 0, none⟩) nT nT, .slice (some ⟨gR, 0, none⟩) nR nR]) ∧ CX w8.heap.size w'.heap.size w' gT gR nT nR tb tb' rbs rbs' ∧ Below w8.heap.size w8.drew w')) := HTO.out w8.drew (HSI.out.below (Below.drew (bl_trans HW4.out HW8.out)))
  have HEQ : Hid (∀ (w9 : World) (gT3 gR3 : Nat) (tb3 : List TB) (rbs3 : List RB), Below w8.heap.size w8 w9 → SArg w9 (some ⟨gT3, 0, none⟩) tb3 (some ⟨gR3, 0, none⟩) rbs3 → tb3.map TB.td = tb.map TB.td → rbs3.map RB.l = rbs.map RB.l → tb3.length = nT → rbs3.length = nR → Calls Tryz.prog 11 #[.agg #[.slice (some ⟨gT, 0, none⟩) nT nT, .slice (some ⟨gR, 0, none⟩) nR nR], .agg #[.slice (some ⟨gT3, 0, none⟩) nT nT, .slice (some ⟨gR3, 0, none⟩) nR nR]] w9 fun e w' => e = .returned (.bool true) ∧ Below w9.heap.size w9 w') := by
    intro w9 gT3 gR3 tb3 rbs3 hb h1 h2 h3 h4 h5
    exact HEQ0.out w9 gT gR tb5 rbs5 gT3 gR3 tb3 rbs3 (HC6.out.arg.below (bl_trans HB8.out hb)) HC6.out.td HC6.out.rl HC6.out.nt HC6.out.nr h1 h2 h3 h4 h5
  go_wp2_with fail
  refine wp_region_held_drew (S := fun w' => w8.grownBy w' none) (by kernel_rfl) ?_ (fun hHeld => ?_)
  · exact grown_drew _ _
  refine take_at (i := 0) 42 (v := ?v1) rfl rfl (by kernel_rfl) (by kernel_rfl) (by kernel_rfl) (fun _ _ _ h => h) (Or.inl ⟨by rfl, ?y1⟩) hHeld ?r1
  case y1 => (intro w' hSw; obtain ⟨b0, b1, b2, b3⟩ := HBX.out w' hSw; go_simp; (try with_reducible rfl))
  try simp only [Act.put, List.setIfInBounds_toArray, List.set_cons_zero, List.set_cons_succ]
  refine take_at (i := 1) 43 (v := ?v2) rfl rfl (by kernel_rfl) (by kernel_rfl) (by kernel_rfl) (fun _ _ _ h => h) (Or.inl ⟨by rfl, ?y2⟩) hHeld ?r2
  case y2 => (intro w' hSw; obtain ⟨b0, b1, b2, b3⟩ := HBX.out w' hSw; go_simp; (try with_reducible rfl))
  try simp only [Act.put, List.setIfInBounds_toArray, List.set_cons_zero, List.set_cons_succ]
  refine wpAnyH_ready (rs := [2]) (by kernel_rfl) (by simp) ?_
  refine AllReadyH.cons rfl (fun K hK => ?_) AllReadyH.nil
  go_simp
  refine HT3.out.mono ?_
  rintro e w9 ⟨gT3, gR3, tb3, rbs3, rfl, hs3, hb9⟩
  have HB9 : Hid (Below w8.heap.size w8 w9) := (Below.drew (Below.refl _ _)).trans hb9
  have hEQ := HEQ.out w9 gT3 gR3 tb3 rbs3 HB9.out hs3.arg hs3.td hs3.rl hs3.nt hs3.nr
  clear hs3 hb9
  go_wp2_with fail
  refine hK.out _ _ ?_ (fun hHeld => ?_)
  · exact grown_of_below HB9.out
  clear hK K
  try simp only [Act.put, List.setIfInBounds_toArray, List.set_cons_zero, List.set_cons_succ]
  refine wpAnyH_ready (rs := [3]) (by kernel_rfl) (by simp) ?_
  refine AllReadyH.cons rfl (fun K hK => ?_) AllReadyH.nil
  go_simp
  refine hEQ.mono ?_
  rintro e w10 ⟨rfl, hb10⟩
  have HB10 : Hid (Below w8.heap.size w8 w10) := bl_trans HB9.out hb10
  clear hEQ hb10
  go_wp2_with fail
  refine hK.out _ _ ?_ (fun hHeld => ?_)
  · exact grown_of_below HB10.out
  clear hK K
  try simp only [Act.put, List.setIfInBounds_toArray, List.set_cons_zero, List.set_cons_succ]
  refine take_at (i := 4) 46 (v := ?v3) rfl rfl (by kernel_rfl) (by kernel_rfl) (by kernel_rfl) (fun _ _ _ h => h) (Or.inl ⟨by rfl, ?y3⟩) hHeld ?r3
  case y3 => (intro w' hSw; skip; go_simp; (try with_reducible rfl))
  try simp only [Act.put, List.setIfInBounds_toArray, List.set_cons_zero, List.set_cons_succ]
  refine wpAnyH_done (by kernel_rfl) ?_ _
  clear hHeld HBX HT3 HEQ HB9
  have HB10w : Hid (Below w6.heap.size w6 w10) := bl_trans HB8.out HB10.out
  have HO10 : Hid (OwnRR w10 w6.heap.size (.slice a1 L1.length k1) L1) := HO8.out.below HB10.out
  have HW10 : Hid (Below w4.heap.size w4 w10) := bl_trans HW8.out HB10.out
  have HXB10 : Hid (Bx2 w10 w5.heap.size (.slice (some ⟨gT, 0, none⟩) nT nT) (.slice (some ⟨gR, 0, none⟩) nR nR)) := HXB8.out.below HB10.out
  have hI10 := TI w10 (HKI.out.below (bl_trans HW4.out HW10.out))
  clear HO8 HW8 HXB8 HA8 HB8 HB10 HEQ0
  go_wp2_with fail
  refine hI10.mono ?_
  rintro e w11 ⟨rfl, hK11, hb11⟩
  have hE11 := HEI.out w11 (w5.heap.size + 1) w10.heap.size (HK6.out.below (bl_trans HB10w.out hb11)) hK11
  have HB11 : Hid (Below w10.heap.size w10 w11) := hb11
  clear hI10 hK11 hb11
  go_wp2_with fail
  refine hE11.mono ?_
  rintro e w12 ⟨rfl, hb12⟩
  have hb12 := bl_trans HB11.out hb12
  have HB12 : Hid (Below w6.heap.size w6 w12) := bl_trans HB10w.out hb12
  have HO12 : Hid (OwnRR w12 w6.heap.size (.slice a1 L1.length k1) L1) := HO10.out.below hb12
  have HW12 : Hid (Below w4.heap.size w4 w12) := bl_trans HW10.out hb12
  have HXB12 : Hid (Bx2 w12 w5.heap.size (.slice (some ⟨gT, 0, none⟩) nT nT) (.slice (some ⟨gR, 0, none⟩) nR nR)) := HXB10.out.below hb12
  clear hE11 hb12 HB11 HB10w HO10 HW10 HXB10
  have hM12 := markStore_k w4.heap.size w6.heap.size (some ⟨gT, 0, none⟩) (some ⟨gR, 0, none⟩) nT nR nT nR (tA tb5) (rA rbs5) (tL tb5) (tC tb5) (rL rbs5) (rC rbs5) w12 HnT.out.1 HnT.out.2 (fun o => HC6.out.ts.below (bl_alloc HB12.out o) (Nat.le_refl _)) (fun o => HC6.out.ss.below (bl_alloc HB12.out o) (Nat.le_refl _))
  have HKM : Hid (∀ o, IsK w4.heap.size w6.heap.size (w12.alloc o) (some ⟨w5.heap.size + 1, 0, none⟩) k) := fun o => by
    rw [HK.out]
    exact (HK6.out.below (bl_alloc HB12.out o)).isk (by omega) hl6
  obtain ⟨x0, x1, x2⟩ := id HXB12.out
  go_wp2_with fail
  refine hM12.mono ?_
  rintro e w13 ⟨q13, o13, rfl, hq0, hq1, hk13, hm13⟩
  have HM13 : Hid (Mid w4.heap.size w6.heap.size (w12.alloc o13) w13) := hm13
  have hI13 := markIntS_k w4.heap.size w6.heap.size (some ⟨w5.heap.size + 1, 0, none⟩) k k q13 w13 hk20 ((HKM.out o13).k3 hk13) hq0 hq1
  clear hM12 hk13 hm13 HKM x0 x1 x2
  go_wp2_with fail
  refine hI13.mono ?_
  rintro e w14 ⟨rfl, _, hm14⟩
  have HM14 : Hid (Mid w4.heap.size w6.heap.size (w12.alloc o13) w14) := HM13.out.trans' hm14
  have HO14 : Hid (OwnRR w14 w6.heap.size (.slice a1 L1.length k1) L1) := (HO12.out.below (bl_a o13)).mid HM14.out (Nat.le_refl _)
  have HW14 : Hid (Below w4.heap.size w4 w14) := (bl_alloc HW12.out o13).trans HM14.out.below
  have hs14 : w6.heap.size ≤ w14.heap.size := by rw [HM14.out.size]; have := HB12.out.size; simp; omega
  have hkn : ¬ (q13 + (k : Int) < 0) := by omega
  have hE14 := HER.out w14 a1 k1 L1 a0 k0 L0 HO14.out.rrow (HR0.out.below HW14.out) HP1.out HP0.out hL1
  clear hI13 hm14 HM13 HM14 HO12 HW12 HXB12 HB12
  go_wp2_with fail
  refine hE14.mono ?_
  rintro e w15 ⟨rfl, hb15⟩
  have HO15 : Hid (OwnRR w15 w6.heap.size (.slice a1 L1.length k1) L1) := HO14.out.below hb15
  have HW15 : Hid (Below w4.heap.size w4 w15) := bl_trans HW14.out hb15
  have hM15 := markRowS_any a1 L1.length k1 1 w15 (HO15.out.rwl hL1) (by omega) (by omega)
  have hLow := HO15.out.low
  have HLow : Hid (∀ p, a1 = some p → w6.heap.size ≤ p.block) := hLow
  have hl46 : w4.heap.size ≤ w6.heap.size := by omega
  clear hE14 hb15 HO14 HW14 hLow hkn
  go_wp2_with fail
  refine hM15.mono ?_
  rintro e w16 ⟨rfl, hMd, _, hBt⟩
  have HMd16 : Hid (MdR w16 a1 L1.length 1) := hMd
  have HW16 : Hid (Below w4.heap.size w4 w16) := HW15.out.trans ((hBt.mid HLow.out).1.mono hl46)
  have hH16 := heldRowS_any a1 L1.length k1 1 w16 HMd16.out hL1 (by omega) (by omega)
  clear hM15 hMd hBt HO15 HW15
  go_wp2_with fail
  refine hH16.mono ?_
  rintro e w16' ⟨rfl, hw16⟩
  subst w16'
  have hpos : ¬ (1 + 3 * (L1.length : Int) < 0) := by omega
  obtain ⟨c0, c1, c2⟩ := HX4.out.below HW16.out
  have hT16 := HTO.out w16 (HSI.out.below (bl_trans HW4.out HW16.out))
  clear hH16
  go_wp2_with fail
  refine hT16.mono ?_
  rintro e w17 ⟨gT7, gR7, tb7, rbs7, rfl, hC17, hb17⟩
  have HC17 : Hid (CX w16.heap.size w17.heap.size w17 gT7 gR7 nT nR tb tb7 rbs rbs7) := hC17
  have HB17 : Hid (Below w16.heap.size w16 w17) := hb17
  have hI17 := TI w17 (HKI.out.below (bl_trans HW4.out (bl_trans HW16.out HB17.out)))
  clear hT16 hC17 hb17 c0 c1 c2
  go_wp2_with fail
  refine hI17.mono ?_
  rintro e w18 ⟨rfl, hK18, hb18⟩
  have HB18 : Hid (Below w16.heap.size w16 w18) := bl_trans HB17.out hb18
  have hS18 := HIM.out _ _ w18 gT7 gR7 tb7 rbs7 w17.heap.size (HC17.out.below (Nat.le_refl _) hb18 (Nat.le_refl _)) hK18 (HTab.out.below (bl_trans HW4.out (bl_trans HW16.out HB18.out)))
  clear hI17 hK18 hb18 HC17 HB17
  go_wp2_with fail
  refine hS18.mono ?_
  rintro e w19 ⟨a2, k2, L2, rfl, hP2, hO2, hL2, hb19⟩
  have HB19 : Hid (Below w16.heap.size w16 w19) := bl_trans HB18.out hb19
  have hE19 := HER.out w19 a2 k2 L2 a0 k0 L0 hO2.rrow (HR0.out.below (bl_trans HW16.out HB19.out)) hP2 HP0.out hL2
  clear hS18 hP2 hO2 hb19 HB18
  go_wp2_with fail
  refine hE19.mono ?_
  rintro e w20 ⟨rfl, hb20⟩
  have HB20 : Hid (Below w16.heap.size w16 w20) := bl_trans HB19.out hb20
  have hH20 := heldRowS_any a1 L1.length k1 1 w20 (HMd16.out.below HB20.out) hL1 (by omega) (by omega)
  clear hE19 hb20 HB19
  go_wp2_with fail
  refine hH20.mono ?_
  rintro e w20' ⟨rfl, hw20⟩
  subst w20'
  go_wp2_with fail
  go_ret
  exact ⟨rfl, bl_trans HW4.out (bl_trans HW16.out HB20.out)⟩
end Go.Proofs.YtdcaicoomldmgaaGreatDoor

/- DvStxI -/
namespace Go.Proofs.YtdcaicoomldmgaaGreatDoor
open Go.ChangeShapes Go.WideShapes Go.ChangeAt Go.RowKit Go.Joins
set_option maxRecDepth 100000

theorem door_metScan (os : Os) (args : Array Value) : laidMetH Tryz.prog Rows.fnExactScanRow.laid ((World.doorLaid Tryz.prog 24 os).forCall (fun _ _ => 0) ⟨#[], args, []⟩).memory :=
  laidMetH_of_parts3 (fuel := 8) (laidMet_of_run' 8 (by kernel_rfl) (by kernel_rfl)) (by kernel_rfl) (by kernel_rfl)

theorem Tryz.cellsX164 : Tryz.prog.cellsOf 164 = 1 := by kernel_rfl
theorem tab_of_laidX {W : World} (h : laidMetH Tryz.prog Rows.fnExactScanRow.laid W) : Tab W := by
  rw [MakeChecks.laidMetH_plain _ _ _ (by kernel_rfl)] at h
  exact Lib.tabIs_of_head (k := .u64) (zs := Lib.pow10Tab) (rest := []) (g := 1) (t := 210) (n := 20) (by kernel_rfl) (by kernel_rfl) (by kernel_rfl) Tryz.underlying164 Tryz.cellsX164 (by kernel_rfl) (laidMet.tail (laidMet.tail h))

set_option maxRecDepth 100000 in
/-- Keys that came in, opened. -/
theorem open_keys {H : Type} {enc : TypeId × Value → H} {W : World} {b0 : Nat} {v : Value} {d : DataW H} {p : List MemPlace}
    (hv : Value.okWide Tryz.prog W .any b0 56 v) (h : DataW.Trod enc Tryz.prog W 0 (fun _ => true) true 56 v d p) :
    ∃ (a : Option Addr) (cap : Nat) (ks : List Int), v = .slice a ks.length cap ∧ ks.length ≤ 9223372036854775807 ∧ KIn W a ks := by
  obtain ⟨a1, len, cap, rfl⟩ := okWide_slice Tryz.underlying56 hv
  obtain ⟨fuel, hf⟩ := h
  rcases open_ints Tryz.underlying56 Tryz.underlying3 (show Tryz.prog.cellsOf 3 = 1 by kernel_rfl) hf with ⟨hcs, _⟩ | ⟨x, l, c, zs, hcs, _, hl, hm, hz, _, hcell, _⟩
  · simp [Value.cells] at hcs
    obtain ⟨rfl, rfl, rfl⟩ := hcs
    exact ⟨none, 0, [], rfl, by simp, .inl rfl⟩
  · simp [Value.cells] at hcs
    obtain ⟨rfl, rfl, rfl⟩ := hcs
    simp only [if_true] at hz
    have hlen : (zs.take len).length = len := by rw [List.length_take]; omega
    refine ⟨some x, cap, zs.take len, by rw [hlen], by rw [hlen]; unfold maxLen at hm; omega, ?_⟩
    by_cases h0 : len = 0
    · exact .inl (by rw [hlen]; exact h0)
    right
    obtain ⟨b, off, spot⟩ := x
    have hc0 := hcell 0 (by omega)
    have hspot : spot = none := by simpa [Addr.add] using World.cell?_spot hc0
    subst hspot
    refine ⟨b, off, rfl, by simpa [Addr.add] using cell_lt hc0, fun i hi => ?_⟩
    rw [hlen] at hi
    have h := hcell i (by omega)
    rw [addr_add] at h
    rw [h, List.getElem?_take, if_pos hi, List.getD_eq_getElem?_getD]

theorem liftedScan (os : Os) (started : os.Started) (H : Type) (enc : TypeId × Value → H) :
    ReturnsInHanded {} Tryz.checked os 5 .any (fun w args => (Rows.fnExactScanSpec.pre enc Tryz.prog Tryz.f5 [] false w args ∧ laidMetH Tryz.prog Rows.fnExactScanRow.laid w) ∧ sizedMet enc Tryz.prog Tryz.f5 (OpenSpec.ofChange Rows.fnExactScanSpec) false w args)
      (Rows.fnExactScanSpec.post enc Tryz.prog Tryz.f5 false true false false) := by
  refine returnsInHanded_of_change_and (C := Tryz.checked) (X := fun w _ => laidMetH Tryz.prog Rows.fnExactScanRow.laid w) (fun _ _ _ hh h => h.of_heap hh) own started (by kernel_rfl) Tryz.func5
    (ChangeSpec.witness_shaped (enc := enc) (C := Tryz.checked) (os := os) (X := fun w _ => laidMetH Tryz.prog Rows.fnExactScanRow.laid w) false (World.doorLaid Tryz.prog 24 os) #[.agg #[.slice none 0 0, .slice none 0 0], .int .i64 0, .slice none 0 0] 8 rfl (World.shaped_of_RefB (by kernel_rfl) (by kernel_rfl)) (by kernel_rfl) (by kernel_rfl) (by kernel_rfl) (door_metScan os _)) ?_
  intro W base args ds gs before hval0 hW _ _ hL _
  have hval : ∀ (j : Nat) t v, Tryz.f5.params[j]? = some t → args[j]? = some v → Value.okWide Tryz.prog W .any base t v := hval0
  have hW' := hW
  obtain ⟨p, q, hA0, hV, rfl, hfz, hnd⟩ := hW
  have hA : DataW.TrodAll enc Tryz.prog W 0 (fun _ => true) true Tryz.f5.params.toList args.toList ds p := hA0
  rw [Tryz.params5] at hA hval
  obtain ⟨v0, vs0, d0, ds0, p0, q0, hargs, rfl, rfl, h0, r0⟩ := trodAll_cons hA
  obtain ⟨v1, vs1, d1, ds1, p1, q1, rfl, rfl, rfl, h1, r1⟩ := trodAll_cons r0
  obtain ⟨v2, vs2, d2, ds2, p2, q2, rfl, rfl, rfl, h2, r2⟩ := trodAll_cons r1
  obtain ⟨rfl, rfl, rfl⟩ := trodAll_nil r2
  obtain rfl : args = #[v0, v1, v2] := by cases args; simp_all
  obtain ⟨rfl, rfl⟩ := trodVars_none hV
  have k0 := h0
  have k1 := h1
  have k2 := h2
  have lt0 : ∀ x ∈ p0, x.block < W.heap.size := by obtain ⟨m, hm⟩ := k0; exact DataW.trod_lt m _ _ _ hm
  have lt1 : ∀ x ∈ p1, x.block < W.heap.size := by obtain ⟨m, hm⟩ := k1; exact DataW.trod_lt m _ _ _ hm
  have lt2 : ∀ x ∈ p2, x.block < W.heap.size := by obtain ⟨m, hm⟩ := k2; exact DataW.trod_lt m _ _ _ hm
  obtain ⟨aT, aR, capT, capR, tb, rbs, rfl, hnT, hnR, hT, hTC, hR, hRC⟩ := open_store (hval 0 44 v0 rfl rfl) h0
  obtain ⟨order, rfl, _⟩ := open_int Tryz.underlying3 (hval 1 3 v1 rfl rfl) h1
  obtain ⟨pk, capK, ks, rfl, hkl, hKI⟩ := open_keys (hval 2 56 v2 rfl rfl) h2
  clear hA0 hval0
  refine (walkScan aT aR capT capR tb rbs order pk capK ks W hnT hnR hT hTC hR hRC hkl hKI (tab_of_laidX hL)).mono fun e W' ⟨he, bel⟩ => ?_
  subst he
  exact ⟨_, rfl, _, _, _, [], _, [], hW', trodAll_mk1 (shut_bool Tryz.underlying4 _), (trodAll_cons_mk (Below.trod laidOut (by kernel_rfl) (of_decide_eq_true (by kernel_rfl)) k0 bel lt0) (trodAll_cons_mk (Below.trod laidOut (by kernel_rfl) (of_decide_eq_true (by kernel_rfl)) k1 bel lt1) (trodAll_cons_mk (Below.trod laidOut (by kernel_rfl) (of_decide_eq_true (by kernel_rfl)) k2 bel lt2) trodAll_mk0))), rfl, bel.frame _, fun h => by cases h⟩

theorem overScan : Rows.FnExactScanSaid :=
  OpenClaim.holds_of_wide 5 Tryz.f5 rfl rfl rfl rfl rfl rfl rfl ⟨rfl, rfl, rfl, rfl, rfl⟩ rfl rfl rfl rfl rfl (by kernel_rfl) Tryz.func5 (by kernel_rfl)
    (of_decide_eq_true (by kernel_rfl)) (by unfold Func.isWrapper; first | (rw [if_pos (by decide +kernel)]; kernel_rfl) | (rw [if_neg (by decide +kernel)]; exact ⟨rfl, rfl⟩))
    (fun os started H enc _ => liftedScan os started H enc)

theorem provedScan : Rows.FnExactScanCardSaid :=
  Claim7.holds_tied_plain_at .later [] [.data, .data, .data] true Rows.fnExactScanCard.stood.harness false
    overScan (fun _ h => by cases h) (by kernel_rfl) (fun _ h => by cases h) fnExactScan_row_tie rfl ⟨rfl, rfl⟩ (by kernel_rfl) rfl
    (fun f fn hf hfn => by
      obtain rfl : f = 5 := Option.some.inj ((show Tryz.prog.funcNamed Rows.fnExactScanRow.func = some 5 by kernel_rfl).symm.trans hf) |>.symm
      obtain rfl : fn = Tryz.f5 := (Option.some.inj (Tryz.func5.symm.trans hfn)).symm
      exact ⟨by kernel_rfl, fun j t ht => by
        rw [Tryz.params5] at ht
        have hm : t ∈ [44, 3, 56] := by simpa using Array.mem_of_getElem? ht
        have hall : ([44, 3, 56].all fun u => !Tryz.prog.wantsStandIn u) = true := by kernel_rfl
        exact (show Tryz.prog.wantsStandIn t = false by simpa using List.all_eq_true.1 hall t hm)⟩)
    (by kernel_rfl)
#print axioms provedScan
end Go.Proofs.YtdcaicoomldmgaaGreatDoor
