/- PROVED: at every store the program's StoreOk answers as its model and writes into no argument (FnExactStoreOkCardSaid; no condition; the library's three tables lie as the program's text lays them, which the card ties). Texts put together: StvG StvH StvI -/
import Derived.Test.YtdcaicoomldmgaaGreatDoorMk42
import Derived.Test.YtdcaicoomldmgaaGreatDoorMk45
import Derived.Test.YtdcaicoomldmgaaGreatDoorMk36
import Derived.Test.YtdcaicoomldmgaaGreatDoorCards
import Derived.Test.YtdcaicoomldmgaaGreatDoorTie
import Derived.LaidMore
import Derived.Stop.Joined
import Derived.Lib.LaidTab
import Derived.Stop.LaidErr
import Derived.SevenTiedAt
/- StvG -/
namespace Go.Proofs.YtdcaicoomldmgaaGreatDoor
open Go.RowKit Go.Deep
set_option maxRecDepth 100000

theorem tbAt_td {tb tb' : List TB} (h : tb'.map TB.td = tb.map TB.td) (z : Int) : (tbAt tb' z).td = (tbAt tb z).td := by
  have e : ∀ l : List TB, (tbAt l z).td = ((l.map TB.td)[(z - 1).toNat]?).getD (TB.td ⟨Tm0, []⟩) := by
    intro l
    unfold tbAt
    rw [List.getElem?_map]
    cases l[(z - 1).toNat]? <;> rfl
  rw [e, e, h]
theorem tripleOk_td {x y z x' y' z' : TB} (h1 : x'.td = x.td) (h2 : y'.td = y.td) (h3 : z'.td = z.td) : tripleOk x'.t y'.t z'.t x'.b y'.b z'.b = tripleOk x.t y.t z.t x.b y.b z.b := by
  obtain ⟨⟨k, _, _, _, n, s⟩, b⟩ := x
  obtain ⟨⟨k', _, _, _, n', s'⟩, b'⟩ := x'
  obtain ⟨⟨k2, _, _, _, n2, s2⟩, b2⟩ := y
  obtain ⟨⟨k2', _, _, _, n2', s2'⟩, b2'⟩ := y'
  obtain ⟨⟨k3, _, _, _, n3, s3⟩, b3⟩ := z
  obtain ⟨⟨k3', _, _, _, n3', s3'⟩, b3'⟩ := z'
  simp only [TB.td, TD.mk.injEq] at h1 h2 h3
  obtain ⟨rfl, rfl, rfl, rfl⟩ := h1
  obtain ⟨rfl, rfl, rfl, rfl⟩ := h2
  obtain ⟨rfl, rfl, rfl, rfl⟩ := h3
  rfl
theorem tcmp_td {x y x' y' : TB} (h1 : x'.td = x.td) (h2 : y'.td = y.td) : tcmp x'.t y'.t x'.b y'.b = tcmp x.t y.t x.b y.b := by
  obtain ⟨⟨k, _, _, _, n, s⟩, b⟩ := x
  obtain ⟨⟨k', _, _, _, n', s'⟩, b'⟩ := x'
  obtain ⟨⟨k2, _, _, _, n2, s2⟩, b2⟩ := y
  obtain ⟨⟨k2', _, _, _, n2', s2'⟩, b2'⟩ := y'
  simp only [TB.td, TD.mk.injEq] at h1 h2
  obtain ⟨rfl, rfl, rfl, rfl⟩ := h1
  obtain ⟨rfl, rfl, rfl, rfl⟩ := h2
  rfl
theorem good_td {tb tb' : List TB} {rs : List (List (Int × Int × Int))} (h : tb'.map TB.td = tb.map TB.td) : Good tb' rs ↔ Good tb rs := by
  have ht := tbAt_td h
  have hk : ∀ z, (tbAt tb' z).t.k = (tbAt tb z).t.k := fun z => congrArg TD.k (ht z)
  have hn : ∀ z, (tbAt tb' z).t.n = (tbAt tb z).t.n := fun z => congrArg TD.n (ht z)
  have hs : ∀ z, (tbAt tb' z).t.s = (tbAt tb z).t.s := fun z => congrArg TD.s (ht z)
  have hb : ∀ z, (tbAt tb' z).b = (tbAt tb z).b := fun z => congrArg TD.bs (ht z)
  have hl : tb'.length = tb.length := by have := congrArg List.length h; simpa using this
  have e1 : ∀ l, sOk tb' l = sOk tb l := by
    intro l
    have : stepOk (sT tb' l) (sU tb' l) (sV tb' l) (sbt tb' l) (sbu tb' l) (sbv tb' l) = stepOk (sT tb l) (sU tb l) (sV tb l) (sbt tb l) (sbu tb l) (sbv tb l) := by
      funext j
      unfold stepOk tcmp3 sT sU sV sbt sbu sbv
      rw [tripleOk_td (ht _) (ht _) (ht _), tcmp_td (ht _) (ht _), tcmp_td (ht _) (ht _), tcmp_td (ht _) (ht _)]
    unfold sOk graphOk
    rw [this]
  have e2 : ∀ l, sAll tb' l = sAll tb l := by
    intro l
    simp only [sAll, allT, TB.td, sT, sU, sV, sbt, sbu, sbv, hk, hn, hs, hb]
  have e3 : ∀ ts l, sRows ts tb' l = sRows ts tb l := by
    intro ts l
    simp only [sRows, gRows, TB.td, sT, sU, sV, sbt, sbu, sbv, hk, hn, hs, hb]
  constructor
  · intro g
    exact ⟨g.six, by rw [← hl]; exact g.rng, by rw [← e1]; exact g.grf, by rw [← e2, ← h]; exact g.trm, fun k l hkl => by rw [← e3, ← h]; exact g.row k l hkl⟩
  · intro g
    exact ⟨g.six, by rw [hl]; exact g.rng, by rw [e1]; exact g.grf, by rw [e2, h]; exact g.trm, fun k l hkl => by rw [e3, h]; exact g.row k l hkl⟩

/-- What is known of a store that came in and is short. -/
structure SIn (w : World) (aT : Option Addr) (tb : List TB) (aR : Option Addr) (rbs : List RB) : Prop where
  trow : TRow w aT tb
  ttxt : TTxt w tb
  fit : ∀ x ∈ tb, x.t.fits
  tlen : tb.length ≤ 1048576
  srow : SRow w aR rbs
  hold : SHoldW w rbs
  rlen : rbs.length ≤ 1048576
theorem SIn.below {w w' : World} {aT : Option Addr} {tb : List TB} {aR : Option Addr} {rbs : List RB} (h : SIn w aT tb aR rbs) (hb : Below w.heap.size w w') : SIn w' aT tb aR rbs :=
  ⟨h.trow.below hb, h.ttxt.below hb, h.fit, h.tlen, h.srow.below hb, fun x hx => ⟨(h.hold x hx).1.below hb, (h.hold x hx).2⟩, h.rlen⟩

/-- What a copy of a store is: a store argument that says the same. -/
def CopyA (w : World) (tb : List TB) (rbs : List RB) (e : Ending) (w' : World) : Prop :=
  ∃ aT aR tb' rbs', e = .returned (.agg #[.slice aT tb.length tb.length, .slice aR rbs.length rbs.length]) ∧ SArg w' aT tb' aR rbs' ∧ tb'.map TB.td = tb.map TB.td ∧ rbs'.map RB.l = rbs.map RB.l ∧ Below w.heap.size w w'
theorem toStore_arg (aT aR : Option Addr) (capT capR : Nat) (tb : List TB) (rbs : List RB) (w : World) (h : SIn w aT tb aR rbs) :
    Calls Tryz.prog 19 #[.agg #[.slice aT tb.length capT, .slice aR rbs.length capR]] w (CopyA w tb rbs) := by
  refine (toStore_any aT aR capT capR tb rbs w h.tlen h.rlen h.trow h.ttxt h.srow h.hold).mono ?_
  rintro e w' ⟨gT, gR, tb', rbs', rfl, hc, h1, h2, hb⟩
  have l1 : tb'.length = tb.length := by have := congrArg List.length h1; simpa using this
  have l2 : rbs'.length = rbs.length := by have := congrArg List.length h2; simpa using this
  exact ⟨_, _, tb', rbs', rfl, hc.sarg (fits_map h1 h.fit) (by rw [l1]; exact h.tlen) (by rw [l2]; exact h.rlen) (lens_map h2 fun x hx => (h.hold x hx).2), h1, h2, hb⟩
end Go.Proofs.YtdcaicoomldmgaaGreatDoor

/- StvH -/
namespace Go.Proofs.YtdcaicoomldmgaaGreatDoor
open Go.RowKit Go.Deep Go.Maps
set_option maxRecDepth 100000

set_option maxHeartbeats 4000000 in
theorem walkStoreOk (aT aR : Option Addr) (capT capR : Nat) (tb : List TB) (rbs : List RB) (w : World) (hnT : tb.length ≤ 9223372036854775807) (hnR : rbs.length ≤ 9223372036854775807) (hT : TRow w aT tb) (hTC : ∀ y ∈ tb, CameT w y) (hR : SRow w aR rbs) (hRC : ∀ y ∈ rbs, CameR w y) (ht : Tab w) :
    Calls Tryz.prog 6 #[.agg #[.slice aT tb.length capT, .slice aR rbs.length capR]] w fun e w' => e = .returned (.bool true) ∧ Below w.heap.size w w' := by
  have HTab : Hid (Tab w) := ht
  have HSIN : Hid ((tb.length ≤ 1048576 ∧ ∀ x ∈ tb, x.t.len ≤ 1048576) ∧ rbs.length ≤ 1048576 ∧ (∀ x ∈ rbs, x.l.length ≤ 1048576) → SIn w aT tb aR rbs) := fun h => ⟨hT, fun x hx => (hTC x hx).2.2 (h.1.2 x hx), fun x hx => (hTC x hx).1, h.1.1, hR, fun x hx => ⟨(hRC x hx).1, h.2.2 x hx⟩, h.2.1⟩
  have hZ := fun o => szStore_any aT aR capT capR tb rbs 1048576 (w.alloc o) (by omega) (by omega) hnT hnR (hT.below (bl_a o)) (hR.below (bl_a o)) (fun x hx => (hTC x hx).2.1) (fun x hx => (hRC x hx).2)
  have HTO : Hid (∀ W, SIn W aT tb aR rbs → Calls Tryz.prog 19 #[.agg #[.slice aT tb.length capT, .slice aR rbs.length capR]] W (CopyA W tb rbs)) := fun W h => toStore_arg aT aR capT capR tb rbs W h
  have HSO : Hid (∀ W aT' aR' tb' rbs', SArg W aT' tb' aR' rbs' → tb'.map TB.td = tb.map TB.td → rbs'.map RB.l = rbs.map RB.l → Calls Tryz.prog 31 #[.agg #[.slice aT' tb.length tb.length, .slice aR' rbs.length rbs.length]] W fun e w' => ∃ q, e = .returned (.bool q) ∧ (q = true ↔ Good tb (rbs.map RB.l)) ∧ Below W.heap.size W w') := by
    intro W aT' aR' tb' rbs' h h1 h2
    have l1 : tb'.length = tb.length := by have := congrArg List.length h1; simpa using this
    have l2 : rbs'.length = rbs.length := by have := congrArg List.length h2; simpa using this
    have := specStoreOk_any aT' aR' tb.length rbs.length tb' rbs' W h
    rw [l1, l2, h2] at this
    simpa only [good_td h1] using this
  have HIO : Hid (∀ W aT' aR' tb' rbs', SArg W aT' tb' aR' rbs' → Tab W → tb'.map TB.td = tb.map TB.td → rbs'.map RB.l = rbs.map RB.l → Calls Tryz.prog 32 #[.agg #[.slice aT' tb.length tb.length, .slice aR' rbs.length rbs.length]] W fun e w' => ∃ q, e = .returned (.bool q) ∧ (q = true ↔ Good tb (rbs.map RB.l)) ∧ Below W.heap.size W w') := by
    intro W aT' aR' tb' rbs' h hq h1 h2
    have l1 : tb'.length = tb.length := by have := congrArg List.length h1; simpa using this
    have l2 : rbs'.length = rbs.length := by have := congrArg List.length h2; simpa using this
    have := implStoreOk_any aT' aR' tb.length rbs.length tb' rbs' W h hq
    rw [l1, l2, h2] at this
    simpa only [good_td h1] using this
  have HEQ0 : Hid (∀ W aT' aR' tb' rbs' aT3 aR3 tb3 rbs3, SArg W aT' tb' aR' rbs' → tb'.map TB.td = tb.map TB.td → rbs'.map RB.l = rbs.map RB.l → SArg W aT3 tb3 aR3 rbs3 → tb3.map TB.td = tb.map TB.td → rbs3.map RB.l = rbs.map RB.l → Calls Tryz.prog 11 #[.agg #[.slice aT' tb.length tb.length, .slice aR' rbs.length rbs.length], .agg #[.slice aT3 tb.length tb.length, .slice aR3 rbs.length rbs.length]] W fun e w' => e = .returned (.bool true) ∧ Below W.heap.size W w') := by
    intro W aT' aR' tb' rbs' aT3 aR3 tb3 rbs3 h h1 h2 h' h1' h2'
    have l1 : tb'.length = tb.length := by have := congrArg List.length h1; simpa using this
    have l2 : rbs'.length = rbs.length := by have := congrArg List.length h2; simpa using this
    have l1' : tb3.length = tb.length := by have := congrArg List.length h1'; simpa using this
    have l2' : rbs3.length = rbs.length := by have := congrArg List.length h2'; simpa using this
    have := eqStore_like aT' aT3 aR' aR3 tb.length tb.length rbs.length rbs.length tb' tb3 rbs' rbs3 W h h' (h1.trans h1'.symm) (h2.trans h2'.symm)
    rwa [l1, l2, l1', l2'] at this
  have HZ : Hid (∀ o, Calls Tryz.prog 16 #[.agg #[.slice aT tb.length capT, .slice aR rbs.length capR], .int .i64 1048576] (w.alloc o) fun e w' => SzS tb rbs e ∧ Below (w.alloc o).heap.size (w.alloc o) w') := hZ
  obtain ⟨nT, hnT'⟩ : ∃ nT, nT = tb.length := ⟨_, rfl⟩
  obtain ⟨nR, hnR'⟩ : ∃ nR, nR = rbs.length := ⟨_, rfl⟩
  have HCA : Hid (∀ W e w', CopyA W tb rbs e w' → ∃ aT aR tb' rbs', e = .returned (.agg #[.slice aT nT nT, .slice aR nR nR]) ∧ SArg w' aT tb' aR rbs' ∧ tb'.map TB.td = tb.map TB.td ∧ rbs'.map RB.l = rbs.map RB.l ∧ Below W.heap.size W w') := by
    rintro W e w' ⟨a, b, c, d, h, h'⟩
    rw [← hnT', ← hnR'] at h
    exact ⟨a, b, c, d, h, h'⟩
  have HTO : Hid (∀ W, SIn W aT tb aR rbs → Calls Tryz.prog 19 #[.agg #[.slice aT nT capT, .slice aR nR capR]] W (fun e w' => ∃ aT aR tb' rbs', e = .returned (.agg #[.slice aT nT nT, .slice aR nR nR]) ∧ SArg w' aT tb' aR rbs' ∧ tb'.map TB.td = tb.map TB.td ∧ rbs'.map RB.l = rbs.map RB.l ∧ Below W.heap.size W w')) := by
    intro W h
    rw [hnT', hnR']
    refine (HTO.out W h).mono fun e w' hc => ?_
    rw [← hnT', ← hnR']
    exact HCA.out W e w' hc
  rw [← hnT', ← hnR'] at HZ HSO HIO HEQ0
  rw [← hnT', ← hnR']
  clear hnT hnR hT hTC hR hRC ht hZ hnT' hnR' HCA
  go_enter Tryz.func6, Tryz.ntmps6
  have hZ := HZ.out
  go_wp2_with fail
  refine (hZ _).mono ?_
  rintro e w1 ⟨⟨r, rfl, hr1, hr2, hr3⟩, hb1⟩
  have HR2 : Hid (¬ r < 0 → (tb.length ≤ 1048576 ∧ ∀ x ∈ tb, x.t.len ≤ 1048576) ∧ rbs.length ≤ 1048576 ∧ ∀ x ∈ rbs, x.l.length ≤ 1048576) := hr2
  have HB1a : Hid (Below (w.heap.size + 1) (w.alloc (.cells #[.slice aT nT capT, .slice aR nR capR] 44)) w1) := (show Below _ _ _ by simpa using hb1)
  have HB1 : Hid (Below w.heap.size w w1) := bl_trans (bl_a _) hb1
  have HBX0 : Hid (∀ W, Below w1.heap.size w1 W → W.cell? ⟨w.heap.size, 0, none⟩ = some (.slice aT nT capT) ∧ W.cell? ⟨w.heap.size, 1, none⟩ = some (.slice aR nR capR)) := by
    intro W hW
    have hs1 : w.heap.size + 1 ≤ w1.heap.size := by have := HB1a.out.size; simpa using this
    have hall := HB1a.out.trans (hW.mono hs1)
    exact ⟨(hall.cell (p := ⟨w.heap.size, 0, none⟩) (Nat.lt_succ_self _)).trans (by simp [go_sem]), (hall.cell (p := ⟨w.heap.size, 1, none⟩) (Nat.lt_succ_self _)).trans (by simp [go_sem])⟩
  clear hZ hr2 hb1 hr1 hr3
  by_cases hr : r < 0
  · go_wp2
    go_ret
    exact ⟨rfl, HB1.out⟩
  have HSI : Hid (SIn w aT tb aR rbs) := HSIN.out (HR2.out hr)
  obtain ⟨c0, c1⟩ := HBX0.out w1 (Below.refl _ _)
  have hT1 := HTO.out w1 (HSI.out.below HB1.out)
  go_wp2_with fail
  refine hT1.mono ?_
  rintro e w2 ⟨aT1, aR1, tb1, rbs1, rfl, hs, e1, r1, hb2⟩
  have HB2 : Hid (Below w1.heap.size w1 w2) := hb2
  have hO := HSO.out w2 aT1 aR1 tb1 rbs1 hs e1 r1
  clear hT1 hs e1 r1 hb2 c0 c1
  go_wp2_with fail
  refine hO.mono ?_
  rintro e w3 ⟨q, rfl, hq, hb3⟩
  have HQ : Hid (q = true ↔ Good tb (rbs.map RB.l)) := hq
  have HB3 : Hid (Below w1.heap.size w1 w3) := bl_trans HB2.out hb3
  have HBw3 : Hid (Below w.heap.size w w3) := bl_trans HB1.out HB3.out
  clear hO hq hb3
  obtain ⟨c0, c1⟩ := HBX0.out w3 HB3.out
  have hT2 := HTO.out w3 (HSI.out.below HBw3.out)
  go_wp2_with fail
  refine hT2.mono ?_
  rintro e w4 ⟨aT2, aR2, tb2, rbs2, rfl, hs2, e2, r2, hb4⟩
  have HS2 : Hid (SArg w4 aT2 tb2 aR2 rbs2) := hs2
  have HE2 : Hid (tb2.map TB.td = tb.map TB.td) := e2
  have HR2' : Hid (rbs2.map RB.l = rbs.map RB.l) := r2
  have HB4 : Hid (Below w1.heap.size w1 w4) := bl_trans HB3.out hb4
  have HBw4 : Hid (Below w.heap.size w w4) := bl_trans HBw3.out hb4
  have hI := fun W (hW : Below w4.heap.size w4 W) => HIO.out W aT2 aR2 tb2 rbs2 (HS2.out.below hW) (HTab.out.below (bl_trans HBw4.out hW)) HE2.out HR2'.out
  clear hT2 hs2 e2 r2 hb4 c0 c1
  go_wp2_with fail
  refine (hI _ (bl_a _)).mono ?_
  rintro e w6 ⟨q', rfl, hq', hb6⟩
  have hqq : q' = q := Bool.eq_iff_iff.2 (hq'.trans HQ.out.symm)
  subst hqq
  have HB6a : Hid (Below (w4.heap.size + 1) (w4.alloc (.cells #[.slice aT2 nT nT, .slice aR2 nR nR] 29)) w6) := (show Below _ _ _ by simpa using hb6)
  have HB6 : Hid (Below w4.heap.size w4 w6) := bl_trans (bl_a _) hb6
  have HBw6 : Hid (Below w.heap.size w w6) := bl_trans HBw4.out HB6.out
  have HBX : Hid (∀ w', w6.grownBy w' none → w'.cell? ⟨w.heap.size, 0, none⟩ = some (.slice aT nT capT) ∧ w'.cell? ⟨w.heap.size, 1, none⟩ = some (.slice aR nR capR) ∧ w'.cell? ⟨w4.heap.size, 0, none⟩ = some (.slice aT2 nT nT) ∧ w'.cell? ⟨w4.heap.size, 1, none⟩ = some (.slice aR2 nR nR)) := by
    intro w' hg
    have hs1 : w.heap.size + 1 ≤ w1.heap.size := by have := HB1a.out.size; simpa using this
    have hs4 := HB4.out.size
    have hs6 : w4.heap.size + 1 ≤ w6.heap.size := by have := HB6a.out.size; simpa using this
    obtain ⟨d0, d1⟩ := HBX0.out w6 (bl_trans HB4.out HB6.out)
    have d2 : w6.cell? ⟨w4.heap.size, 0, none⟩ = some (.slice aT2 nT nT) := (HB6a.out.cell (p := ⟨w4.heap.size, 0, none⟩) (Nat.lt_succ_self _)).trans (by simp [go_sem])
    have d3 : w6.cell? ⟨w4.heap.size, 1, none⟩ = some (.slice aR2 nR nR) := (HB6a.out.cell (p := ⟨w4.heap.size, 1, none⟩) (Nat.lt_succ_self _)).trans (by simp [go_sem])
    exact ⟨(cell_grown hg (by show w.heap.size < _; omega) (by simp)).trans d0, (cell_grown hg (by show w.heap.size < _; omega) (by simp)).trans d1, (cell_grown hg (by show w4.heap.size < _; omega) (by simp)).trans d2, (cell_grown hg (by show w4.heap.size < _; omega) (by simp)).trans d3⟩
  have HT3 : Hid (Calls Tryz.prog 19 #[.agg #[.slice aT nT capT, .slice aR nR capR]] w6.drew (fun e w' => ∃ aT aR tb' rbs', e = .returned (.agg #[.slice aT nT nT, .slice aR nR nR]) ∧ SArg w' aT tb' aR rbs' ∧ tb'.map TB.td = tb.map TB.td ∧ rbs'.map RB.l = rbs.map RB.l ∧ Below w6.heap.size w6.drew w')) := HTO.out w6.drew (HSI.out.below (Below.drew HBw6.out))
  have HEQ : Hid (∀ w7 aT3 aR3 tb3 rbs3, Below w6.heap.size w6.drew w7 → SArg w7 aT3 tb3 aR3 rbs3 → tb3.map TB.td = tb.map TB.td → rbs3.map RB.l = rbs.map RB.l → Calls Tryz.prog 11 #[.agg #[.slice aT2 nT nT, .slice aR2 nR nR], .agg #[.slice aT3 nT nT, .slice aR3 nR nR]] w7 fun e w' => e = .returned (.bool true) ∧ Below w7.heap.size w7 w') := by
    intro w7 aT3 aR3 tb3 rbs3 hb h1 h2 h3
    exact HEQ0.out w7 aT2 aR2 tb2 rbs2 aT3 aR3 tb3 rbs3 (HS2.out.below ((Below.drew HB6.out).trans (hb.mono HB6.out.size))) HE2.out HR2'.out h1 h2 h3
  clear hI hq' hb6
  go_wp2_with fail
  refine wp_region_held_drew (S := fun w' => w6.grownBy w' none) (by kernel_rfl) ?_ (fun hHeld => ?_)
  · exact grown_drew _ _
  refine take_at (i := 0) 22 (v := ?v1) rfl rfl (by kernel_rfl) (by kernel_rfl) (by kernel_rfl) (fun _ _ _ h => h) (Or.inl ⟨by rfl, ?y1⟩) hHeld ?r1
  case y1 => (intro w' hSw; obtain ⟨b0, b1, b2, b3⟩ := HBX.out w' hSw; go_simp; (try with_reducible rfl))
  try simp only [Act.put, List.setIfInBounds_toArray, List.set_cons_zero, List.set_cons_succ]
  refine take_at (i := 1) 23 (v := ?v2) rfl rfl (by kernel_rfl) (by kernel_rfl) (by kernel_rfl) (fun _ _ _ h => h) (Or.inl ⟨by rfl, ?y2⟩) hHeld ?r2
  case y2 => (intro w' hSw; obtain ⟨b0, b1, b2, b3⟩ := HBX.out w' hSw; go_simp; (try with_reducible rfl))
  try simp only [Act.put, List.setIfInBounds_toArray, List.set_cons_zero, List.set_cons_succ]
  refine wpAnyH_ready (rs := [2]) (by kernel_rfl) (by simp) ?_
  refine AllReadyH.cons rfl (fun K hK => ?_) AllReadyH.nil
  go_simp
  refine HT3.out.mono ?_
  rintro e w7 ⟨aT3, aR3, tb3, rbs3, rfl, hs3, e3, r3, hb7⟩
  have HB7 : Hid (Below w6.heap.size w6.drew w7) := hb7
  have hEQ := HEQ.out w7 aT3 aR3 tb3 rbs3 HB7.out hs3 e3 r3
  clear hs3 e3 r3 hb7
  go_wp2_with fail
  refine hK.out _ _ ?_ (fun hHeld => ?_)
  · exact (grown_drew _ _).trans (grown_of_below HB7.out)
  clear hK K
  try simp only [Act.put, List.setIfInBounds_toArray, List.set_cons_zero, List.set_cons_succ]
  refine wpAnyH_ready (rs := [3]) (by kernel_rfl) (by simp) ?_
  refine AllReadyH.cons rfl (fun K hK => ?_) AllReadyH.nil
  go_simp
  refine hEQ.mono ?_
  rintro e w8 ⟨rfl, hb8⟩
  have HB8 : Hid (Below w7.heap.size w7 w8) := hb8
  clear hEQ hb8
  go_wp2_with fail
  refine hK.out _ _ ?_ (fun hHeld => ?_)
  · exact (grown_drew _ _).trans ((grown_of_below HB7.out).trans (grown_of_below HB8.out))
  clear hK K
  try simp only [Act.put, List.setIfInBounds_toArray, List.set_cons_zero, List.set_cons_succ]
  refine take_at (i := 4) 26 (v := ?v3) rfl rfl (by kernel_rfl) (by kernel_rfl) (by kernel_rfl) (fun _ _ _ h => h) (Or.inl ⟨by rfl, ?y3⟩) hHeld ?r3
  case y3 => (intro w' hSw; skip; go_simp; (try with_reducible rfl))
  try simp only [Act.put, List.setIfInBounds_toArray, List.set_cons_zero, List.set_cons_succ]
  refine wpAnyH_done (by kernel_rfl) ?_ _
  go_wp2
  go_ret
  exact ⟨rfl, ((Below.drew HBw6.out).trans (HB7.out.mono HBw6.out.size)).trans (HB8.out.mono (by have := HBw6.out.size; have := HB7.out.size; simp at *; omega))⟩
end Go.Proofs.YtdcaicoomldmgaaGreatDoor

/- StvI -/
namespace Go.Proofs.YtdcaicoomldmgaaGreatDoor
open Go.ChangeShapes Go.WideShapes Go.ChangeAt Go.RowKit Go.Joins
set_option maxRecDepth 100000

theorem door_metStoreOk (os : Os) (args : Array Value) : laidMetH Tryz.prog Rows.fnExactStoreOkRow.laid ((World.doorLaid Tryz.prog 24 os).forCall (fun _ _ => 0) ⟨#[], args, []⟩).memory :=
  laidMetH_of_parts3 (fuel := 8) (laidMet_of_run' 8 (by kernel_rfl) (by kernel_rfl)) (by kernel_rfl) (by kernel_rfl)

theorem Tryz.cells164 : Tryz.prog.cellsOf 164 = 1 := by kernel_rfl
theorem tab_of_laid {W : World} (h : laidMetH Tryz.prog Rows.fnExactStoreOkRow.laid W) : Tab W := by
  rw [MakeChecks.laidMetH_plain _ _ _ (by kernel_rfl)] at h
  exact Lib.tabIs_of_head (k := .u64) (zs := Lib.pow10Tab) (rest := []) (g := 1) (t := 210) (n := 20) (by kernel_rfl) (by kernel_rfl) (by kernel_rfl) Tryz.underlying164 Tryz.cells164 (by kernel_rfl) (laidMet.tail (laidMet.tail h))

theorem liftedStoreOk (os : Os) (started : os.Started) (H : Type) (enc : TypeId × Value → H) :
    ReturnsInHanded {} Tryz.checked os 6 .any (fun w args => (Rows.fnExactStoreOkSpec.pre enc Tryz.prog Tryz.f6 [] false w args ∧ laidMetH Tryz.prog Rows.fnExactStoreOkRow.laid w) ∧ sizedMet enc Tryz.prog Tryz.f6 (OpenSpec.ofChange Rows.fnExactStoreOkSpec) false w args)
      (Rows.fnExactStoreOkSpec.post enc Tryz.prog Tryz.f6 false true false false) := by
  refine returnsInHanded_of_change_and (C := Tryz.checked) (X := fun w _ => laidMetH Tryz.prog Rows.fnExactStoreOkRow.laid w) (fun _ _ _ hh h => h.of_heap hh) own started (by kernel_rfl) Tryz.func6
    (ChangeSpec.witness_shaped (enc := enc) (C := Tryz.checked) (os := os) (X := fun w _ => laidMetH Tryz.prog Rows.fnExactStoreOkRow.laid w) false (World.doorLaid Tryz.prog 24 os) #[.agg #[.slice none 0 0, .slice none 0 0]] 8 rfl (World.shaped_of_RefB (by kernel_rfl) (by kernel_rfl)) (by kernel_rfl) (by kernel_rfl) (by kernel_rfl) (door_metStoreOk os _)) ?_
  intro W base args ds gs before hval0 hW _ _ hL _
  have hval : ∀ (j : Nat) t v, Tryz.f6.params[j]? = some t → args[j]? = some v → Value.okWide Tryz.prog W .any base t v := hval0
  have hW' := hW
  obtain ⟨p, q, hA0, hV, rfl, hfz, hnd⟩ := hW
  have hA : DataW.TrodAll enc Tryz.prog W 0 (fun _ => true) true Tryz.f6.params.toList args.toList ds p := hA0
  rw [Tryz.params6] at hA hval
  obtain ⟨v0, vs0, d0, ds0, p0, q0, hargs, rfl, rfl, h0, r0⟩ := trodAll_cons hA
  obtain ⟨rfl, rfl, rfl⟩ := trodAll_nil r0
  obtain rfl : args = #[v0] := by cases args; simp_all
  obtain ⟨rfl, rfl⟩ := trodVars_none hV
  have k0 := h0
  have lt0 : ∀ x ∈ p0, x.block < W.heap.size := by obtain ⟨m, hm⟩ := k0; exact DataW.trod_lt m _ _ _ hm
  obtain ⟨aT, aR, capT, capR, tb, rbs, rfl, hnT, hnR, hT, hTC, hR, hRC⟩ := open_store (hval 0 44 v0 rfl rfl) h0
  clear hA0 hval0
  refine (walkStoreOk aT aR capT capR tb rbs W hnT hnR hT hTC hR hRC (tab_of_laid hL)).mono fun e W' ⟨he, bel⟩ => ?_
  subst he
  exact ⟨_, rfl, _, _, _, [], _, [], hW', trodAll_mk1 (shut_bool Tryz.underlying4 _), (trodAll_cons_mk (Below.trod laidOut (by kernel_rfl) (of_decide_eq_true (by kernel_rfl)) k0 bel lt0) trodAll_mk0), rfl, bel.frame _, fun h => by cases h⟩

theorem overStoreOk : Rows.FnExactStoreOkSaid :=
  OpenClaim.holds_of_wide 6 Tryz.f6 rfl rfl rfl rfl rfl rfl rfl ⟨rfl, rfl, rfl, rfl, rfl⟩ rfl rfl rfl rfl rfl (by kernel_rfl) Tryz.func6 (by kernel_rfl)
    (of_decide_eq_true (by kernel_rfl)) (by unfold Func.isWrapper; first | (rw [if_pos (by decide +kernel)]; kernel_rfl) | (rw [if_neg (by decide +kernel)]; exact ⟨rfl, rfl⟩))
    (fun os started H enc _ => liftedStoreOk os started H enc)

theorem provedStoreOk : Rows.FnExactStoreOkCardSaid :=
  Claim7.holds_tied_plain_at .later [] [.data, .data, .data] true Rows.fnExactStoreOkCard.stood.harness false
    overStoreOk (fun _ h => by cases h) (by kernel_rfl) (fun _ h => by cases h) fnExactStoreOk_row_tie rfl ⟨rfl, rfl⟩ (by kernel_rfl) rfl
    (fun f fn hf hfn => by
      obtain rfl : f = 6 := Option.some.inj ((show Tryz.prog.funcNamed Rows.fnExactStoreOkRow.func = some 6 by kernel_rfl).symm.trans hf) |>.symm
      obtain rfl : fn = Tryz.f6 := (Option.some.inj (Tryz.func6.symm.trans hfn)).symm
      exact ⟨by kernel_rfl, fun j t ht => by
        rw [Tryz.params6] at ht
        have hm : t ∈ [44] := by simpa using Array.mem_of_getElem? ht
        have hall : ([44].all fun u => !Tryz.prog.wantsStandIn u) = true := by kernel_rfl
        exact (show Tryz.prog.wantsStandIn t = false by simpa using List.all_eq_true.1 hall t hm)⟩)
    (by kernel_rfl)
#print axioms provedStoreOk
end Go.Proofs.YtdcaicoomldmgaaGreatDoor
