/- Texts put together: StqG -/
import Derived.Test.YtdcaicoomldmgaaGreatDoorMk18
import Derived.Test.YtdcaicoomldmgaaGreatDoorMk03
/- StqG -/
namespace Go.Proofs.YtdcaicoomldmgaaGreatDoor
open Go.RowKit Go.Deep
set_option maxRecDepth 100000

/-- What l3graph answers. -/
def L3Res (w : World) (tb : List TB) (l0 : List (Int × Int × Int)) (six : Prop) (e : Ending) (w' : World) : Prop :=
  ∃ a m c q, e = .returned (.tuple #[.agg #[.slice a m c], .bool q]) ∧ (q = true → m = l0.length ∧ Rows w' a m (sT tb l0) (sU tb l0) (sV tb l0)) ∧ (q = true ↔ (six ∧ (∀ x ∈ tb, x.td.ok = true) ∧ (∀ r ∈ l0, inR tb.length r) ∧ sOk tb l0 = true)) ∧ Below w.heap.size w w'

set_option maxHeartbeats 4000000 in
theorem l3graph_not6 (aT aR : Option Addr) (nT capT nR capR : Nat) (tb : List TB) (l0 : List (Int × Int × Int)) (w : World) (h6 : nR ≠ 6) :
    Calls Tryz.prog 65 #[.agg #[.slice aT nT capT, .slice aR nR capR]] w (L3Res w tb l0 False) := by
  have h6' : ((nR : Int) == 6) = false := by simp; omega
  go_enter Tryz.func65, Tryz.ntmps65
  go_wp2
  refine bodyPost_ret (v := .tuple #[.agg #[.slice none 0 0], .bool false]) (by simp [results, Tryz.results65, go_sem, *]) rfl ⟨none, 0, 0, false, rfl, fun h => (by cases h), ⟨fun h => (by cases h), fun h => absurd h ?_⟩, ?_⟩
  · exact fun h => h.1
  · exact bl_alloc (bl_alloc (bl_a _) _) _

set_option maxHeartbeats 4000000 in
theorem l3graph_long (aT aR : Option Addr) (capT capR : Nat) (tb : List TB) (l0 : List (Int × Int × Int)) (a0 : Option Addr) (c0 : Nat) (w : World) (nT n : Nat) (hn0 : n = l0.length) (hn : 60 < n) (hn2 : n ≤ 1048576) (bR oR : Nat) (haR : aR = some ⟨bR, oR, none⟩) (hbR : bR < w.heap.size) (hcR : w.cell? ⟨bR, oR, none⟩ = some (.slice a0 n c0)) :
    Calls Tryz.prog 65 #[.agg #[.slice aT nT capT, .slice aR 6 capR]] w (L3Res w tb l0 True) := by
  subst haR
  have HN0 : Hid (n = l0.length) := hn0
  have hcR3 : (((w.alloc (.cells #[.slice aT nT capT, .slice (some ⟨bR, oR, none⟩) 6 capR] 29)).alloc (.cells #[.slice none 0 0] 34)).alloc (.cells #[.slice none 0 0] 34)).cell? ⟨bR, oR, none⟩ = some (.slice a0 n c0) := ((bl_alloc (bl_alloc (bl_a (w := w) _) _) _).cell (p := ⟨bR, oR, none⟩) hbR).trans hcR
  have hnz : (60 : Int) < n := by omega
  clear hn0 hcR
  go_enter Tryz.func65, Tryz.ntmps65
  go_wp2
  refine bodyPost_ret (v := .tuple #[.agg #[.slice none 0 0], .bool false]) (by simp [results, Tryz.results65, go_sem, *]) rfl ⟨none, 0, 0, false, rfl, fun h => (by cases h), ⟨fun h => (by cases h), fun h => absurd h ?_⟩, ?_⟩
  · intro h
    have h1 := h.2.2.2
    unfold sOk at h1
    rw [graphOk_long (by rw [← HN0.out]; exact hn)] at h1
    cases h1
  · exact bl_alloc (bl_alloc (bl_a _) _) _

set_option maxHeartbeats 16000000 in
theorem l3graph_six (aT aR : Option Addr) (capT capR : Nat) (tb : List TB) (l0 : List (Int × Int × Int)) (a0 : Option Addr) (c0 : Nat) (w : World) (nT n : Nat) (hnT : nT = tb.length) (hn0 : n = l0.length) (hnT' : nT ≤ 1048576) (hn : n ≤ 60) (hT : TRow w aT tb) (hTx : TTxt w tb) (hfit : ∀ x ∈ tb, x.t.fits) (hR : RRow w a0 l0) (bR oR : Nat) (haR : aR = some ⟨bR, oR, none⟩) (hbR : bR < w.heap.size) (hcR : w.cell? ⟨bR, oR, none⟩ = some (.slice a0 n c0)) :
    Calls Tryz.prog 65 #[.agg #[.slice aT nT capT, .slice aR 6 capR]] w (L3Res w tb l0 True) := by
  subst haR
  obtain ⟨i0, hi0, hzz⟩ := Option.map_eq_some_iff.1 Tryz.info110
  simp only [Prod.mk.injEq] at hzz
  obtain ⟨hi2, hi1, hi3⟩ := hzz
  have HNT : Hid (nT = tb.length) := hnT
  have HN0 : Hid (n = l0.length) := hn0
  have HT : Hid (TRow w aT tb) := hT
  have HTX : Hid (TTxt w tb) := hTx
  have HFT : Hid (∀ x ∈ tb, x.t.fits) := hfit
  have HR : Hid (RRow w a0 l0) := hR
  have HW : Hid (∀ wr, Below (w.heap.size + 1 + 1) (((w.alloc (.cells #[.slice aT nT capT, .slice (some ⟨bR, oR, none⟩) 6 capR] 29)).alloc (.cells #[.slice none 0 0] 34)).alloc (.cells #[.slice none 0 0] 34)) wr → Below w.heap.size w wr) := fun wr h => (bl_alloc (bl_alloc (bl_a (w := w) _) _) _).trans (h.mono (by omega))
  have HSB : Hid (∀ wr, Below (w.heap.size + 1 + 1) (((w.alloc (.cells #[.slice aT nT capT, .slice (some ⟨bR, oR, none⟩) 6 capR] 29)).alloc (.cells #[.slice none 0 0] 34)).alloc (.cells #[.slice none 0 0] 34)) wr → wr.cell? ⟨w.heap.size, 0, none⟩ = some (.slice aT nT capT) ∧ wr.cell? ⟨w.heap.size + 1, 0, none⟩ = some (.slice none 0 0) ∧ wr.frozen? ⟨w.heap.size + 1, 0, none⟩ = false) := fun wr h => ⟨(h.cell (p := ⟨w.heap.size, 0, none⟩) (by show w.heap.size < _; omega)).trans (by simp [go_sem]), (h.cell (p := ⟨w.heap.size + 1, 0, none⟩) (by show w.heap.size + 1 < _; omega)).trans (by simp [go_sem]), (h.frozen (p := ⟨w.heap.size + 1, 0, none⟩) (by show w.heap.size + 1 < _; omega)).trans (by simp [go_sem])⟩
  have HS1 : Hid (∀ wr, Below (w.heap.size + 1 + 1) (((w.alloc (.cells #[.slice aT nT capT, .slice (some ⟨bR, oR, none⟩) 6 capR] 29)).alloc (.cells #[.slice none 0 0] 34)).alloc (.cells #[.slice none 0 0] 34)) wr → wr.cell? ⟨w.heap.size, 1, none⟩ = some (.slice (some ⟨bR, oR, none⟩) 6 capR) ∧ wr.cell? ⟨bR, oR, none⟩ = some (.slice a0 n c0)) := fun wr h => ⟨(h.cell (p := ⟨w.heap.size, 1, none⟩) (by show w.heap.size < _; omega)).trans (by simp [go_sem]), (h.cell (p := ⟨bR, oR, none⟩) (by show bR < _; omega)).trans (((bl_alloc (bl_alloc (bl_a (w := w) _) _) _).cell (p := ⟨bR, oR, none⟩) hbR).trans hcR)⟩
  have hcR3 : (((w.alloc (.cells #[.slice aT nT capT, .slice (some ⟨bR, oR, none⟩) 6 capR] 29)).alloc (.cells #[.slice none 0 0] 34)).alloc (.cells #[.slice none 0 0] 34)).cell? ⟨bR, oR, none⟩ = some (.slice a0 n c0) := (HS1.out _ (Below.refl _ _)).2
  have hnz : ¬ (60 : Int) < n := by omega
  have HGK0 : Hid (∀ W av cv, Below w.heap.size w W → Rows W av n (sT tb l0) (sU tb l0) (sV tb l0) → (∀ r ∈ l0, inR tb.length r) → Calls Tryz.prog 34 #[.agg #[.slice av n cv]] W fun e w' => e = .returned (.bool (sOk tb l0)) ∧ Below W.heap.size W w') := by
    intro W av cv hW hRr hin
    have hat : ∀ z : Int, (1 ≤ z ∧ z ≤ tb.length) → tbAt tb z ∈ tb := by
      intro z hz
      unfold tbAt
      rw [List.getElem?_eq_getElem (show (z - 1).toNat < tb.length by omega)]
      exact List.getElem_mem _
    have hr3 : ∀ i, i < n → inR tb.length (r3At l0 i) := by
      intro i hi
      unfold r3At
      rw [List.getElem?_eq_getElem (show i < l0.length by omega)]
      exact hin _ (List.getElem_mem _)
    have h := specGraphOk_any av n cv (sT tb l0) (sU tb l0) (sV tb l0) (sbt tb l0) (sbu tb l0) (sbv tb l0) W (by omega) (fun i hi => ⟨hfit _ (hat _ (hr3 i hi).1), hfit _ (hat _ (hr3 i hi).2.1), hfit _ (hat _ (hr3 i hi).2.2)⟩) hRr (fun i hi => (hTx _ (hat _ (hr3 i hi).1)).below hW) (fun i hi => (hTx _ (hat _ (hr3 i hi).2.1)).below hW) (fun i hi => (hTx _ (hat _ (hr3 i hi).2.2)).below hW)
    rw [hn0] at h ⊢
    exact h
  clear hnT hn0 hT hR hcR hTx hfit
  go_enter Tryz.func65, Tryz.ntmps65
  go_wp2
  go_loopw [6] (fun i wr => ∃ k : Nat, k ≤ nT ∧ i = .int .i64 k ∧ Hid (∀ j x, j < k → tb[j]? = some x → x.td.ok = true) ∧ Hid (Below (w.heap.size + 1 + 1 + 1) (((w.alloc (.cells #[.slice aT nT capT, .slice (some ⟨bR, oR, none⟩) 6 capR] 29)).alloc (.cells #[.slice none 0 0] 34)).alloc (.cells #[.slice none 0 0] 34)) wr))
    (fun i _ => nT - (intOf i).toNat)
  case atStart => exact ⟨0, Nat.zero_le _, rfl, fun j x hj => by omega, Below.refl _ _⟩
  case round =>
    obtain ⟨k, hk, rfl, HE, HB⟩ := hrel
    have hsB : (w.heap.size + 1 + 1 + 1) ≤ wr.heap.size := by have := HB.out.size; simpa using this
    have HBg : Hid (Below (w.heap.size + 1 + 1) (((w.alloc (.cells #[.slice aT nT capT, .slice (some ⟨bR, oR, none⟩) 6 capR] 29)).alloc (.cells #[.slice none 0 0] 34)).alloc (.cells #[.slice none 0 0] 34)) wr) := HB.out.mono (by omega)
    by_cases hlk : k < nT
    · have hkl : k < tb.length := by rw [← HNT.out]; exact hlk
      obtain ⟨x, hx⟩ : ∃ x, x = tb[k] := ⟨_, rfl⟩
      have HX : Hid (tb[k]? = some x) := (show tb[k]? = some x by rw [hx]; exact List.getElem?_eq_getElem hkl)
      have htb : tb ≠ [] := by
        intro h
        subst h
        simp at hkl
      obtain ⟨bT, oT, rfl, hltT, hcT⟩ := HT.out.resolve_left htb
      have hwr := HW.out wr HBg.out
      have hbox := (HSB.out wr HBg.out).1
      have hcx := TRow.at (l := tb) (b := bT) (off := oT) (w := wr) (fun j u hu => (hwr.cell (p := ⟨bT, oT + j, none⟩) hltT).trans (hcT j u hu)) k hkl
      rw [← hx] at hcx
      obtain ⟨x0, x1, x2, x3⟩ := hcx
      have hxm := List.mem_of_getElem? HX.out
      have hfx := HFT.out x hxm
      have hTO := specTermOk_any x.t.k x.t.n x.t.s x.t.a x.t.len x.t.cap x.b wr ((HTX.out x hxm).below hwr) hfx.1 hfx.2.1
      have e : termOk x.t.k x.b x.t.n x.t.s = x.td.ok := rfl
      rw [e] at hTO
      clear hx htb hwr hxm hfx e hcT
      obtain ⟨q, hq⟩ : ∃ q, q = x.td.ok := ⟨_, rfl⟩
      have HQ : Hid (q = x.td.ok) := hq
      rw [← hq] at hTO
      clear hq
      go_wp2_with fail
      refine hTO.mono ?_
      rintro e w2 ⟨rfl, ob, hob⟩
      have hb2 : Below wr.heap.size wr w2 := by rw [hob]; exact bl_a _
      clear hob
      have HB2 : Hid (Below (w.heap.size + 1 + 1 + 1) (((w.alloc (.cells #[.slice (some ⟨bT, oT, none⟩) nT capT, .slice (some ⟨bR, oR, none⟩) 6 capR] 29)).alloc (.cells #[.slice none 0 0] 34)).alloc (.cells #[.slice none 0 0] 34)) w2) := HB.out.trans (hb2.mono hsB)
      obtain ⟨_, e1, e2⟩ := HSB.out w2 (HB2.out.mono (by omega))
      have e3 : w2.cell? ⟨(w.heap.size + 1 + 1), 0, none⟩ = some (.slice none 0 0) := (HB2.out.cell (p := ⟨(w.heap.size + 1 + 1), 0, none⟩) (Nat.lt_succ_self _)).trans (by simp [go_sem])
      clear hTO hb2 x0 x1 x2 x3 hbox
      cases q with
      | false =>
        go_wp2
        refine bodyPost_ret (v := .tuple #[.agg #[.slice none 0 0], .bool false]) (by simp [results, Tryz.results65, go_sem, *]) rfl ⟨none, 0, 0, false, rfl, fun h => (by cases h), ⟨fun h => (by cases h), fun h => absurd h ?_⟩, ?_⟩
        · intro h
          have := h.2.1 x (List.mem_of_getElem? HX.out)
          rw [← HQ.out] at this
          cases this
        · exact bl_set (HW.out w2 (HB2.out.mono (by omega))) (by first | (dsimp only; omega) | omega) _
      | true =>
        clear e1 e2 e3
        go_wp2
        go_roundw
        case rel =>
          refine ⟨k + 1, by omega, by go_num, fun j y hj hy => ?_, HB2⟩
          by_cases e : j = k
          · subst e
            rw [HX.out] at hy
            cases hy
            exact HQ.out.symm
          · exact HE.out j y (by omega) hy
        case measure => simp [intOf]; omega
    · obtain rfl : nT = k := by omega
      have HAL : Hid (∀ x ∈ tb, x.td.ok = true) := by
        intro x hx
        obtain ⟨j, hj, rfl⟩ := List.mem_iff_getElem.1 hx
        exact HE.out j _ (by rw [HNT.out]; exact hj) (List.getElem?_eq_getElem hj)
      clear HE
      obtain ⟨wL, hwL⟩ : ∃ wL, wL = wr := ⟨_, rfl⟩
      rw [← hwL]
      rw [← hwL] at HB HBg hsB
      clear hwL
      go_wp2
      go_loopw [7] (fun i wr => ∃ (k : Nat) (v : Value), k ≤ n ∧ i = .int .i64 k ∧ Hid (wr.cell? ⟨(w.heap.size + 1 + 1), 0, none⟩ = some v ∧ wr.frozen? ⟨(w.heap.size + 1 + 1), 0, none⟩ = false ∧ (w.heap.size + 1 + 1 + 1) ≤ wr.heap.size ∧ ∀ j r, j < k → l0[j]? = some r → inR nT r) ∧ Hid (OwnGR wr (w.heap.size + 1 + 1 + 1) v (sT tb l0) (sU tb l0) (sV tb l0) k) ∧ Hid (Below (w.heap.size + 1 + 1) (((w.alloc (.cells #[.slice aT nT capT, .slice (some ⟨bR, oR, none⟩) 6 capR] 29)).alloc (.cells #[.slice none 0 0] 34)).alloc (.cells #[.slice none 0 0] 34)) wr))
        (fun i _ => n - (intOf i).toNat)
      case atStart => exact ⟨0, .slice none 0 0, Nat.zero_le _, rfl, ⟨(HB.out.cell (p := ⟨(w.heap.size + 1 + 1), 0, none⟩) (Nat.lt_succ_self _)).trans (by simp [go_sem]), (HB.out.frozen (p := ⟨(w.heap.size + 1 + 1), 0, none⟩) (Nat.lt_succ_self _)).trans (by simp [go_sem]), hsB, fun j r hj => by omega⟩, OwnGR.nil _ _ _ _ _, HBg⟩
      case round =>
        obtain ⟨k, v, hk, rfl, HS, HO, HB⟩ := hrel
        by_cases hlk : k < n
        · have hkl : k < l0.length := by rw [← HN0.out]; exact hlk
          obtain ⟨b, off, ha0, hlt, hc⟩ : ∃ b off, a0 = some ⟨b, off, none⟩ ∧ b < w.heap.size ∧ ∀ j u, (flat3 l0)[j]? = some u → w.cell? ⟨b, off + j, none⟩ = some u := by
            rcases HR.out with ⟨_, h⟩ | h
            · exfalso
              rw [h] at hkl
              simp at hkl
            · exact h
          subst ha0
          obtain ⟨y, hy⟩ : ∃ y, l0[k]? = some y := ⟨_, List.getElem?_eq_getElem hkl⟩
          have HY : Hid (l0[k]? = some y) := hy
          have hwr := HW.out wr HB.out
          obtain ⟨yc0, yc1, yc2⟩ := RRow.at (l := l0) (b := b) (off := off) (w := wr) (fun j u hu => (hwr.cell (p := ⟨b, off + j, none⟩) hlt).trans (hc j u hu)) k y hy
          have hs4 : (w.heap.size + 1 + 1 + 1) ≤ wr.heap.size := HS.out.2.2.1
          obtain ⟨w2, HB2, HW2⟩ : ∃ w2, Hid (Below (wr.heap.size + 1) (wr.alloc (.cells #[.int .i64 y.1, .int .i64 y.2.1, .int .i64 y.2.2] 99)) w2) ∧ Hid (w2 = wr.alloc (.cells #[.int .i64 y.1, .int .i64 y.2.1, .int .i64 y.2.2] 99)) := ⟨_, Below.refl _ _, rfl⟩
          have HBw : Hid (Below (w.heap.size + 1 + 1) (((w.alloc (.cells #[.slice aT nT capT, .slice (some ⟨bR, oR, none⟩) 6 capR] 29)).alloc (.cells #[.slice none 0 0] 34)).alloc (.cells #[.slice none 0 0] 34)) w2) := HB.out.trans (((bl_a _).trans (HB2.out.mono (Nat.le_succ _))).mono (by omega))
          have hsz2 : wr.heap.size + 1 ≤ w2.heap.size := by have := HB2.out.size; simpa using this
          clear hy hwr hc
          by_cases hin : inR nT y
          rotate_left
          · have HNI : Hid (¬ inR tb.length y) := by
              rw [← HNT.out]
              exact hin
            obtain ⟨av, cv, rfl, _⟩ := HO.out.form
            obtain ⟨hbx0, _⟩ := HSB.out wr HB.out
            obtain ⟨hbx2, hbx3⟩ := HS1.out wr HB.out
            obtain ⟨_, e1, e2⟩ := HSB.out w2 HBw.out
            have g0 : w2.cell? ⟨(w.heap.size + 1 + 1), 0, none⟩ = some (.slice av k cv) := (HB2.out.cell (p := ⟨(w.heap.size + 1 + 1), 0, none⟩) (by show (w.heap.size + 1 + 1) < _; omega)).trans (((bl_a _ : Below wr.heap.size wr _).cell (p := ⟨(w.heap.size + 1 + 1), 0, none⟩) (by show (w.heap.size + 1 + 1) < _; omega)).trans HS.out.1)
            rw [HW2.out] at e1 e2 g0
            have HBL : Hid (Below w.heap.size w (wr.alloc (.cells #[.int .i64 y.1, .int .i64 y.2.1, .int .i64 y.2.2] 99))) := by
              have := HW.out w2 HBw.out
              rw [HW2.out] at this
              exact this
            obtain ⟨z1, z2, z3⟩ := y
            have hcs : z1 < 1 ∨ (¬ z1 < 1 ∧ (nT : Int) < z1) ∨ (¬ z1 < 1 ∧ ¬ (nT : Int) < z1 ∧ z2 < 1) ∨ (¬ z1 < 1 ∧ ¬ (nT : Int) < z1 ∧ ¬ z2 < 1 ∧ (nT : Int) < z2) ∨ (¬ z1 < 1 ∧ ¬ (nT : Int) < z1 ∧ ¬ z2 < 1 ∧ ¬ (nT : Int) < z2 ∧ z3 < 1) ∨ (¬ z1 < 1 ∧ ¬ (nT : Int) < z1 ∧ ¬ z2 < 1 ∧ ¬ (nT : Int) < z2 ∧ ¬ z3 < 1 ∧ (nT : Int) < z3) := by
              unfold inR at hin
              dsimp only at hin
              omega
            dsimp only at yc0 yc1 yc2 e1 e2 g0 HBL
            clear hin HB2 HW2 HBw hsz2
            rcases hcs with c1 | ⟨c1, c2⟩ | ⟨c1, c2, c3⟩ | ⟨c1, c2, c3, c4⟩ | ⟨c1, c2, c3, c4, c5⟩ | ⟨c1, c2, c3, c4, c5, c6⟩
            · go_wp2
              refine bodyPost_ret (v := .tuple #[.agg #[.slice av k cv], .bool false]) (by simp [results, Tryz.results65, go_sem, *]) rfl ⟨av, k, cv, false, rfl, fun h => (by cases h), ⟨fun h => (by cases h), fun h => absurd h ?_⟩, ?_⟩
              · intro h
                exact HNI.out (h.2.2.1 _ (List.mem_of_getElem? HY.out))
              · exact bl_set HBL.out (by first | (dsimp only; omega) | omega) _
            · go_wp2
              refine bodyPost_ret (v := .tuple #[.agg #[.slice av k cv], .bool false]) (by simp [results, Tryz.results65, go_sem, *]) rfl ⟨av, k, cv, false, rfl, fun h => (by cases h), ⟨fun h => (by cases h), fun h => absurd h ?_⟩, ?_⟩
              · intro h
                exact HNI.out (h.2.2.1 _ (List.mem_of_getElem? HY.out))
              · exact bl_set HBL.out (by first | (dsimp only; omega) | omega) _
            · go_wp2
              refine bodyPost_ret (v := .tuple #[.agg #[.slice av k cv], .bool false]) (by simp [results, Tryz.results65, go_sem, *]) rfl ⟨av, k, cv, false, rfl, fun h => (by cases h), ⟨fun h => (by cases h), fun h => absurd h ?_⟩, ?_⟩
              · intro h
                exact HNI.out (h.2.2.1 _ (List.mem_of_getElem? HY.out))
              · exact bl_set HBL.out (by first | (dsimp only; omega) | omega) _
            · go_wp2
              refine bodyPost_ret (v := .tuple #[.agg #[.slice av k cv], .bool false]) (by simp [results, Tryz.results65, go_sem, *]) rfl ⟨av, k, cv, false, rfl, fun h => (by cases h), ⟨fun h => (by cases h), fun h => absurd h ?_⟩, ?_⟩
              · intro h
                exact HNI.out (h.2.2.1 _ (List.mem_of_getElem? HY.out))
              · exact bl_set HBL.out (by first | (dsimp only; omega) | omega) _
            · go_wp2
              refine bodyPost_ret (v := .tuple #[.agg #[.slice av k cv], .bool false]) (by simp [results, Tryz.results65, go_sem, *]) rfl ⟨av, k, cv, false, rfl, fun h => (by cases h), ⟨fun h => (by cases h), fun h => absurd h ?_⟩, ?_⟩
              · intro h
                exact HNI.out (h.2.2.1 _ (List.mem_of_getElem? HY.out))
              · exact bl_set HBL.out (by first | (dsimp only; omega) | omega) _
            · go_wp2
              refine bodyPost_ret (v := .tuple #[.agg #[.slice av k cv], .bool false]) (by simp [results, Tryz.results65, go_sem, *]) rfl ⟨av, k, cv, false, rfl, fun h => (by cases h), ⟨fun h => (by cases h), fun h => absurd h ?_⟩, ?_⟩
              · intro h
                exact HNI.out (h.2.2.1 _ (List.mem_of_getElem? HY.out))
              · exact bl_set HBL.out (by first | (dsimp only; omega) | omega) _
          · have hd : inRb nT y = true := inRb_iff.2 hin
            obtain ⟨⟨p1, p2⟩, ⟨q1, q2⟩, ⟨s1, s2⟩⟩ := id hin
            have HIN : Hid (inR nT y) := hin
            obtain ⟨y1, y2, y3⟩ := y
            dsimp only at p1 p2 q1 q2 s1 s2
            obtain ⟨p, rfl⟩ : ∃ p : Nat, y1 = (p : Int) + 1 := ⟨(y1 - 1).toNat, by omega⟩
            obtain ⟨q, rfl⟩ : ∃ q : Nat, y2 = (q : Int) + 1 := ⟨(y2 - 1).toNat, by omega⟩
            obtain ⟨s, rfl⟩ : ∃ s : Nat, y3 = (s : Int) + 1 := ⟨(y3 - 1).toNat, by omega⟩
            have hp : p < nT := by omega
            have hq : q < nT := by omega
            have hs : s < nT := by omega
            have wp : IntKind.i64.wrap (p : Int) = (p : Int) := IntWalk.i64_in _ (by omega)
            have wq : IntKind.i64.wrap (q : Int) = (q : Int) := IntWalk.i64_in _ (by omega)
            have ws : IntKind.i64.wrap (s : Int) = (s : Int) := IntWalk.i64_in _ (by omega)
            have htb : tb ≠ [] := by
              intro h
              have := HNT.out
              rw [h] at this
              simp at this
              omega
            obtain ⟨bT, oT, rfl, hltT, hcT⟩ := HT.out.resolve_left htb
            obtain ⟨T, hTT⟩ : ∃ T, T = sT tb l0 := ⟨_, rfl⟩
            obtain ⟨U, hUU⟩ : ∃ U, U = sU tb l0 := ⟨_, rfl⟩
            obtain ⟨V, hVV⟩ : ∃ V, V = sV tb l0 := ⟨_, rfl⟩
            rw [← hTT, ← hUU, ← hVV] at HO
            have hlp : p < tb.length := by rw [← HNT.out]; exact hp
            have hlq : q < tb.length := by rw [← HNT.out]; exact hq
            have hls : s < tb.length := by rw [← HNT.out]; exact hs
            have er3 : r3At l0 k = ((p : Int) + 1, (q : Int) + 1, (s : Int) + 1) := by unfold r3At; rw [HY.out]; rfl
            have eT : T k = tb[p].t := by rw [hTT]; unfold sT; rw [er3]; exact congrArg TB.t (tbAt_in hlp)
            have eU : U k = tb[q].t := by rw [hUU]; unfold sU; rw [er3]; exact congrArg TB.t (tbAt_in hlq)
            have eV : V k = tb[s].t := by rw [hVV]; unfold sV; rw [er3]; exact congrArg TB.t (tbAt_in hls)
            obtain ⟨t, ht⟩ : ∃ t, t = T k := ⟨_, rfl⟩
            obtain ⟨u, hu⟩ : ∃ u, u = U k := ⟨_, rfl⟩
            obtain ⟨x, hx⟩ : ∃ x, x = V k := ⟨_, rfl⟩
            have hw2 := HW.out w2 HBw.out
            have hGl : ∀ g, v.ownBlock = some g → (w.heap.size + 1 + 1 + 1) ≤ g ∧ g < wr.heap.size := fun g hg => HO.out.2 g hg
            have HKK : Hid (∀ w', Kept (w.heap.size + 1 + 1) v.ownBlock w2 w' → w'.cell? ⟨w.heap.size, 0, none⟩ = some (.slice (some ⟨bT, oT, none⟩) nT capT) ∧ (w'.cell? ⟨wr.heap.size, 0, none⟩ = some (.int .i64 ((p : Int) + 1)) ∧ w'.cell? ⟨wr.heap.size, 1, none⟩ = some (.int .i64 ((q : Int) + 1)) ∧ w'.cell? ⟨wr.heap.size, 2, none⟩ = some (.int .i64 ((s : Int) + 1))) ∧ (w'.cell? ⟨bT, oT + p * 4, none⟩ = some (.int .i64 t.k) ∧ w'.cell? ⟨bT, oT + p * 4 + 1, none⟩ = some (.slice t.a t.len t.cap) ∧ w'.cell? ⟨bT, oT + p * 4 + 2, none⟩ = some (.int .i64 t.n) ∧ w'.cell? ⟨bT, oT + p * 4 + 3, none⟩ = some (.int .i64 t.s)) ∧ (w'.cell? ⟨bT, oT + q * 4, none⟩ = some (.int .i64 u.k) ∧ w'.cell? ⟨bT, oT + q * 4 + 1, none⟩ = some (.slice u.a u.len u.cap) ∧ w'.cell? ⟨bT, oT + q * 4 + 2, none⟩ = some (.int .i64 u.n) ∧ w'.cell? ⟨bT, oT + q * 4 + 3, none⟩ = some (.int .i64 u.s)) ∧ (w'.cell? ⟨bT, oT + s * 4, none⟩ = some (.int .i64 x.k) ∧ w'.cell? ⟨bT, oT + s * 4 + 1, none⟩ = some (.slice x.a x.len x.cap) ∧ w'.cell? ⟨bT, oT + s * 4 + 2, none⟩ = some (.int .i64 x.n) ∧ w'.cell? ⟨bT, oT + s * 4 + 3, none⟩ = some (.int .i64 x.s))) := by
              intro w' hk'
              have hTc : ∀ j uu, (flat4 tb)[j]? = some uu → w'.cell? ⟨bT, oT + j, none⟩ = some uu := fun j uu hj => by
                rw [hk'.cell (Nat.lt_of_lt_of_le hltT hw2.size) (by omega) (fun e => by have := hGl bT e.symm; omega)]
                exact (hw2.cell (p := ⟨bT, oT + j, none⟩) hltT).trans (hcT j uu hj)
              have a1 := TRow.at hTc p hlp
              have a2 := TRow.at hTc q hlq
              have a3 := TRow.at hTc s hls
              rw [← eT, ← ht] at a1
              rw [← eU, ← hu] at a2
              rw [← eV, ← hx] at a3
              have hr : ∀ j, w'.cell? ⟨wr.heap.size, j, none⟩ = (wr.alloc (.cells #[.int .i64 ((p : Int) + 1), .int .i64 ((q : Int) + 1), .int .i64 ((s : Int) + 1)] 99)).cell? ⟨wr.heap.size, j, none⟩ := fun j => by
                rw [hk'.cell (by omega) (by omega) (fun e => by have := hGl wr.heap.size e.symm; omega)]
                exact HB2.out.cell (p := ⟨wr.heap.size, j, none⟩) (by show wr.heap.size < _; omega)
              refine ⟨?_, ⟨?_, ?_, ?_⟩, a1, a2, a3⟩
              · rw [hk'.cell (by omega) (by omega) (fun e => by have := hGl _ e.symm; omega)]
                exact (HSB.out w2 HBw.out).1
              · rw [hr]; simp [go_sem]
              · rw [hr]; simp [go_sem]
              · rw [hr]; simp [go_sem]
            have g0 : w2.cell? ⟨(w.heap.size + 1 + 1), 0, none⟩ = some v := (HB2.out.cell (p := ⟨(w.heap.size + 1 + 1), 0, none⟩) (by show (w.heap.size + 1 + 1) < _; omega)).trans (((bl_a _ : Below wr.heap.size wr _).cell (p := ⟨(w.heap.size + 1 + 1), 0, none⟩) (by show (w.heap.size + 1 + 1) < _; omega)).trans HS.out.1)
            have g1 : w2.frozen? ⟨(w.heap.size + 1 + 1), 0, none⟩ = false := (HB2.out.frozen (p := ⟨(w.heap.size + 1 + 1), 0, none⟩) (by show (w.heap.size + 1 + 1) < _; omega)).trans (((bl_a _ : Below wr.heap.size wr _).frozen (p := ⟨(w.heap.size + 1 + 1), 0, none⟩) (by show (w.heap.size + 1 + 1) < _; omega)).trans HS.out.2.1)
            have gA : ∀ o, (w2.alloc o).cell? ⟨(w.heap.size + 1 + 1), 0, none⟩ = some v := fun o => ((bl_a o).cell (p := ⟨(w.heap.size + 1 + 1), 0, none⟩) (by show (w.heap.size + 1 + 1) < _; omega)).trans g0
            have HO2 : Hid (OwnGR w2 (w.heap.size + 1 + 1 + 1) v T U V k) := HO.out.below ((bl_a _).trans (HB2.out.mono (Nat.le_succ _)))
            have HOA : Hid (OwnGR (w2.drew.alloc (.cells #[.int .i64 t.k, .slice t.a t.len t.cap, .int .i64 t.n, .int .i64 t.s, .int .i64 u.k, .slice u.a u.len u.cap, .int .i64 u.n, .int .i64 u.s, .int .i64 x.k, .slice x.a x.len x.cap, .int .i64 x.n, .int .i64 x.s] 110)) (w.heap.size + 1 + 1 + 1) v T U V k) := HO2.out.below (bl_alloc (Below.drew (Below.refl _ _)) _)
            have hszA : (w.heap.size + 1 + 1 + 1) ≤ (w2.drew.alloc (.cells #[.int .i64 t.k, .slice t.a t.len t.cap, .int .i64 t.n, .int .i64 t.s, .int .i64 u.k, .slice u.a u.len u.cap, .int .i64 u.n, .int .i64 u.s, .int .i64 x.k, .slice x.a x.len x.cap, .int .i64 x.n, .int .i64 x.s] 110)).heap.size := by simp; omega
            have HNEW : Hid (∀ j uu, (enc12 T U V k)[j]? = some uu → (w2.drew.alloc (.cells #[.int .i64 t.k, .slice t.a t.len t.cap, .int .i64 t.n, .int .i64 t.s, .int .i64 u.k, .slice u.a u.len u.cap, .int .i64 u.n, .int .i64 u.s, .int .i64 x.k, .slice x.a x.len x.cap, .int .i64 x.n, .int .i64 x.s] 110)).cell? ((⟨w2.heap.size, 0, none⟩ : Addr).add j) = some uu) := by
              intro j uu hj
              have := one_triple w2.drew T U V k j uu hj
              rw [← ht, ← hu, ← hx] at this
              exact this
            have FIN : Hid (∀ g3 cap3 w9, w9.ownsRow (w.heap.size + 1 + 1 + 1) 110 12 (.slice (some ⟨g3, 0, none⟩) (k + 1) cap3) (k + 1) (flat12 T U V k ++ enc12 T U V k) → (w2.drew.alloc (.cells #[.int .i64 t.k, .slice t.a t.len t.cap, .int .i64 t.n, .int .i64 t.s, .int .i64 u.k, .slice u.a u.len u.cap, .int .i64 u.n, .int .i64 u.s, .int .i64 x.k, .slice x.a x.len x.cap, .int .i64 x.n, .int .i64 x.s] 110)).grownBy w9 v.ownBlock → (v.ownBlock = some g3 ∨ g3 = (w2.drew.alloc (.cells #[.int .i64 t.k, .slice t.a t.len t.cap, .int .i64 t.n, .int .i64 t.s, .int .i64 u.k, .slice u.a u.len u.cap, .int .i64 u.n, .int .i64 u.s, .int .i64 x.k, .slice x.a x.len x.cap, .int .i64 x.n, .int .i64 x.s] 110)).heap.size) → g3 < w9.heap.size →
                w9.cell? ⟨(w.heap.size + 1 + 1), 0, none⟩ = some v ∧ w9.frozen? ⟨(w.heap.size + 1 + 1), 0, none⟩ = false ∧ Hid (Hid ((w9.setCell ⟨(w.heap.size + 1 + 1), 0, none⟩ (.slice (some ⟨g3, 0, none⟩) (k + 1) cap3)).cell? ⟨(w.heap.size + 1 + 1), 0, none⟩ = some (.slice (some ⟨g3, 0, none⟩) (k + 1) cap3) ∧ (w9.setCell ⟨(w.heap.size + 1 + 1), 0, none⟩ (.slice (some ⟨g3, 0, none⟩) (k + 1) cap3)).frozen? ⟨(w.heap.size + 1 + 1), 0, none⟩ = false ∧ (w.heap.size + 1 + 1 + 1) ≤ (w9.setCell ⟨(w.heap.size + 1 + 1), 0, none⟩ (.slice (some ⟨g3, 0, none⟩) (k + 1) cap3)).heap.size ∧ ∀ j r, j < k + 1 → l0[j]? = some r → inR nT r) ∧ Hid (OwnGR (w9.setCell ⟨(w.heap.size + 1 + 1), 0, none⟩ (.slice (some ⟨g3, 0, none⟩) (k + 1) cap3)) (w.heap.size + 1 + 1 + 1) (.slice (some ⟨g3, 0, none⟩) (k + 1) cap3) (sT tb l0) (sU tb l0) (sV tb l0) (k + 1)) ∧ Hid (Below (w.heap.size + 1 + 1) (((w.alloc (.cells #[.slice (some ⟨bT, oT, none⟩) nT capT, .slice (some ⟨bR, oR, none⟩) 6 capR] 29)).alloc (.cells #[.slice none 0 0] 34)).alloc (.cells #[.slice none 0 0] 34)) (w9.setCell ⟨(w.heap.size + 1 + 1), 0, none⟩ (.slice (some ⟨g3, 0, none⟩) (k + 1) cap3))))) := by
              intro g3 cap3 w9 hown hgr hat hlt9
              have hk9 : Kept (w.heap.size + 1 + 1) v.ownBlock w2 w9 := ((Kept.drew0 _ _ _).alloc _).grown hgr
              have hA0 : (w2.drew.alloc (.cells #[.int .i64 t.k, .slice t.a t.len t.cap, .int .i64 t.n, .int .i64 t.s, .int .i64 u.k, .slice u.a u.len u.cap, .int .i64 u.n, .int .i64 u.s, .int .i64 x.k, .slice x.a x.len x.cap, .int .i64 x.n, .int .i64 x.s] 110)).cell? ⟨(w.heap.size + 1 + 1), 0, none⟩ = some v := ((bl_alloc (Below.drew (Below.refl _ _)) _ : Below w2.heap.size w2 _).cell (p := ⟨(w.heap.size + 1 + 1), 0, none⟩) (by show (w.heap.size + 1 + 1) < _; omega)).trans g0
              have hA1 : (w2.drew.alloc (.cells #[.int .i64 t.k, .slice t.a t.len t.cap, .int .i64 t.n, .int .i64 t.s, .int .i64 u.k, .slice u.a u.len u.cap, .int .i64 u.n, .int .i64 u.s, .int .i64 x.k, .slice x.a x.len x.cap, .int .i64 x.n, .int .i64 x.s] 110)).frozen? ⟨(w.heap.size + 1 + 1), 0, none⟩ = false := ((bl_alloc (Below.drew (Below.refl _ _)) _ : Below w2.heap.size w2 _).frozen (p := ⟨(w.heap.size + 1 + 1), 0, none⟩) (by show (w.heap.size + 1 + 1) < _; omega)).trans g1
              have z0 : w9.cell? ⟨(w.heap.size + 1 + 1), 0, none⟩ = some v := (hgr.cell_far ⟨(w.heap.size + 1 + 1), 0, none⟩ (by simp; omega) (fun e => by have := hGl (w.heap.size + 1 + 1) e.symm; omega)).trans hA0
              have z1 : w9.frozen? ⟨(w.heap.size + 1 + 1), 0, none⟩ = false := (hgr.frozen_far ⟨(w.heap.size + 1 + 1), 0, none⟩ (by simp; omega) (fun e => by have := hGl (w.heap.size + 1 + 1) e.symm; omega)).trans hA1
              have hbut : But (w.heap.size + 1 + 1) w9 (w9.setCell ⟨(w.heap.size + 1 + 1), 0, none⟩ (.slice (some ⟨g3, 0, none⟩) (k + 1) cap3)) := (But.refl _ _).set _ _
              have hb9 : Below (w.heap.size + 1 + 1) (((w.alloc (.cells #[.slice (some ⟨bT, oT, none⟩) nT capT, .slice (some ⟨bR, oR, none⟩) 6 capR] 29)).alloc (.cells #[.slice none 0 0] 34)).alloc (.cells #[.slice none 0 0] 34)) w9 := (HBw.out.trans ((bl_alloc (Below.drew (Below.refl _ _)) _ : Below w2.heap.size w2 _).mono (by omega))).grown hgr (by simp; omega) (fun j hj => by have := hGl j hj; omega)
              refine ⟨z0, z1, ⟨set_same z0, by rw [World.frozen?_setCell]; exact z1, by rw [hbut.size]; have := hk9.size; omega, fun j r hj hr => ?_⟩, ?_, ?_⟩
              · by_cases e : j = k
                · subst e
                  rw [HY.out] at hr
                  cases hr
                  exact HIN.out
                · exact HS.out.2.2.2 j r (by omega) hr
              · rw [hTT, hUU, hVV] at hown
                exact (ownGR_more hown hlt9).but hbut (by omega)
              · exact hb9.trans (hbut.below (by omega))
            clear eT eU eV ht hu hx hTT hUU hVV er3 hw2 hcT htb hltT
            have hbx := HSB.out wr HB.out
            have hbx1 := HS1.out wr HB.out
            have hbx0 := hbx.1
            have hbx2 := hbx1.1
            have hbx3 := hbx1.2
            clear hbx hbx1
            have n1 : ¬ ((p : Int) + 1 < 1) := by omega
            have n2 : ¬ ((nT : Int) < (p : Int) + 1) := by omega
            have n3 : ¬ ((q : Int) + 1 < 1) := by omega
            have n4 : ¬ ((nT : Int) < (q : Int) + 1) := by omega
            have n5 : ¬ ((s : Int) + 1 < 1) := by omega
            have n6 : ¬ ((nT : Int) < (s : Int) + 1) := by omega
            dsimp only at yc0 yc1 yc2 HW2
            go_wp2_with fail
            rw [← HW2.out]
            refine wp_region_held_drew (S := fun w' => Kept (w.heap.size + 1 + 1) v.ownBlock w2 w') (by kernel_rfl) ?_ (fun hHeld => ?_)
            · exact Kept.drew0 _ _ _
            refine take_at (i := 0) 86 (v := ?v1) rfl rfl (by kernel_rfl) (by kernel_rfl) (by kernel_rfl) (fun _ _ _ h => h) (Or.inl ⟨by rfl, ?y1⟩) hHeld ?r1
            case y1 => (intro w' hSw; skip; go_simp; (try with_reducible rfl))
            try simp only [Act.put, List.setIfInBounds_toArray, List.set_cons_zero, List.set_cons_succ]
            refine take_at (i := 2) 88 (v := ?v2) rfl rfl (by kernel_rfl) (by kernel_rfl) (by kernel_rfl) (fun _ _ _ h => h) (Or.inl ⟨by rfl, ?y2⟩) hHeld ?r2
            case y2 => (intro w' hSw; skip; go_simp; (try with_reducible rfl))
            try simp only [Act.put, List.setIfInBounds_toArray, List.set_cons_zero, List.set_cons_succ]
            refine take_at (i := 3) 89 (v := ?v3) rfl rfl (by kernel_rfl) (by kernel_rfl) (by kernel_rfl) (fun _ _ _ h => h) (Or.inl ⟨by rfl, ?y3⟩) hHeld ?r3
            case y3 => (intro w' hSw; obtain ⟨f0, ⟨r0, r1, r2⟩, ⟨t0, t1, t2, t3⟩, ⟨u0, u1, u2, u3⟩, ⟨x0, x1, x2, x3⟩⟩ := HKK.out w' hSw; go_simp; (try with_reducible rfl))
            try simp only [Act.put, List.setIfInBounds_toArray, List.set_cons_zero, List.set_cons_succ]
            refine take_at (i := 4) 90 (v := ?v4) rfl rfl (by kernel_rfl) (by kernel_rfl) (by kernel_rfl) (fun _ _ _ h => h) (Or.inl ⟨by rfl, ?y4⟩) hHeld ?r4
            case y4 => (intro w' hSw; skip; go_simp; (try with_reducible rfl))
            try simp only [Act.put, List.setIfInBounds_toArray, List.set_cons_zero, List.set_cons_succ]
            refine take_at (i := 5) 91 (v := ?v5) rfl rfl (by kernel_rfl) (by kernel_rfl) (by kernel_rfl) (fun _ _ _ h => h) (Or.inl ⟨by rfl, ?y5⟩) hHeld ?r5
            case y5 => (intro w' hSw; obtain ⟨f0, ⟨r0, r1, r2⟩, ⟨t0, t1, t2, t3⟩, ⟨u0, u1, u2, u3⟩, ⟨x0, x1, x2, x3⟩⟩ := HKK.out w' hSw; go_simp; (try with_reducible rfl))
            try simp only [Act.put, List.setIfInBounds_toArray, List.set_cons_zero, List.set_cons_succ]
            refine take_at (i := 6) 92 (v := ?v6) rfl rfl (by kernel_rfl) (by kernel_rfl) (by kernel_rfl) (fun _ _ _ h => h) (Or.inl ⟨by rfl, ?y6⟩) hHeld ?r6
            case y6 => (intro w' hSw; skip; go_simp; (try with_reducible rfl))
            try simp only [Act.put, List.setIfInBounds_toArray, List.set_cons_zero, List.set_cons_succ]
            refine take_at (i := 7) 93 (v := ?v7) rfl rfl (by kernel_rfl) (by kernel_rfl) (by kernel_rfl) (fun _ _ _ h => h) (Or.inl ⟨by rfl, ?y7⟩) hHeld ?r7
            case y7 => (intro w' hSw; obtain ⟨f0, ⟨r0, r1, r2⟩, ⟨t0, t1, t2, t3⟩, ⟨u0, u1, u2, u3⟩, ⟨x0, x1, x2, x3⟩⟩ := HKK.out w' hSw; go_simp; (try with_reducible rfl))
            try simp only [Act.put, List.setIfInBounds_toArray, List.set_cons_zero, List.set_cons_succ]
            refine take_at (i := 8) 94 (v := ?v8) rfl rfl (by kernel_rfl) (by kernel_rfl) (by kernel_rfl) (fun _ _ _ h => h) (Or.inl ⟨by rfl, ?y8⟩) hHeld ?r8
            case y8 => (intro w' hSw; obtain ⟨f0, ⟨r0, r1, r2⟩, ⟨t0, t1, t2, t3⟩, ⟨u0, u1, u2, u3⟩, ⟨x0, x1, x2, x3⟩⟩ := HKK.out w' hSw; go_simp; (try with_reducible rfl))
            try simp only [Act.put, List.setIfInBounds_toArray, List.set_cons_zero, List.set_cons_succ]
            refine take_at (i := 9) 95 (v := ?v9) rfl rfl (by kernel_rfl) (by kernel_rfl) (by kernel_rfl) (fun _ _ _ h => h) (Or.inl ⟨by rfl, ?y9⟩) hHeld ?r9
            case y9 => (intro w' hSw; skip; go_simp; (try with_reducible rfl))
            try simp only [Act.put, List.setIfInBounds_toArray, List.set_cons_zero, List.set_cons_succ]
            refine take_at (i := 10) 96 (v := ?v10) rfl rfl (by kernel_rfl) (by kernel_rfl) (by kernel_rfl) (fun _ _ _ h => h) (Or.inl ⟨by rfl, ?y10⟩) hHeld ?r10
            case y10 => (intro w' hSw; obtain ⟨f0, ⟨r0, r1, r2⟩, ⟨t0, t1, t2, t3⟩, ⟨u0, u1, u2, u3⟩, ⟨x0, x1, x2, x3⟩⟩ := HKK.out w' hSw; go_simp; (try with_reducible rfl))
            try simp only [Act.put, List.setIfInBounds_toArray, List.set_cons_zero, List.set_cons_succ]
            refine take_at (i := 11) 97 (v := ?v11) rfl rfl (by kernel_rfl) (by kernel_rfl) (by kernel_rfl) (fun _ _ _ h => h) (Or.inl ⟨by rfl, ?y11⟩) hHeld ?r11
            case y11 => (intro w' hSw; skip; go_simp; (try with_reducible rfl))
            try simp only [Act.put, List.setIfInBounds_toArray, List.set_cons_zero, List.set_cons_succ]
            refine take_at (i := 12) 98 (v := ?v12) rfl rfl (by kernel_rfl) (by kernel_rfl) (by kernel_rfl) (fun _ _ _ h => h) (Or.inl ⟨by rfl, ?y12⟩) hHeld ?r12
            case y12 => (intro w' hSw; obtain ⟨f0, ⟨r0, r1, r2⟩, ⟨t0, t1, t2, t3⟩, ⟨u0, u1, u2, u3⟩, ⟨x0, x1, x2, x3⟩⟩ := HKK.out w' hSw; go_simp; (try with_reducible rfl))
            try simp only [Act.put, List.setIfInBounds_toArray, List.set_cons_zero, List.set_cons_succ]
            refine take_at (i := 13) 99 (v := ?v13) rfl rfl (by kernel_rfl) (by kernel_rfl) (by kernel_rfl) (fun _ _ _ h => h) (Or.inl ⟨by rfl, ?y13⟩) hHeld ?r13
            case y13 => (intro w' hSw; skip; go_simp; (try with_reducible rfl))
            try simp only [Act.put, List.setIfInBounds_toArray, List.set_cons_zero, List.set_cons_succ]
            refine take_at (i := 14) 100 (v := ?v14) rfl rfl (by kernel_rfl) (by kernel_rfl) (by kernel_rfl) (fun _ _ _ h => h) (Or.inl ⟨by rfl, ?y14⟩) hHeld ?r14
            case y14 => (intro w' hSw; obtain ⟨f0, ⟨r0, r1, r2⟩, ⟨t0, t1, t2, t3⟩, ⟨u0, u1, u2, u3⟩, ⟨x0, x1, x2, x3⟩⟩ := HKK.out w' hSw; go_simp; (try with_reducible rfl))
            try simp only [Act.put, List.setIfInBounds_toArray, List.set_cons_zero, List.set_cons_succ]
            refine take_at (i := 15) 101 (v := ?v15) rfl rfl (by kernel_rfl) (by kernel_rfl) (by kernel_rfl) (fun _ _ _ h => h) (Or.inl ⟨by rfl, ?y15⟩) hHeld ?r15
            case y15 => (intro w' hSw; obtain ⟨f0, ⟨r0, r1, r2⟩, ⟨t0, t1, t2, t3⟩, ⟨u0, u1, u2, u3⟩, ⟨x0, x1, x2, x3⟩⟩ := HKK.out w' hSw; go_simp; (try with_reducible rfl))
            try simp only [Act.put, List.setIfInBounds_toArray, List.set_cons_zero, List.set_cons_succ]
            refine take_at (i := 16) 102 (v := ?v16) rfl rfl (by kernel_rfl) (by kernel_rfl) (by kernel_rfl) (fun _ _ _ h => h) (Or.inl ⟨by rfl, ?y16⟩) hHeld ?r16
            case y16 => (intro w' hSw; skip; go_simp; (try with_reducible rfl))
            try simp only [Act.put, List.setIfInBounds_toArray, List.set_cons_zero, List.set_cons_succ]
            refine take_at (i := 17) 103 (v := ?v17) rfl rfl (by kernel_rfl) (by kernel_rfl) (by kernel_rfl) (fun _ _ _ h => h) (Or.inl ⟨by rfl, ?y17⟩) hHeld ?r17
            case y17 => (intro w' hSw; obtain ⟨f0, ⟨r0, r1, r2⟩, ⟨t0, t1, t2, t3⟩, ⟨u0, u1, u2, u3⟩, ⟨x0, x1, x2, x3⟩⟩ := HKK.out w' hSw; go_simp; (try with_reducible rfl))
            try simp only [Act.put, List.setIfInBounds_toArray, List.set_cons_zero, List.set_cons_succ]
            refine take_at (i := 18) 104 (v := ?v18) rfl rfl (by kernel_rfl) (by kernel_rfl) (by kernel_rfl) (fun _ _ _ h => h) (Or.inl ⟨by rfl, ?y18⟩) hHeld ?r18
            case y18 => (intro w' hSw; skip; go_simp; (try with_reducible rfl))
            try simp only [Act.put, List.setIfInBounds_toArray, List.set_cons_zero, List.set_cons_succ]
            refine take_at (i := 19) 105 (v := ?v19) rfl rfl (by kernel_rfl) (by kernel_rfl) (by kernel_rfl) (fun _ _ _ h => h) (Or.inl ⟨by rfl, ?y19⟩) hHeld ?r19
            case y19 => (intro w' hSw; obtain ⟨f0, ⟨r0, r1, r2⟩, ⟨t0, t1, t2, t3⟩, ⟨u0, u1, u2, u3⟩, ⟨x0, x1, x2, x3⟩⟩ := HKK.out w' hSw; go_simp; (try with_reducible rfl))
            try simp only [Act.put, List.setIfInBounds_toArray, List.set_cons_zero, List.set_cons_succ]
            refine take_at (i := 20) 106 (v := ?v20) rfl rfl (by kernel_rfl) (by kernel_rfl) (by kernel_rfl) (fun _ _ _ h => h) (Or.inl ⟨by rfl, ?y20⟩) hHeld ?r20
            case y20 => (intro w' hSw; skip; go_simp; (try with_reducible rfl))
            try simp only [Act.put, List.setIfInBounds_toArray, List.set_cons_zero, List.set_cons_succ]
            refine take_at (i := 21) 107 (v := ?v21) rfl rfl (by kernel_rfl) (by kernel_rfl) (by kernel_rfl) (fun _ _ _ h => h) (Or.inl ⟨by rfl, ?y21⟩) hHeld ?r21
            case y21 => (intro w' hSw; obtain ⟨f0, ⟨r0, r1, r2⟩, ⟨t0, t1, t2, t3⟩, ⟨u0, u1, u2, u3⟩, ⟨x0, x1, x2, x3⟩⟩ := HKK.out w' hSw; go_simp; (try with_reducible rfl))
            try simp only [Act.put, List.setIfInBounds_toArray, List.set_cons_zero, List.set_cons_succ]
            refine take_at (i := 22) 108 (v := ?v22) rfl rfl (by kernel_rfl) (by kernel_rfl) (by kernel_rfl) (fun _ _ _ h => h) (Or.inl ⟨by rfl, ?y22⟩) hHeld ?r22
            case y22 => (intro w' hSw; obtain ⟨f0, ⟨r0, r1, r2⟩, ⟨t0, t1, t2, t3⟩, ⟨u0, u1, u2, u3⟩, ⟨x0, x1, x2, x3⟩⟩ := HKK.out w' hSw; go_simp; (try with_reducible rfl))
            try simp only [Act.put, List.setIfInBounds_toArray, List.set_cons_zero, List.set_cons_succ]
            refine take_at (i := 23) 109 (v := ?v23) rfl rfl (by kernel_rfl) (by kernel_rfl) (by kernel_rfl) (fun _ _ _ h => h) (Or.inl ⟨by rfl, ?y23⟩) hHeld ?r23
            case y23 => (intro w' hSw; skip; go_simp; (try with_reducible rfl))
            try simp only [Act.put, List.setIfInBounds_toArray, List.set_cons_zero, List.set_cons_succ]
            refine wpAnyH_ready (rs := [1, 24]) (by kernel_rfl) (by simp) ?_
            refine AllReadyH.cons rfl (fun K hK => ?_) (AllReadyH.cons rfl (fun K hK => ?_) AllReadyH.nil)
            · go_simp
              refine hK.out _ _ ?_ (fun hHeld => ?_)
              · first | exact (Kept.drew0 _ _ _) | exact (Kept.drew0 _ _ _).alloc _
              clear hK K
              try simp only [Act.put, List.setIfInBounds_toArray, List.set_cons_zero, List.set_cons_succ]
              refine wpAnyH_ready (rs := [24]) (by kernel_rfl) (by simp) ?_
              refine AllReadyH.cons rfl (fun K hK => ?_) AllReadyH.nil
              go_simp
              refine hK.out _ _ ?_ (fun hHeld => ?_)
              · exact (Kept.drew0 _ _ _).alloc _
              clear hK K
              try simp only [Act.put, List.setIfInBounds_toArray, List.set_cons_zero, List.set_cons_succ]
              refine wpAnyH_ready (rs := [25]) (by kernel_rfl) (by simp) ?_
              refine AllReadyH.cons rfl (fun K hK => ?_) AllReadyH.nil
              refine step_append_lies _ rfl (.tmp 87) (.tmp 110) 32 rfl (w.heap.size + 1 + 1 + 1) 110 i0 (.agg #[.int .i64 0, .slice none 0 0, .int .i64 0, .int .i64 0, .int .i64 0, .slice none 0 0, .int .i64 0, .int .i64 0, .int .i64 0, .slice none 0 0, .int .i64 0, .int .i64 0]) 12 144 Tryz.underlying32 hi0 hi2 hi1 hi3 rfl (by omega) v k _ rfl HOA.out.1 ⟨w2.heap.size, 0, none⟩ 1 1 (enc12 T U V k) rfl (by rw [enc12_len]) HNEW.out (enc12_one T U V k) (by omega) (by unfold maxLen; omega) (by omega) hszA _ rfl ?_
              intro g3 cap3 w9 hown hgr hat hlt9
              refine hK.out _ _ ?_ (fun hHeld => ?_)
              · exact ((Kept.drew0 _ _ _).alloc _).grown hgr
              clear hK K
              try simp only [Act.put, List.setIfInBounds_toArray]
              refine take_at (i := 26) 112 (v := ?v24) rfl rfl (by kernel_rfl) (by kernel_rfl) (by kernel_rfl) (fun _ _ _ h => h) (Or.inl ⟨by rfl, ?y24⟩) hHeld ?r24
              case y24 => (intro w' hSw; skip; go_simp; (try with_reducible rfl))
              try simp only [Act.put]
              obtain ⟨z0, z1, HFIN⟩ := FIN.out g3 cap3 w9 hown hgr hat hlt9
              refine wpAnyH_ready (rs := [27]) (by kernel_rfl) (by simp) ?_
              refine AllReadyH.cons rfl (fun K hK => ?_) AllReadyH.nil
              go_simp
              refine hK.out _ _ ?_ (fun hHeld => ?_)
              · exact (((Kept.drew0 _ _ _).alloc _).grown hgr).set _ _
              clear hK K
              refine wpAnyH_done (by kernel_rfl) ?_ _
              clear hown hgr hat hHeld z0 z1
              go_wp2
              go_roundw
              case rel => exact ⟨k + 1, .slice (some ⟨g3, 0, none⟩) (k + 1) cap3, by omega, by go_num, HFIN.out.1, HFIN.out.2.1, HFIN.out.2.2⟩
              case measure => simp [intOf]; omega
            · go_simp
              refine hK.out _ _ ?_ (fun hHeld => ?_)
              · exact (Kept.drew0 _ _ _).alloc _
              clear hK K
              try simp only [Act.put, List.setIfInBounds_toArray, List.set_cons_zero, List.set_cons_succ]
              refine wpAnyH_ready (rs := [1]) (by kernel_rfl) (by simp) ?_
              refine AllReadyH.cons rfl (fun K hK => ?_) AllReadyH.nil
              go_simp
              refine hK.out _ _ ?_ (fun hHeld => ?_)
              · first | exact (Kept.drew0 _ _ _) | exact (Kept.drew0 _ _ _).alloc _
              clear hK K
              try simp only [Act.put, List.setIfInBounds_toArray, List.set_cons_zero, List.set_cons_succ]
              refine wpAnyH_ready (rs := [25]) (by kernel_rfl) (by simp) ?_
              refine AllReadyH.cons rfl (fun K hK => ?_) AllReadyH.nil
              refine step_append_lies _ rfl (.tmp 87) (.tmp 110) 32 rfl (w.heap.size + 1 + 1 + 1) 110 i0 (.agg #[.int .i64 0, .slice none 0 0, .int .i64 0, .int .i64 0, .int .i64 0, .slice none 0 0, .int .i64 0, .int .i64 0, .int .i64 0, .slice none 0 0, .int .i64 0, .int .i64 0]) 12 144 Tryz.underlying32 hi0 hi2 hi1 hi3 rfl (by omega) v k _ rfl HOA.out.1 ⟨w2.heap.size, 0, none⟩ 1 1 (enc12 T U V k) rfl (by rw [enc12_len]) HNEW.out (enc12_one T U V k) (by omega) (by unfold maxLen; omega) (by omega) hszA _ rfl ?_
              intro g3 cap3 w9 hown hgr hat hlt9
              refine hK.out _ _ ?_ (fun hHeld => ?_)
              · exact ((Kept.drew0 _ _ _).alloc _).grown hgr
              clear hK K
              try simp only [Act.put, List.setIfInBounds_toArray]
              refine take_at (i := 26) 112 (v := ?v25) rfl rfl (by kernel_rfl) (by kernel_rfl) (by kernel_rfl) (fun _ _ _ h => h) (Or.inl ⟨by rfl, ?y25⟩) hHeld ?r25
              case y25 => (intro w' hSw; skip; go_simp; (try with_reducible rfl))
              try simp only [Act.put]
              obtain ⟨z0, z1, HFIN⟩ := FIN.out g3 cap3 w9 hown hgr hat hlt9
              refine wpAnyH_ready (rs := [27]) (by kernel_rfl) (by simp) ?_
              refine AllReadyH.cons rfl (fun K hK => ?_) AllReadyH.nil
              go_simp
              refine hK.out _ _ ?_ (fun hHeld => ?_)
              · exact (((Kept.drew0 _ _ _).alloc _).grown hgr).set _ _
              clear hK K
              refine wpAnyH_done (by kernel_rfl) ?_ _
              clear hown hgr hat hHeld z0 z1
              go_wp2
              go_roundw
              case rel => exact ⟨k + 1, .slice (some ⟨g3, 0, none⟩) (k + 1) cap3, by omega, by go_num, HFIN.out.1, HFIN.out.2.1, HFIN.out.2.2⟩
              case measure => simp [intOf]; omega
        · obtain rfl : n = k := by omega
          obtain ⟨s0, s1, s2, s3⟩ := HS.out
          obtain ⟨wo, hwo⟩ : ∃ wo, wo = wr := ⟨_, rfl⟩
          obtain ⟨av, cv, rfl, hrows⟩ := HO.out.form
          have HRW : Hid (Rows wr av n (sT tb l0) (sU tb l0) (sV tb l0)) := hrows
          have HAI : Hid (∀ r ∈ l0, inR tb.length r) := by
            intro r hr
            obtain ⟨j, hj, rfl⟩ := List.mem_iff_getElem.1 hr
            rw [← HNT.out]
            exact s3 j _ (by rw [HN0.out]; exact hj) (List.getElem?_eq_getElem hj)
          have hs4 : (w.heap.size + 1 + 1 + 1) ≤ wo.heap.size := by rw [hwo]; exact s2
          have HGC : Hid (∀ w', Kept (w.heap.size + 1) none wo w' → w'.cell? ⟨(w.heap.size + 1 + 1), 0, none⟩ = some (.slice av n cv)) := by
            intro w' hk'
            rw [hk'.cell (by omega) (by omega) (by simp), hwo]
            exact s0
          have HGK : Hid (∀ W, Below wo.heap.size wo W → Calls Tryz.prog 34 #[.agg #[.slice av n cv]] W fun e w' => e = .returned (.bool (sOk tb l0)) ∧ Below W.heap.size W w') := by
            intro W hW
            rw [hwo] at hW
            exact HGK0.out W av cv ((HW.out wr HB.out).trans (hW.mono (HW.out wr HB.out).size)) (hrows.below hW) HAI.out
          have HRB : Hid (∀ W, Below wo.heap.size wo W → W.cell? ⟨w.heap.size + 1, 0, none⟩ = some (.slice none 0 0) ∧ W.frozen? ⟨w.heap.size + 1, 0, none⟩ = false) := by
            intro W hW
            rw [hwo] at hW
            exact (HSB.out W (HB.out.trans (hW.mono (by omega)))).2
          obtain ⟨hbx0, _⟩ := HSB.out wr HB.out
          obtain ⟨hbx2, hbx3⟩ := HS1.out wr HB.out
          obtain ⟨sq, hsq⟩ : ∃ sq, sq = sOk tb l0 := ⟨_, rfl⟩
          have HSQ : Hid (sq = sOk tb l0) := hsq
          rw [← hsq] at HGK
          have HWO : Hid (wo = wr) := hwo
          clear hrows s0 s1 s3 hsq hwo
          go_wp2_with fail
          rw [← HWO.out]
          refine wp_region_held_drew (S := fun w' => Kept (w.heap.size + 1) none wo w') (by kernel_rfl) ?_ (fun hHeld => ?_)
          · exact Kept.drew0 _ _ _
          refine take_at (i := 0) 113 (v := ?v26) rfl rfl (by kernel_rfl) (by kernel_rfl) (by kernel_rfl) (fun _ _ _ h => h) (Or.inl ⟨by rfl, ?y26⟩) hHeld ?r26
          case y26 => (intro w' hSw; have hg9 := HGC.out w' hSw; go_simp; (try with_reducible rfl))
          try simp only [Act.put, List.setIfInBounds_toArray, List.set_cons_zero, List.set_cons_succ]
          refine take_at (i := 1) 114 (v := ?v27) rfl rfl (by kernel_rfl) (by kernel_rfl) (by kernel_rfl) (fun _ _ _ h => h) (Or.inl ⟨by rfl, ?y27⟩) hHeld ?r27
          case y27 => (intro w' hSw; have hg9 := HGC.out w' hSw; go_simp; (try with_reducible rfl))
          try simp only [Act.put, List.setIfInBounds_toArray, List.set_cons_zero, List.set_cons_succ]
          refine wpAnyH_ready (rs := [2]) (by kernel_rfl) (by simp) ?_
          refine AllReadyH.cons rfl (fun K hK => ?_) AllReadyH.nil
          go_simp
          refine (HGK.out _ (Below.drew (Below.refl _ _))).mono ?_
          rintro e w9 ⟨rfl, hb9⟩
          have HB9 : Hid (Below wo.heap.size wo w9) := (Below.drew (Below.refl _ _)).trans hb9
          obtain ⟨e1, e2⟩ := HRB.out w9 HB9.out
          go_wp2_with fail
          refine hK.out _ _ ?_ (fun hHeld => ?_)
          · exact (Kept.refl _ _ _).below HB9.out
          clear hK K hb9
          try simp only [Act.put, List.setIfInBounds_toArray, List.set_cons_zero, List.set_cons_succ]
          refine wpAnyH_ready (rs := [3]) (by kernel_rfl) (by simp) ?_
          refine AllReadyH.cons rfl (fun K hK => ?_) AllReadyH.nil
          go_simp
          refine hK.out _ _ ?_ (fun hHeld => ?_)
          · exact ((Kept.refl _ _ _).below HB9.out).set _ _
          clear hK K
          try simp only [Act.put, List.setIfInBounds_toArray, List.set_cons_zero, List.set_cons_succ]
          refine take_at (i := 4) 3 (v := ?v28) rfl rfl (by kernel_rfl) (by kernel_rfl) (by kernel_rfl) (fun _ _ _ h => h) (Or.inl ⟨by rfl, ?y28⟩) hHeld ?r28
          case y28 => (intro w' hSw; skip; go_simp; (try with_reducible rfl))
          try simp only [Act.put, List.setIfInBounds_toArray, List.set_cons_zero, List.set_cons_succ]
          refine wpAnyH_done (by kernel_rfl) ?_ _
          go_wp2
          refine bodyPost_ret (v := .tuple #[.agg #[.slice av n cv], .bool sq]) (by simp [results, Tryz.results65, go_sem, *]) rfl ⟨av, n, cv, sq, rfl, fun h => ⟨HN0.out, ?_⟩, ⟨fun h => ⟨trivial, HAL.out, HAI.out, by rw [← HSQ.out]; exact h⟩, fun h => by rw [HSQ.out]; exact h.2.2.2⟩, ?_⟩
          · have hbr : Below wr.heap.size wr w9 := by
              have := HB9.out
              rw [HWO.out] at this
              exact this
            rcases HRW.out.below hbr with h | ⟨b9, off9, ha9, hl9, hc9⟩
            · exact .inl h
            · refine .inr ⟨b9, off9, ha9, by simpa [World.setCell] using hl9, fun i hi => (hc9 i hi).of_block (Below.heap_setCell _ _ _ _ ?_)⟩
              subst ha9
              have gB : (w.heap.size + 1 + 1 + 1) ≤ b9 := by
                rcases HO.out.1.2 with ⟨h, _⟩ | ⟨g', cc, cur, hv, _⟩
                · cases h
                · cases hv
                  exact (HO.out.2 _ rfl).1
              show b9 ≠ w.heap.size + 1
              omega
          · have hbr : Below wr.heap.size wr w9 := by
              have := HB9.out
              rw [HWO.out] at this
              exact this
            exact bl_set ((HW.out wr HB.out).trans (hbr.mono (HW.out wr HB.out).size)) (by first | (dsimp only; omega) | omega) _
end Go.Proofs.YtdcaicoomldmgaaGreatDoor
