/- Texts put together: StqF -/
import Derived.Test.YtobnpfcgcoooeaaGreatDoorMk12
import Derived.Test.YtobnpfcgcoooeaaGreatDoorMk03
/- StqF -/
namespace Go.Proofs.YtobnpfcgcoooeaaGreatDoor
open Go.RowKit Go.Deep
set_option maxRecDepth 100000

theorem tbAt_in {tb : List TB} {p : Nat} (hp : p < tb.length) : tbAt tb ((p : Int) + 1) = tb[p] := by
  unfold tbAt
  rw [show ((p : Int) + 1 - 1).toNat = p by omega, List.getElem?_eq_getElem hp]
  rfl
set_option maxHeartbeats 4000000 in
theorem graphOf_not6 (aT aR : Option Addr) (nT capT nR capR : Nat) (w : World) (h6 : nR ≠ 6) :
    Calls Tryz.prog 21 #[.agg #[.slice aT nT capT, .slice aR nR capR]] w fun e w' => e = .returned (.tuple #[.agg #[.slice none 0 0], .bool false]) ∧ Below w.heap.size w w' := by
  have h6' : ((nR : Int) == 6) = false := by simp; omega
  go_enter Tryz.func21, Tryz.ntmps21
  go_wp2
  refine bodyPost_ret (v := .tuple #[.agg #[.slice none 0 0], .bool false]) (by simp [results, Tryz.results21, go_sem, *]) rfl ⟨rfl, ?_⟩
  exact bl_alloc (bl_a _) _

set_option maxHeartbeats 8000000 in
theorem graphOf_six (aT aR : Option Addr) (capT capR : Nat) (tb : List TB) (l0 : List (Int × Int × Int)) (a0 : Option Addr) (c0 : Nat) (w : World) (nT n : Nat) (hnT : nT = tb.length) (hn0 : n = l0.length) (hnT' : nT ≤ 1048576) (hn : n ≤ 1048576) (hT : TRow w aT tb) (hR : RRow w a0 l0) (bR oR : Nat) (haR : aR = some ⟨bR, oR, none⟩) (hbR : bR < w.heap.size) (hcR : w.cell? ⟨bR, oR, none⟩ = some (.slice a0 n c0)) :
    Calls Tryz.prog 21 #[.agg #[.slice aT nT capT, .slice aR 6 capR]] w fun e w' =>
      (∃ a cap, e = .returned (.tuple #[.agg #[.slice a n cap], .bool true]) ∧ (∀ r ∈ l0, inR tb.length r) ∧ Rows w' a n (sT tb l0) (sU tb l0) (sV tb l0) ∧ Below w.heap.size w w') ∨
      (e = .returned (.tuple #[.agg #[.slice none 0 0], .bool false]) ∧ (¬ ∀ r ∈ l0, inR tb.length r) ∧ Below w.heap.size w w') := by
  subst haR
  obtain ⟨i0, hi0, hzz⟩ := Option.map_eq_some_iff.1 Tryz.info41
  simp only [Prod.mk.injEq] at hzz
  obtain ⟨hi2, hi1, hi3⟩ := hzz
  have HNT : Hid (nT = tb.length) := hnT
  have HN0 : Hid (n = l0.length) := hn0
  have HT : Hid (TRow w aT tb) := hT
  have HR : Hid (RRow w a0 l0) := hR
  have HI : Hid (∀ r a c w, Calls Tryz.prog 48 #[.agg #[.int .i64 r.1, .int .i64 r.2.1, .int .i64 r.2.2], .slice a nT c] w fun e w' => e = .returned (.bool (inRb nT r)) ∧ Below w.heap.size w w') := fun r a c w => isOver_any r a nT c w
  have HW : Hid (∀ wr, Below (w.heap.size + 1 + 1) (((w.alloc (.cells #[.slice aT nT capT, .slice (some ⟨bR, oR, none⟩) 6 capR] 30)).alloc (.cells #[.slice none 0 0] 25)).alloc (.cells #[.slice none 0 0] 25)) wr → Below w.heap.size w wr) := fun wr h => (bl_alloc (bl_alloc (bl_a (w := w) _) _) _).trans (h.mono (by omega))
  have HSB : Hid (∀ wr, Below (w.heap.size + 1 + 1) (((w.alloc (.cells #[.slice aT nT capT, .slice (some ⟨bR, oR, none⟩) 6 capR] 30)).alloc (.cells #[.slice none 0 0] 25)).alloc (.cells #[.slice none 0 0] 25)) wr → wr.cell? ⟨w.heap.size, 0, none⟩ = some (.slice aT nT capT) ∧ wr.cell? ⟨w.heap.size + 1, 0, none⟩ = some (.slice none 0 0) ∧ wr.frozen? ⟨w.heap.size + 1, 0, none⟩ = false) := fun wr h => ⟨(h.cell (p := ⟨w.heap.size, 0, none⟩) (by show w.heap.size < _; omega)).trans (by simp [go_sem]), (h.cell (p := ⟨w.heap.size + 1, 0, none⟩) (by show w.heap.size + 1 < _; omega)).trans (by simp [go_sem]), (h.frozen (p := ⟨w.heap.size + 1, 0, none⟩) (by show w.heap.size + 1 < _; omega)).trans (by simp [go_sem])⟩
  have hcR3 : (((w.alloc (.cells #[.slice aT nT capT, .slice (some ⟨bR, oR, none⟩) 6 capR] 30)).alloc (.cells #[.slice none 0 0] 25)).alloc (.cells #[.slice none 0 0] 25)).cell? ⟨bR, oR, none⟩ = some (.slice a0 n c0) := ((bl_alloc (bl_alloc (bl_a (w := w) _) _) _).cell (p := ⟨bR, oR, none⟩) hbR).trans hcR
  clear hnT hn0 hT hR hcR
  by_cases hz : n = 0
  · have hl0 : l0 = [] := List.eq_nil_of_length_eq_zero (by rw [← HN0.out]; exact hz)
    subst hz
    clear HNT HN0 HI HW HSB HR HT
    go_enter Tryz.func21, Tryz.ntmps21
    go_wp2
    refine wp_loop_rounds 1 ?_
    rw [rounds_succ]
    go_wp2
    refine bodyPost_ret (v := .tuple #[.agg #[.slice none 0 0], .bool true]) (by simp [results, Tryz.results21, go_sem, *]) rfl (.inl ⟨none, 0, rfl, ?_, .inl rfl, ?_⟩)
    · rw [hl0]; intro r hr; cases hr
    · exact bl_alloc (bl_alloc (bl_a _) _) _
  · obtain ⟨b, off, rfl, hlt, hc⟩ : ∃ b off, a0 = some ⟨b, off, none⟩ ∧ b < w.heap.size ∧ ∀ j u, (flat3 l0)[j]? = some u → w.cell? ⟨b, off + j, none⟩ = some u := by
      rcases HR.out with ⟨_, h⟩ | h
      · exfalso
        have := HN0.out
        rw [h] at this
        exact hz (by simpa using this)
      · exact h
    have HC : Hid (∀ j u, (flat3 l0)[j]? = some u → w.cell? ⟨b, off + j, none⟩ = some u) := hc
    clear hc hz HR
    go_enter Tryz.func21, Tryz.ntmps21
    go_wp2
    go_loopw [17] (fun i wr => ∃ (k : Nat) (v : Value), k ≤ n ∧ i = .int .i64 k ∧ Hid (wr.cell? ⟨(w.heap.size + 1 + 1), 0, none⟩ = some v ∧ wr.frozen? ⟨(w.heap.size + 1 + 1), 0, none⟩ = false ∧ (w.heap.size + 1 + 1 + 1) ≤ wr.heap.size ∧ ∀ j r, j < k → l0[j]? = some r → inR nT r) ∧ Hid (OwnGR wr (w.heap.size + 1 + 1 + 1) v (sT tb l0) (sU tb l0) (sV tb l0) k) ∧ Hid (Below (w.heap.size + 1 + 1) (((w.alloc (.cells #[.slice aT nT capT, .slice (some ⟨bR, oR, none⟩) 6 capR] 30)).alloc (.cells #[.slice none 0 0] 25)).alloc (.cells #[.slice none 0 0] 25)) wr))
      (fun i _ => n - (intOf i).toNat)
    case atStart => exact ⟨0, .slice none 0 0, Nat.zero_le _, rfl, ⟨by simp [go_sem], by simp [go_sem], by simp, fun j r hj => by omega⟩, OwnGR.nil _ _ _ _ _, Below.refl _ _⟩
    case round =>
      obtain ⟨k, v, hk, rfl, HS, HO, HB⟩ := hrel
      by_cases hlk : k < n
      · have hkl : k < l0.length := by rw [← HN0.out]; exact hlk
        obtain ⟨y, hy⟩ : ∃ y, l0[k]? = some y := ⟨_, List.getElem?_eq_getElem hkl⟩
        have HY : Hid (l0[k]? = some y) := hy
        have hwr := HW.out wr HB.out
        obtain ⟨y0, y1, y2⟩ := RRow.at (l := l0) (b := b) (off := off) (w := wr) (fun j u hu => (hwr.cell (p := ⟨b, off + j, none⟩) hlt).trans (HC.out j u hu)) k y hy
        have hs4 : (w.heap.size + 1 + 1 + 1) ≤ wr.heap.size := HS.out.2.2.1
        have hbox := fun o => (HSB.out (wr.alloc o) (HB.out.trans ((bl_a o).mono (by omega)))).1
        clear hy hwr
        go_wp2_with fail
        refine (HI.out y _ _ _).mono ?_
        rintro e w2 ⟨rfl, hb2⟩
        have HB2 : Hid (Below (wr.heap.size + 1) (wr.alloc (.cells #[.int .i64 y.1, .int .i64 y.2.1, .int .i64 y.2.2] 45)) w2) := (show Below _ _ _ by simpa using hb2)
        have HBw : Hid (Below (w.heap.size + 1 + 1) (((w.alloc (.cells #[.slice aT nT capT, .slice (some ⟨bR, oR, none⟩) 6 capR] 30)).alloc (.cells #[.slice none 0 0] 25)).alloc (.cells #[.slice none 0 0] 25)) w2) := HB.out.trans (((bl_a _).trans (HB2.out.mono (Nat.le_succ _))).mono (by omega))
        have hsz2 : wr.heap.size + 1 ≤ w2.heap.size := by have := HB2.out.size; simpa using this
        clear hb2 y0 y1 y2 hbox
        by_cases hin : inR nT y
        rotate_left
        · have hd : inRb nT y = false := inRb_not hin
          obtain ⟨_, e1, e2⟩ := HSB.out w2 HBw.out
          have HNI : Hid (¬ inR nT y) := hin
          clear hin
          go_wp2
          refine bodyPost_ret (v := .tuple #[.agg #[.slice none 0 0], .bool false]) (by simp [results, Tryz.results21, go_sem, *]) rfl (.inr ⟨rfl, ?_, ?_⟩)
          · intro h
            refine HNI.out ?_
            rw [HNT.out]
            exact h y (List.mem_of_getElem? HY.out)
          · exact bl_set (HW.out w2 HBw.out) (by first | (dsimp only; omega) | omega) _
        · have hd : inRb nT y = true := inRb_iff.2 hin
          obtain ⟨⟨p1, p2⟩, ⟨q1, q2⟩, ⟨s1, s2⟩⟩ := id hin
          have HIN : Hid (inR nT y) := hin
          obtain ⟨y1, y2, y3⟩ := y
          dsimp only at p1 p2 q1 q2 s1 s2
          obtain ⟨p, rfl⟩ : ∃ p : Nat, y1 = (p : Int) + 1 := ⟨(y1 - 1).toNat, by omega⟩
          obtain ⟨q, rfl⟩ : ∃ q : Nat, y2 = (q : Int) + 1 := ⟨(y2 - 1).toNat, by omega⟩
          obtain ⟨s, rfl⟩ : ∃ s : Nat, y3 = (s : Int) + 1 := ⟨(y3 - 1).toNat, by omega⟩
          have hp : p < nT := by omega
          have hq : q < nT := by omega
          have hs : s < nT := by omega
          have wp : IntKind.i64.wrap (p : Int) = (p : Int) := IntWalk.i64_in _ (by omega)
          have wq : IntKind.i64.wrap (q : Int) = (q : Int) := IntWalk.i64_in _ (by omega)
          have ws : IntKind.i64.wrap (s : Int) = (s : Int) := IntWalk.i64_in _ (by omega)
          have htb : tb ≠ [] := by
            intro h
            have := HNT.out
            rw [h] at this
            simp at this
            omega
          obtain ⟨bT, oT, rfl, hltT, hcT⟩ := HT.out.resolve_left htb
          obtain ⟨T, hTT⟩ : ∃ T, T = sT tb l0 := ⟨_, rfl⟩
          obtain ⟨U, hUU⟩ : ∃ U, U = sU tb l0 := ⟨_, rfl⟩
          obtain ⟨V, hVV⟩ : ∃ V, V = sV tb l0 := ⟨_, rfl⟩
          rw [← hTT, ← hUU, ← hVV] at HO
          have hlp : p < tb.length := by rw [← HNT.out]; exact hp
          have hlq : q < tb.length := by rw [← HNT.out]; exact hq
          have hls : s < tb.length := by rw [← HNT.out]; exact hs
          have er3 : r3At l0 k = ((p : Int) + 1, (q : Int) + 1, (s : Int) + 1) := by unfold r3At; rw [HY.out]; rfl
          have eT : T k = tb[p].t := by rw [hTT]; unfold sT; rw [er3]; exact congrArg TB.t (tbAt_in hlp)
          have eU : U k = tb[q].t := by rw [hUU]; unfold sU; rw [er3]; exact congrArg TB.t (tbAt_in hlq)
          have eV : V k = tb[s].t := by rw [hVV]; unfold sV; rw [er3]; exact congrArg TB.t (tbAt_in hls)
          obtain ⟨t, ht⟩ : ∃ t, t = T k := ⟨_, rfl⟩
          obtain ⟨u, hu⟩ : ∃ u, u = U k := ⟨_, rfl⟩
          obtain ⟨x, hx⟩ : ∃ x, x = V k := ⟨_, rfl⟩
          have hw2 := HW.out w2 HBw.out
          have hGl : ∀ g, v.ownBlock = some g → (w.heap.size + 1 + 1 + 1) ≤ g ∧ g < wr.heap.size := fun g hg => HO.out.2 g hg
          have HKK : Hid (∀ w', Kept (w.heap.size + 1 + 1) v.ownBlock w2 w' → w'.cell? ⟨w.heap.size, 0, none⟩ = some (.slice (some ⟨bT, oT, none⟩) nT capT) ∧ (w'.cell? ⟨wr.heap.size, 0, none⟩ = some (.int .i64 ((p : Int) + 1)) ∧ w'.cell? ⟨wr.heap.size, 1, none⟩ = some (.int .i64 ((q : Int) + 1)) ∧ w'.cell? ⟨wr.heap.size, 2, none⟩ = some (.int .i64 ((s : Int) + 1))) ∧ (w'.cell? ⟨bT, oT + p * 4, none⟩ = some (.int .i64 t.k) ∧ w'.cell? ⟨bT, oT + p * 4 + 1, none⟩ = some (.slice t.a t.len t.cap) ∧ w'.cell? ⟨bT, oT + p * 4 + 2, none⟩ = some (.int .i64 t.n) ∧ w'.cell? ⟨bT, oT + p * 4 + 3, none⟩ = some (.int .i64 t.s)) ∧ (w'.cell? ⟨bT, oT + q * 4, none⟩ = some (.int .i64 u.k) ∧ w'.cell? ⟨bT, oT + q * 4 + 1, none⟩ = some (.slice u.a u.len u.cap) ∧ w'.cell? ⟨bT, oT + q * 4 + 2, none⟩ = some (.int .i64 u.n) ∧ w'.cell? ⟨bT, oT + q * 4 + 3, none⟩ = some (.int .i64 u.s)) ∧ (w'.cell? ⟨bT, oT + s * 4, none⟩ = some (.int .i64 x.k) ∧ w'.cell? ⟨bT, oT + s * 4 + 1, none⟩ = some (.slice x.a x.len x.cap) ∧ w'.cell? ⟨bT, oT + s * 4 + 2, none⟩ = some (.int .i64 x.n) ∧ w'.cell? ⟨bT, oT + s * 4 + 3, none⟩ = some (.int .i64 x.s))) := by
            intro w' hk'
            have hTc : ∀ j uu, (flat4 tb)[j]? = some uu → w'.cell? ⟨bT, oT + j, none⟩ = some uu := fun j uu hj => by
              rw [hk'.cell (Nat.lt_of_lt_of_le hltT hw2.size) (by omega) (fun e => by have := hGl bT e.symm; omega)]
              exact (hw2.cell (p := ⟨bT, oT + j, none⟩) hltT).trans (hcT j uu hj)
            have a1 := TRow.at hTc p hlp
            have a2 := TRow.at hTc q hlq
            have a3 := TRow.at hTc s hls
            rw [← eT, ← ht] at a1
            rw [← eU, ← hu] at a2
            rw [← eV, ← hx] at a3
            have hr : ∀ j, w'.cell? ⟨wr.heap.size, j, none⟩ = (wr.alloc (.cells #[.int .i64 ((p : Int) + 1), .int .i64 ((q : Int) + 1), .int .i64 ((s : Int) + 1)] 45)).cell? ⟨wr.heap.size, j, none⟩ := fun j => by
              rw [hk'.cell (by omega) (by omega) (fun e => by have := hGl wr.heap.size e.symm; omega)]
              exact HB2.out.cell (p := ⟨wr.heap.size, j, none⟩) (by show wr.heap.size < _; omega)
            refine ⟨?_, ⟨?_, ?_, ?_⟩, a1, a2, a3⟩
            · rw [hk'.cell (by omega) (by omega) (fun e => by have := hGl _ e.symm; omega)]
              exact (HSB.out w2 HBw.out).1
            · rw [hr]; simp [go_sem]
            · rw [hr]; simp [go_sem]
            · rw [hr]; simp [go_sem]
          have g0 : w2.cell? ⟨(w.heap.size + 1 + 1), 0, none⟩ = some v := (HB2.out.cell (p := ⟨(w.heap.size + 1 + 1), 0, none⟩) (by show (w.heap.size + 1 + 1) < _; omega)).trans (((bl_a _ : Below wr.heap.size wr _).cell (p := ⟨(w.heap.size + 1 + 1), 0, none⟩) (by show (w.heap.size + 1 + 1) < _; omega)).trans HS.out.1)
          have g1 : w2.frozen? ⟨(w.heap.size + 1 + 1), 0, none⟩ = false := (HB2.out.frozen (p := ⟨(w.heap.size + 1 + 1), 0, none⟩) (by show (w.heap.size + 1 + 1) < _; omega)).trans (((bl_a _ : Below wr.heap.size wr _).frozen (p := ⟨(w.heap.size + 1 + 1), 0, none⟩) (by show (w.heap.size + 1 + 1) < _; omega)).trans HS.out.2.1)
          have gA : ∀ o, (w2.alloc o).cell? ⟨(w.heap.size + 1 + 1), 0, none⟩ = some v := fun o => ((bl_a o).cell (p := ⟨(w.heap.size + 1 + 1), 0, none⟩) (by show (w.heap.size + 1 + 1) < _; omega)).trans g0
          have HO2 : Hid (OwnGR w2 (w.heap.size + 1 + 1 + 1) v T U V k) := HO.out.below ((bl_a _).trans (HB2.out.mono (Nat.le_succ _)))
          have HOA : Hid (OwnGR (w2.drew.alloc (.cells #[.int .i64 t.k, .slice t.a t.len t.cap, .int .i64 t.n, .int .i64 t.s, .int .i64 u.k, .slice u.a u.len u.cap, .int .i64 u.n, .int .i64 u.s, .int .i64 x.k, .slice x.a x.len x.cap, .int .i64 x.n, .int .i64 x.s] 41)) (w.heap.size + 1 + 1 + 1) v T U V k) := HO2.out.below (bl_alloc (Below.drew (Below.refl _ _)) _)
          have hszA : (w.heap.size + 1 + 1 + 1) ≤ (w2.drew.alloc (.cells #[.int .i64 t.k, .slice t.a t.len t.cap, .int .i64 t.n, .int .i64 t.s, .int .i64 u.k, .slice u.a u.len u.cap, .int .i64 u.n, .int .i64 u.s, .int .i64 x.k, .slice x.a x.len x.cap, .int .i64 x.n, .int .i64 x.s] 41)).heap.size := by simp; omega
          have HNEW : Hid (∀ j uu, (enc12 T U V k)[j]? = some uu → (w2.drew.alloc (.cells #[.int .i64 t.k, .slice t.a t.len t.cap, .int .i64 t.n, .int .i64 t.s, .int .i64 u.k, .slice u.a u.len u.cap, .int .i64 u.n, .int .i64 u.s, .int .i64 x.k, .slice x.a x.len x.cap, .int .i64 x.n, .int .i64 x.s] 41)).cell? ((⟨w2.heap.size, 0, none⟩ : Addr).add j) = some uu) := by
            intro j uu hj
            have := one_triple w2.drew T U V k j uu hj
            rw [← ht, ← hu, ← hx] at this
            exact this
          have FIN : Hid (∀ g3 cap3 w9, w9.ownsRow (w.heap.size + 1 + 1 + 1) 41 12 (.slice (some ⟨g3, 0, none⟩) (k + 1) cap3) (k + 1) (flat12 T U V k ++ enc12 T U V k) → (w2.drew.alloc (.cells #[.int .i64 t.k, .slice t.a t.len t.cap, .int .i64 t.n, .int .i64 t.s, .int .i64 u.k, .slice u.a u.len u.cap, .int .i64 u.n, .int .i64 u.s, .int .i64 x.k, .slice x.a x.len x.cap, .int .i64 x.n, .int .i64 x.s] 41)).grownBy w9 v.ownBlock → (v.ownBlock = some g3 ∨ g3 = (w2.drew.alloc (.cells #[.int .i64 t.k, .slice t.a t.len t.cap, .int .i64 t.n, .int .i64 t.s, .int .i64 u.k, .slice u.a u.len u.cap, .int .i64 u.n, .int .i64 u.s, .int .i64 x.k, .slice x.a x.len x.cap, .int .i64 x.n, .int .i64 x.s] 41)).heap.size) → g3 < w9.heap.size →
              w9.cell? ⟨(w.heap.size + 1 + 1), 0, none⟩ = some v ∧ w9.frozen? ⟨(w.heap.size + 1 + 1), 0, none⟩ = false ∧ Hid (Hid ((w9.setCell ⟨(w.heap.size + 1 + 1), 0, none⟩ (.slice (some ⟨g3, 0, none⟩) (k + 1) cap3)).cell? ⟨(w.heap.size + 1 + 1), 0, none⟩ = some (.slice (some ⟨g3, 0, none⟩) (k + 1) cap3) ∧ (w9.setCell ⟨(w.heap.size + 1 + 1), 0, none⟩ (.slice (some ⟨g3, 0, none⟩) (k + 1) cap3)).frozen? ⟨(w.heap.size + 1 + 1), 0, none⟩ = false ∧ (w.heap.size + 1 + 1 + 1) ≤ (w9.setCell ⟨(w.heap.size + 1 + 1), 0, none⟩ (.slice (some ⟨g3, 0, none⟩) (k + 1) cap3)).heap.size ∧ ∀ j r, j < k + 1 → l0[j]? = some r → inR nT r) ∧ Hid (OwnGR (w9.setCell ⟨(w.heap.size + 1 + 1), 0, none⟩ (.slice (some ⟨g3, 0, none⟩) (k + 1) cap3)) (w.heap.size + 1 + 1 + 1) (.slice (some ⟨g3, 0, none⟩) (k + 1) cap3) (sT tb l0) (sU tb l0) (sV tb l0) (k + 1)) ∧ Hid (Below (w.heap.size + 1 + 1) (((w.alloc (.cells #[.slice (some ⟨bT, oT, none⟩) nT capT, .slice (some ⟨bR, oR, none⟩) 6 capR] 30)).alloc (.cells #[.slice none 0 0] 25)).alloc (.cells #[.slice none 0 0] 25)) (w9.setCell ⟨(w.heap.size + 1 + 1), 0, none⟩ (.slice (some ⟨g3, 0, none⟩) (k + 1) cap3))))) := by
            intro g3 cap3 w9 hown hgr hat hlt9
            have hk9 : Kept (w.heap.size + 1 + 1) v.ownBlock w2 w9 := ((Kept.drew0 _ _ _).alloc _).grown hgr
            have hA0 : (w2.drew.alloc (.cells #[.int .i64 t.k, .slice t.a t.len t.cap, .int .i64 t.n, .int .i64 t.s, .int .i64 u.k, .slice u.a u.len u.cap, .int .i64 u.n, .int .i64 u.s, .int .i64 x.k, .slice x.a x.len x.cap, .int .i64 x.n, .int .i64 x.s] 41)).cell? ⟨(w.heap.size + 1 + 1), 0, none⟩ = some v := ((bl_alloc (Below.drew (Below.refl _ _)) _ : Below w2.heap.size w2 _).cell (p := ⟨(w.heap.size + 1 + 1), 0, none⟩) (by show (w.heap.size + 1 + 1) < _; omega)).trans g0
            have hA1 : (w2.drew.alloc (.cells #[.int .i64 t.k, .slice t.a t.len t.cap, .int .i64 t.n, .int .i64 t.s, .int .i64 u.k, .slice u.a u.len u.cap, .int .i64 u.n, .int .i64 u.s, .int .i64 x.k, .slice x.a x.len x.cap, .int .i64 x.n, .int .i64 x.s] 41)).frozen? ⟨(w.heap.size + 1 + 1), 0, none⟩ = false := ((bl_alloc (Below.drew (Below.refl _ _)) _ : Below w2.heap.size w2 _).frozen (p := ⟨(w.heap.size + 1 + 1), 0, none⟩) (by show (w.heap.size + 1 + 1) < _; omega)).trans g1
            have z0 : w9.cell? ⟨(w.heap.size + 1 + 1), 0, none⟩ = some v := (hgr.cell_far ⟨(w.heap.size + 1 + 1), 0, none⟩ (by simp; omega) (fun e => by have := hGl (w.heap.size + 1 + 1) e.symm; omega)).trans hA0
            have z1 : w9.frozen? ⟨(w.heap.size + 1 + 1), 0, none⟩ = false := (hgr.frozen_far ⟨(w.heap.size + 1 + 1), 0, none⟩ (by simp; omega) (fun e => by have := hGl (w.heap.size + 1 + 1) e.symm; omega)).trans hA1
            have hbut : But (w.heap.size + 1 + 1) w9 (w9.setCell ⟨(w.heap.size + 1 + 1), 0, none⟩ (.slice (some ⟨g3, 0, none⟩) (k + 1) cap3)) := (But.refl _ _).set _ _
            have hb9 : Below (w.heap.size + 1 + 1) (((w.alloc (.cells #[.slice (some ⟨bT, oT, none⟩) nT capT, .slice (some ⟨bR, oR, none⟩) 6 capR] 30)).alloc (.cells #[.slice none 0 0] 25)).alloc (.cells #[.slice none 0 0] 25)) w9 := (HBw.out.trans ((bl_alloc (Below.drew (Below.refl _ _)) _ : Below w2.heap.size w2 _).mono (by omega))).grown hgr (by simp; omega) (fun j hj => by have := hGl j hj; omega)
            refine ⟨z0, z1, ⟨set_same z0, by rw [World.frozen?_setCell]; exact z1, by rw [hbut.size]; have := hk9.size; omega, fun j r hj hr => ?_⟩, ?_, ?_⟩
            · by_cases e : j = k
              · subst e
                rw [HY.out] at hr
                cases hr
                exact HIN.out
              · exact HS.out.2.2.2 j r (by omega) hr
            · rw [hTT, hUU, hVV] at hown
              exact (ownGR_more hown hlt9).but hbut (by omega)
            · exact hb9.trans (hbut.below (by omega))
          clear eT eU eV ht hu hx hTT hUU hVV er3 hw2 hcT htb hltT
          go_wp2_with fail
          refine wp_region_held_drew (S := fun w' => Kept (w.heap.size + 1 + 1) v.ownBlock w2 w') (by kernel_rfl) ?_ (fun hHeld => ?_)
          · exact Kept.drew0 _ _ _
          refine take_at (i := 0) 27 (v := ?v1) rfl rfl (by kernel_rfl) (by kernel_rfl) (by kernel_rfl) (fun _ _ _ h => h) (Or.inl ⟨by rfl, ?y1⟩) hHeld ?r1
          case y1 => (intro w' hSw; skip; go_simp; (try with_reducible rfl))
          try simp only [Act.put, List.setIfInBounds_toArray, List.set_cons_zero, List.set_cons_succ]
          refine take_at (i := 2) 29 (v := ?v2) rfl rfl (by kernel_rfl) (by kernel_rfl) (by kernel_rfl) (fun _ _ _ h => h) (Or.inl ⟨by rfl, ?y2⟩) hHeld ?r2
          case y2 => (intro w' hSw; skip; go_simp; (try with_reducible rfl))
          try simp only [Act.put, List.setIfInBounds_toArray, List.set_cons_zero, List.set_cons_succ]
          refine take_at (i := 3) 30 (v := ?v3) rfl rfl (by kernel_rfl) (by kernel_rfl) (by kernel_rfl) (fun _ _ _ h => h) (Or.inl ⟨by rfl, ?y3⟩) hHeld ?r3
          case y3 => (intro w' hSw; obtain ⟨f0, ⟨r0, r1, r2⟩, ⟨t0, t1, t2, t3⟩, ⟨u0, u1, u2, u3⟩, ⟨x0, x1, x2, x3⟩⟩ := HKK.out w' hSw; go_simp; (try with_reducible rfl))
          try simp only [Act.put, List.setIfInBounds_toArray, List.set_cons_zero, List.set_cons_succ]
          refine take_at (i := 4) 31 (v := ?v4) rfl rfl (by kernel_rfl) (by kernel_rfl) (by kernel_rfl) (fun _ _ _ h => h) (Or.inl ⟨by rfl, ?y4⟩) hHeld ?r4
          case y4 => (intro w' hSw; skip; go_simp; (try with_reducible rfl))
          try simp only [Act.put, List.setIfInBounds_toArray, List.set_cons_zero, List.set_cons_succ]
          refine take_at (i := 5) 32 (v := ?v5) rfl rfl (by kernel_rfl) (by kernel_rfl) (by kernel_rfl) (fun _ _ _ h => h) (Or.inl ⟨by rfl, ?y5⟩) hHeld ?r5
          case y5 => (intro w' hSw; obtain ⟨f0, ⟨r0, r1, r2⟩, ⟨t0, t1, t2, t3⟩, ⟨u0, u1, u2, u3⟩, ⟨x0, x1, x2, x3⟩⟩ := HKK.out w' hSw; go_simp; (try with_reducible rfl))
          try simp only [Act.put, List.setIfInBounds_toArray, List.set_cons_zero, List.set_cons_succ]
          refine take_at (i := 6) 33 (v := ?v6) rfl rfl (by kernel_rfl) (by kernel_rfl) (by kernel_rfl) (fun _ _ _ h => h) (Or.inl ⟨by rfl, ?y6⟩) hHeld ?r6
          case y6 => (intro w' hSw; skip; go_simp; (try with_reducible rfl))
          try simp only [Act.put, List.setIfInBounds_toArray, List.set_cons_zero, List.set_cons_succ]
          refine take_at (i := 7) 34 (v := ?v7) rfl rfl (by kernel_rfl) (by kernel_rfl) (by kernel_rfl) (fun _ _ _ h => h) (Or.inl ⟨by rfl, ?y7⟩) hHeld ?r7
          case y7 => (intro w' hSw; obtain ⟨f0, ⟨r0, r1, r2⟩, ⟨t0, t1, t2, t3⟩, ⟨u0, u1, u2, u3⟩, ⟨x0, x1, x2, x3⟩⟩ := HKK.out w' hSw; go_simp; (try with_reducible rfl))
          try simp only [Act.put, List.setIfInBounds_toArray, List.set_cons_zero, List.set_cons_succ]
          refine take_at (i := 8) 35 (v := ?v8) rfl rfl (by kernel_rfl) (by kernel_rfl) (by kernel_rfl) (fun _ _ _ h => h) (Or.inl ⟨by rfl, ?y8⟩) hHeld ?r8
          case y8 => (intro w' hSw; obtain ⟨f0, ⟨r0, r1, r2⟩, ⟨t0, t1, t2, t3⟩, ⟨u0, u1, u2, u3⟩, ⟨x0, x1, x2, x3⟩⟩ := HKK.out w' hSw; go_simp; (try with_reducible rfl))
          try simp only [Act.put, List.setIfInBounds_toArray, List.set_cons_zero, List.set_cons_succ]
          refine take_at (i := 9) 36 (v := ?v9) rfl rfl (by kernel_rfl) (by kernel_rfl) (by kernel_rfl) (fun _ _ _ h => h) (Or.inl ⟨by rfl, ?y9⟩) hHeld ?r9
          case y9 => (intro w' hSw; skip; go_simp; (try with_reducible rfl))
          try simp only [Act.put, List.setIfInBounds_toArray, List.set_cons_zero, List.set_cons_succ]
          refine take_at (i := 10) 37 (v := ?v10) rfl rfl (by kernel_rfl) (by kernel_rfl) (by kernel_rfl) (fun _ _ _ h => h) (Or.inl ⟨by rfl, ?y10⟩) hHeld ?r10
          case y10 => (intro w' hSw; obtain ⟨f0, ⟨r0, r1, r2⟩, ⟨t0, t1, t2, t3⟩, ⟨u0, u1, u2, u3⟩, ⟨x0, x1, x2, x3⟩⟩ := HKK.out w' hSw; go_simp; (try with_reducible rfl))
          try simp only [Act.put, List.setIfInBounds_toArray, List.set_cons_zero, List.set_cons_succ]
          refine take_at (i := 11) 38 (v := ?v11) rfl rfl (by kernel_rfl) (by kernel_rfl) (by kernel_rfl) (fun _ _ _ h => h) (Or.inl ⟨by rfl, ?y11⟩) hHeld ?r11
          case y11 => (intro w' hSw; skip; go_simp; (try with_reducible rfl))
          try simp only [Act.put, List.setIfInBounds_toArray, List.set_cons_zero, List.set_cons_succ]
          refine take_at (i := 12) 39 (v := ?v12) rfl rfl (by kernel_rfl) (by kernel_rfl) (by kernel_rfl) (fun _ _ _ h => h) (Or.inl ⟨by rfl, ?y12⟩) hHeld ?r12
          case y12 => (intro w' hSw; obtain ⟨f0, ⟨r0, r1, r2⟩, ⟨t0, t1, t2, t3⟩, ⟨u0, u1, u2, u3⟩, ⟨x0, x1, x2, x3⟩⟩ := HKK.out w' hSw; go_simp; (try with_reducible rfl))
          try simp only [Act.put, List.setIfInBounds_toArray, List.set_cons_zero, List.set_cons_succ]
          refine take_at (i := 13) 40 (v := ?v13) rfl rfl (by kernel_rfl) (by kernel_rfl) (by kernel_rfl) (fun _ _ _ h => h) (Or.inl ⟨by rfl, ?y13⟩) hHeld ?r13
          case y13 => (intro w' hSw; skip; go_simp; (try with_reducible rfl))
          try simp only [Act.put, List.setIfInBounds_toArray, List.set_cons_zero, List.set_cons_succ]
          refine take_at (i := 14) 41 (v := ?v14) rfl rfl (by kernel_rfl) (by kernel_rfl) (by kernel_rfl) (fun _ _ _ h => h) (Or.inl ⟨by rfl, ?y14⟩) hHeld ?r14
          case y14 => (intro w' hSw; obtain ⟨f0, ⟨r0, r1, r2⟩, ⟨t0, t1, t2, t3⟩, ⟨u0, u1, u2, u3⟩, ⟨x0, x1, x2, x3⟩⟩ := HKK.out w' hSw; go_simp; (try with_reducible rfl))
          try simp only [Act.put, List.setIfInBounds_toArray, List.set_cons_zero, List.set_cons_succ]
          refine take_at (i := 15) 42 (v := ?v15) rfl rfl (by kernel_rfl) (by kernel_rfl) (by kernel_rfl) (fun _ _ _ h => h) (Or.inl ⟨by rfl, ?y15⟩) hHeld ?r15
          case y15 => (intro w' hSw; obtain ⟨f0, ⟨r0, r1, r2⟩, ⟨t0, t1, t2, t3⟩, ⟨u0, u1, u2, u3⟩, ⟨x0, x1, x2, x3⟩⟩ := HKK.out w' hSw; go_simp; (try with_reducible rfl))
          try simp only [Act.put, List.setIfInBounds_toArray, List.set_cons_zero, List.set_cons_succ]
          refine take_at (i := 16) 43 (v := ?v16) rfl rfl (by kernel_rfl) (by kernel_rfl) (by kernel_rfl) (fun _ _ _ h => h) (Or.inl ⟨by rfl, ?y16⟩) hHeld ?r16
          case y16 => (intro w' hSw; skip; go_simp; (try with_reducible rfl))
          try simp only [Act.put, List.setIfInBounds_toArray, List.set_cons_zero, List.set_cons_succ]
          refine take_at (i := 17) 44 (v := ?v17) rfl rfl (by kernel_rfl) (by kernel_rfl) (by kernel_rfl) (fun _ _ _ h => h) (Or.inl ⟨by rfl, ?y17⟩) hHeld ?r17
          case y17 => (intro w' hSw; obtain ⟨f0, ⟨r0, r1, r2⟩, ⟨t0, t1, t2, t3⟩, ⟨u0, u1, u2, u3⟩, ⟨x0, x1, x2, x3⟩⟩ := HKK.out w' hSw; go_simp; (try with_reducible rfl))
          try simp only [Act.put, List.setIfInBounds_toArray, List.set_cons_zero, List.set_cons_succ]
          refine take_at (i := 18) 45 (v := ?v18) rfl rfl (by kernel_rfl) (by kernel_rfl) (by kernel_rfl) (fun _ _ _ h => h) (Or.inl ⟨by rfl, ?y18⟩) hHeld ?r18
          case y18 => (intro w' hSw; skip; go_simp; (try with_reducible rfl))
          try simp only [Act.put, List.setIfInBounds_toArray, List.set_cons_zero, List.set_cons_succ]
          refine take_at (i := 19) 46 (v := ?v19) rfl rfl (by kernel_rfl) (by kernel_rfl) (by kernel_rfl) (fun _ _ _ h => h) (Or.inl ⟨by rfl, ?y19⟩) hHeld ?r19
          case y19 => (intro w' hSw; obtain ⟨f0, ⟨r0, r1, r2⟩, ⟨t0, t1, t2, t3⟩, ⟨u0, u1, u2, u3⟩, ⟨x0, x1, x2, x3⟩⟩ := HKK.out w' hSw; go_simp; (try with_reducible rfl))
          try simp only [Act.put, List.setIfInBounds_toArray, List.set_cons_zero, List.set_cons_succ]
          refine take_at (i := 20) 47 (v := ?v20) rfl rfl (by kernel_rfl) (by kernel_rfl) (by kernel_rfl) (fun _ _ _ h => h) (Or.inl ⟨by rfl, ?y20⟩) hHeld ?r20
          case y20 => (intro w' hSw; skip; go_simp; (try with_reducible rfl))
          try simp only [Act.put, List.setIfInBounds_toArray, List.set_cons_zero, List.set_cons_succ]
          refine take_at (i := 21) 48 (v := ?v21) rfl rfl (by kernel_rfl) (by kernel_rfl) (by kernel_rfl) (fun _ _ _ h => h) (Or.inl ⟨by rfl, ?y21⟩) hHeld ?r21
          case y21 => (intro w' hSw; obtain ⟨f0, ⟨r0, r1, r2⟩, ⟨t0, t1, t2, t3⟩, ⟨u0, u1, u2, u3⟩, ⟨x0, x1, x2, x3⟩⟩ := HKK.out w' hSw; go_simp; (try with_reducible rfl))
          try simp only [Act.put, List.setIfInBounds_toArray, List.set_cons_zero, List.set_cons_succ]
          refine take_at (i := 22) 49 (v := ?v22) rfl rfl (by kernel_rfl) (by kernel_rfl) (by kernel_rfl) (fun _ _ _ h => h) (Or.inl ⟨by rfl, ?y22⟩) hHeld ?r22
          case y22 => (intro w' hSw; obtain ⟨f0, ⟨r0, r1, r2⟩, ⟨t0, t1, t2, t3⟩, ⟨u0, u1, u2, u3⟩, ⟨x0, x1, x2, x3⟩⟩ := HKK.out w' hSw; go_simp; (try with_reducible rfl))
          try simp only [Act.put, List.setIfInBounds_toArray, List.set_cons_zero, List.set_cons_succ]
          refine take_at (i := 23) 50 (v := ?v23) rfl rfl (by kernel_rfl) (by kernel_rfl) (by kernel_rfl) (fun _ _ _ h => h) (Or.inl ⟨by rfl, ?y23⟩) hHeld ?r23
          case y23 => (intro w' hSw; skip; go_simp; (try with_reducible rfl))
          try simp only [Act.put, List.setIfInBounds_toArray, List.set_cons_zero, List.set_cons_succ]
          refine wpAnyH_ready (rs := [1, 24]) (by kernel_rfl) (by simp) ?_
          refine AllReadyH.cons rfl (fun K hK => ?_) (AllReadyH.cons rfl (fun K hK => ?_) AllReadyH.nil)
          · go_simp
            refine hK.out _ _ ?_ (fun hHeld => ?_)
            · first | exact (Kept.drew0 _ _ _) | exact (Kept.drew0 _ _ _).alloc _
            clear hK K
            try simp only [Act.put, List.setIfInBounds_toArray, List.set_cons_zero, List.set_cons_succ]
            refine wpAnyH_ready (rs := [24]) (by kernel_rfl) (by simp) ?_
            refine AllReadyH.cons rfl (fun K hK => ?_) AllReadyH.nil
            go_simp
            refine hK.out _ _ ?_ (fun hHeld => ?_)
            · exact (Kept.drew0 _ _ _).alloc _
            clear hK K
            try simp only [Act.put, List.setIfInBounds_toArray, List.set_cons_zero, List.set_cons_succ]
            refine wpAnyH_ready (rs := [25]) (by kernel_rfl) (by simp) ?_
            refine AllReadyH.cons rfl (fun K hK => ?_) AllReadyH.nil
            refine step_append_lies _ rfl (.tmp 28) (.tmp 51) 23 rfl (w.heap.size + 1 + 1 + 1) 41 i0 (.agg #[.int .i64 0, .slice none 0 0, .int .i64 0, .int .i64 0, .int .i64 0, .slice none 0 0, .int .i64 0, .int .i64 0, .int .i64 0, .slice none 0 0, .int .i64 0, .int .i64 0]) 12 144 Tryz.underlying23 hi0 hi2 hi1 hi3 rfl (by omega) v k _ rfl HOA.out.1 ⟨w2.heap.size, 0, none⟩ 1 1 (enc12 T U V k) rfl (by rw [enc12_len]) HNEW.out (enc12_one T U V k) (by omega) (by unfold maxLen; omega) (by omega) hszA _ rfl ?_
            intro g3 cap3 w9 hown hgr hat hlt9
            refine hK.out _ _ ?_ (fun hHeld => ?_)
            · exact ((Kept.drew0 _ _ _).alloc _).grown hgr
            clear hK K
            try simp only [Act.put, List.setIfInBounds_toArray]
            refine take_at (i := 26) 53 (v := ?v24) rfl rfl (by kernel_rfl) (by kernel_rfl) (by kernel_rfl) (fun _ _ _ h => h) (Or.inl ⟨by rfl, ?y24⟩) hHeld ?r24
            case y24 => (intro w' hSw; skip; go_simp; (try with_reducible rfl))
            try simp only [Act.put]
            obtain ⟨z0, z1, HFIN⟩ := FIN.out g3 cap3 w9 hown hgr hat hlt9
            refine wpAnyH_ready (rs := [27]) (by kernel_rfl) (by simp) ?_
            refine AllReadyH.cons rfl (fun K hK => ?_) AllReadyH.nil
            go_simp
            refine hK.out _ _ ?_ (fun hHeld => ?_)
            · exact (((Kept.drew0 _ _ _).alloc _).grown hgr).set _ _
            clear hK K
            refine wpAnyH_done (by kernel_rfl) ?_ _
            clear hown hgr hat hHeld z0 z1
            go_wp2
            go_roundw
            case rel => exact ⟨k + 1, .slice (some ⟨g3, 0, none⟩) (k + 1) cap3, by omega, by go_num, HFIN.out.1, HFIN.out.2.1, HFIN.out.2.2⟩
            case measure => simp [intOf]; omega
          · go_simp
            refine hK.out _ _ ?_ (fun hHeld => ?_)
            · exact (Kept.drew0 _ _ _).alloc _
            clear hK K
            try simp only [Act.put, List.setIfInBounds_toArray, List.set_cons_zero, List.set_cons_succ]
            refine wpAnyH_ready (rs := [1]) (by kernel_rfl) (by simp) ?_
            refine AllReadyH.cons rfl (fun K hK => ?_) AllReadyH.nil
            go_simp
            refine hK.out _ _ ?_ (fun hHeld => ?_)
            · first | exact (Kept.drew0 _ _ _) | exact (Kept.drew0 _ _ _).alloc _
            clear hK K
            try simp only [Act.put, List.setIfInBounds_toArray, List.set_cons_zero, List.set_cons_succ]
            refine wpAnyH_ready (rs := [25]) (by kernel_rfl) (by simp) ?_
            refine AllReadyH.cons rfl (fun K hK => ?_) AllReadyH.nil
            refine step_append_lies _ rfl (.tmp 28) (.tmp 51) 23 rfl (w.heap.size + 1 + 1 + 1) 41 i0 (.agg #[.int .i64 0, .slice none 0 0, .int .i64 0, .int .i64 0, .int .i64 0, .slice none 0 0, .int .i64 0, .int .i64 0, .int .i64 0, .slice none 0 0, .int .i64 0, .int .i64 0]) 12 144 Tryz.underlying23 hi0 hi2 hi1 hi3 rfl (by omega) v k _ rfl HOA.out.1 ⟨w2.heap.size, 0, none⟩ 1 1 (enc12 T U V k) rfl (by rw [enc12_len]) HNEW.out (enc12_one T U V k) (by omega) (by unfold maxLen; omega) (by omega) hszA _ rfl ?_
            intro g3 cap3 w9 hown hgr hat hlt9
            refine hK.out _ _ ?_ (fun hHeld => ?_)
            · exact ((Kept.drew0 _ _ _).alloc _).grown hgr
            clear hK K
            try simp only [Act.put, List.setIfInBounds_toArray]
            refine take_at (i := 26) 53 (v := ?v25) rfl rfl (by kernel_rfl) (by kernel_rfl) (by kernel_rfl) (fun _ _ _ h => h) (Or.inl ⟨by rfl, ?y25⟩) hHeld ?r25
            case y25 => (intro w' hSw; skip; go_simp; (try with_reducible rfl))
            try simp only [Act.put]
            obtain ⟨z0, z1, HFIN⟩ := FIN.out g3 cap3 w9 hown hgr hat hlt9
            refine wpAnyH_ready (rs := [27]) (by kernel_rfl) (by simp) ?_
            refine AllReadyH.cons rfl (fun K hK => ?_) AllReadyH.nil
            go_simp
            refine hK.out _ _ ?_ (fun hHeld => ?_)
            · exact (((Kept.drew0 _ _ _).alloc _).grown hgr).set _ _
            clear hK K
            refine wpAnyH_done (by kernel_rfl) ?_ _
            clear hown hgr hat hHeld z0 z1
            go_wp2
            go_roundw
            case rel => exact ⟨k + 1, .slice (some ⟨g3, 0, none⟩) (k + 1) cap3, by omega, by go_num, HFIN.out.1, HFIN.out.2.1, HFIN.out.2.2⟩
            case measure => simp [intOf]; omega
      · obtain rfl : k = n := by omega
        obtain ⟨s0, s1, s2, s3⟩ := HS.out
        obtain ⟨_, e1, e2⟩ := HSB.out wr HB.out
        obtain ⟨a9, cap9, rfl, hrows⟩ := HO.out.form
        have HRW : Hid (Rows wr a9 k (sT tb l0) (sU tb l0) (sV tb l0)) := hrows
        clear hrows
        go_wp2
        refine bodyPost_ret (v := .tuple #[.agg #[.slice a9 k cap9], .bool true]) (by simp [results, Tryz.results21, go_sem, *]) rfl (.inl ⟨a9, cap9, rfl, ?_, ?_, ?_⟩)
        · intro r hr
          obtain ⟨j, hj, rfl⟩ := List.mem_iff_getElem.1 hr
          rw [← HNT.out]
          exact s3 j _ (by rw [HN0.out]; exact hj) (List.getElem?_eq_getElem hj)
        · rcases HO.out.form with ⟨a', c', hv, hr'⟩
          cases hv
          rcases hr' with h | ⟨b9, off9, ha9, hl9, hc9⟩
          · exact .inl h
          · refine .inr ⟨b9, off9, ha9, by simpa [World.setCell] using hl9, fun i hi => (hc9 i hi).of_block (Below.heap_setCell _ _ _ _ ?_)⟩
            subst ha9
            obtain ⟨gB, _⟩ : (w.heap.size + 1 + 1 + 1) ≤ b9 ∧ b9 < wr.heap.size := by
              rcases HO.out.1.2 with ⟨h, _⟩ | ⟨g', cc, cur, hv, _⟩
              · cases h
              · cases hv
                exact HO.out.2 _ rfl
            show b9 ≠ w.heap.size + 1
            omega
        · exact bl_set (HW.out wr HB.out) (by first | (dsimp only; omega) | omega) _
end Go.Proofs.YtobnpfcgcoooeaaGreatDoor
