/- Texts put together: StqB StqC -/
import Derived.Test.YtdcaicoomldmgaaGreatDoorMk15
import Derived.Test.YtdcaicoomldmgaaGreatDoorMk05
import Derived.Test.YtdcaicoomldmgaaGreatDoorMk08
import Derived.Test.YtdcaicoomldmgaaGreatDoorMk14
/- StqB -/
namespace Go.Proofs.YtdcaicoomldmgaaGreatDoor
open Go.RowKit Go.Deep Go.Sort Go.Lib
set_option maxRecDepth 100000

theorem ownR_cells {W : World} {B g n cap : Nat} {l : List (Int × Int × Int)} (h : OwnRR W B (.slice (some ⟨g, 0, none⟩) n cap) l) : ∃ cur, W.heap[g]? = some (.cells cur 99 (0, 0)) ∧ n ≤ cap ∧ cap ≤ maxLen ∧ cur.size = cap * 3 ∧ cur.toList.take (n * 3) = flat3 l ∧ n = l.length ∧ B ≤ g ∧ g < W.heap.size := by
  obtain ⟨hB, hgl⟩ := h.2 g rfl
  rcases h.1.2 with ⟨h, _⟩ | ⟨g', c', cur, hv, _, hh, h2, h3, h4, h5⟩
  · cases h
  · cases hv
    exact ⟨cur, hh, h2, h3, h4, h5, rfl, hB, hgl⟩
theorem ownR_mk {W : World} {B g n cap : Nat} {l : List (Int × Int × Int)} {cur : Array Value} (h1 : W.heap[g]? = some (.cells cur 99 (0, 0))) (h2 : n ≤ cap) (h3 : cap ≤ maxLen) (h4 : cur.size = cap * 3) (h5 : cur.toList.take (n * 3) = flat3 l) (h6 : n = l.length) (h7 : B ≤ g) (h8 : g < W.heap.size) : OwnRR W B (.slice (some ⟨g, 0, none⟩) n cap) l := by
  subst h6
  refine ⟨⟨by rw [flat3_len], .inr ⟨g, cap, cur, rfl, h7, h1, h2, h3, h4, h5⟩⟩, fun g' h' => ?_⟩
  have : g = g' := by simpa [Value.ownBlock] using h'
  subst this
  exact ⟨h7, h8⟩
theorem ownR_at {W : World} {B g n cap : Nat} {l : List (Int × Int × Int)} (h : OwnRR W B (.slice (some ⟨g, 0, none⟩) n cap) l) (i : Nat) (x : Int × Int × Int) (hi : l[i]? = some x) :
    W.cell? ⟨g, i * 3, none⟩ = some (.int .i64 x.1) ∧ W.cell? ⟨g, i * 3 + 1, none⟩ = some (.int .i64 x.2.1) ∧ W.cell? ⟨g, i * 3 + 2, none⟩ = some (.int .i64 x.2.2) := by
  obtain ⟨cur, hh, hle, hmx, hcs, htk, hn, hB, hgl⟩ := ownR_cells h
  obtain ⟨hi', rfl⟩ := List.getElem?_eq_some_iff.1 hi
  have hc : ∀ c u, c < 3 → (encR l[i])[c]? = some u → W.cell? ⟨g, i * 3 + c, none⟩ = some u := by
    intro c u hc hu
    rw [← flat3_get l i c hi' hc, ← htk, List.getElem?_take, if_pos (by omega)] at hu
    simp only [World.cell?, hh]
    simpa using hu
  exact ⟨hc 0 _ (by omega) rfl, hc 1 _ (by omega) rfl, hc 2 _ (by omega) rfl⟩
theorem ownR_fr {W : World} {B g n cap : Nat} {l : List (Int × Int × Int)} (h : OwnRR W B (.slice (some ⟨g, 0, none⟩) n cap) l) (o : Nat) : W.frozen? ⟨g, o, none⟩ = false := by
  obtain ⟨cur, hh, _⟩ := ownR_cells h
  simp [World.frozen?, hh]
theorem heapR_set {W : World} {g o : Nat} {v : Value} {cur : Array Value} {T : TypeId} {fz : Nat × Nat} (h : W.heap[g]? = some (.cells cur T fz)) : (W.setCell ⟨g, o, none⟩ v).heap[g]? = some (.cells (cur.setIfInBounds o v) T fz) := by
  rw [setCell_eq]
  show (W.heap.modify g (onCells (·.setIfInBounds o v)))[g]? = _
  rw [Array.getElem?_modify, if_pos rfl, h]
  rfl
/-- A row laid into its place. -/
theorem ownR_set {W : World} {B g n cap : Nat} {l : List (Int × Int × Int)} (h : OwnRR W B (.slice (some ⟨g, 0, none⟩) n cap) l) (i : Nat) (hi : i < l.length) (x : Int × Int × Int) :
    OwnRR (((W.setCell ⟨g, i * 3, none⟩ (.int .i64 x.1)).setCell ⟨g, i * 3 + 1, none⟩ (.int .i64 x.2.1)).setCell ⟨g, i * 3 + 2, none⟩ (.int .i64 x.2.2)) B (.slice (some ⟨g, 0, none⟩) n cap) (l.set i x) := by
  obtain ⟨cur, hh, hle, hmx, hcs, htk, hn, hB, hgl⟩ := ownR_cells h
  refine ownR_mk (heapR_set (heapR_set (heapR_set hh))) hle hmx (by simpa using hcs) ?_ (by simpa using hn) hB (by simpa using hgl)
  apply List.ext_getElem?
  intro j
  rw [List.getElem?_take]
  by_cases hj : j < n * 3
  · rw [if_pos hj]
    have hi2 : j / 3 < (l.set i x).length := by rw [List.length_set]; omega
    have e := flat3_get (l.set i x) (j / 3) (j % 3) hi2 (by omega)
    rw [show j / 3 * 3 + j % 3 = j by omega] at e
    rw [e]
    have e0 := flat3_get l (j / 3) (j % 3) (by simpa using hi2) (by omega)
    rw [show j / 3 * 3 + j % 3 = j by omega, ← htk, List.getElem?_take, if_pos hj] at e0
    simp only [Array.getElem?_toList] at e0 ⊢
    have hjc : j < cur.size := by omega
    by_cases hji : j / 3 = i
    · subst hji
      rw [List.getElem_set_self]
      have hc : j % 3 = 0 ∨ j % 3 = 1 ∨ j % 3 = 2 := by omega
      rcases hc with hc | hc | hc
      · rw [hc, Array.getElem?_setIfInBounds_ne (by omega), Array.getElem?_setIfInBounds_ne (by omega), show j / 3 * 3 = j by omega, Array.getElem?_setIfInBounds_self_of_lt (by omega)]
        rfl
      · rw [hc, Array.getElem?_setIfInBounds_ne (by omega), show j / 3 * 3 + 1 = j by omega, Array.getElem?_setIfInBounds_self_of_lt (by simp; omega)]
        rfl
      · rw [hc, show j / 3 * 3 + 2 = j by omega, Array.getElem?_setIfInBounds_self_of_lt (by simp; omega)]
        rfl
    · rw [List.getElem_set_ne (by omega), ← e0, Array.getElem?_setIfInBounds_ne (by omega), Array.getElem?_setIfInBounds_ne (by omega), Array.getElem?_setIfInBounds_ne (by omega)]
  · rw [if_neg hj, List.getElem?_eq_none (by rw [flat3_len, List.length_set]; omega)]
theorem but3 {W : World} {g a b c : Nat} {x y z : Value} : But g W (((W.setCell ⟨g, a, none⟩ x).setCell ⟨g, b, none⟩ y).setCell ⟨g, c, none⟩ z) := (((But.refl _ _).set _ _).set _ _).set _ _
theorem OwnRR.but {w w' : World} {B c : Nat} {v : Value} {l : List (Int × Int × Int)} (h : OwnRR w B v l) (hb : But c w w') (hc : ∀ g, v.ownBlock = some g → g ≠ c) : OwnRR w' B v l := by
  obtain ⟨⟨h1, h2⟩, hl⟩ := h
  refine ⟨⟨h1, ?_⟩, fun g hg => ⟨(hl g hg).1, by rw [hb.size]; exact (hl g hg).2⟩⟩
  rcases h2 with h2 | ⟨g', cap', cur, hv, hB, hh, r⟩
  · exact .inl h2
  · refine .inr ⟨g', cap', cur, hv, hB, ?_, r⟩
    rw [hb.block g' (hc g' (by rw [hv]; rfl))]
    exact hh
/-- The row while one is put to its place: what was ahead, whatever lies there, what was behind. -/
theorem shift_row {l : List (Int × Int × Int)} {x : Int × Int × Int} {j : Nat} (hj : 0 < j) (hl : j ≤ l.length) :
    (l.take j ++ x :: l.drop j).set j (l[j - 1]'(by omega)) = l.take (j - 1) ++ (l[j - 1]'(by omega)) :: l.drop (j - 1) := by
  rw [List.set_append_right _ _ (by simp; omega)]
  have e : j - (l.take j).length = 0 := by simp; omega
  rw [e, List.set_cons_zero]
  have e1 : l.take j = l.take (j - 1) ++ [l[j - 1]'(by omega)] := by
    have := List.take_succ_eq_append_getElem (l := l) (i := j - 1) (by omega)
    rw [show j - 1 + 1 = j by omega] at this
    exact this
  have e2 : l.drop (j - 1) = (l[j - 1]'(by omega)) :: l.drop j := by
    have := List.drop_eq_getElem_cons (l := l) (i := j - 1) (by omega)
    rw [show j - 1 + 1 = j by omega] at this
    exact this
  rw [e1, e2, List.append_assoc]
  rfl
theorem lay_row {l : List (Int × Int × Int)} {x r : Int × Int × Int} {j : Nat} (hl : j ≤ l.length) : (l.take j ++ x :: l.drop j).set j r = l.take j ++ r :: l.drop j := by
  rw [List.set_append_right _ _ (by simp; omega)]
  have e : j - (l.take j).length = 0 := by simp; omega
  rw [e, List.set_cons_zero]
theorem ahead_row {l : List (Int × Int × Int)} {x : Int × Int × Int} {i j : Nat} (hi : i < j) (hl : j ≤ l.length) : (l.take j ++ x :: l.drop j)[i]? = some (l[i]'(by omega)) := by
  rw [List.getElem?_append_left (by simp; omega), List.getElem?_take, if_pos hi, List.getElem?_eq_getElem (by omega)]
end Go.Proofs.YtdcaicoomldmgaaGreatDoor

/- StqC -/
namespace Go.Proofs.YtdcaicoomldmgaaGreatDoor
open Go.RowKit Go.Deep
set_option maxRecDepth 100000

theorem isOver_any (r : Int × Int × Int) (a : Option Addr) (n cap : Nat) (w : World) :
    Calls Tryz.prog 108 #[.agg #[.int .i64 r.1, .int .i64 r.2.1, .int .i64 r.2.2], .slice a n cap] w fun e w' => e = .returned (.bool (inRb n r)) ∧ Below w.heap.size w w' := by
  obtain ⟨x, y, z⟩ := r
  dsimp only
  generalize hg : inRb n (x, y, z) = q
  have HG : Hid (inRb n (x, y, z) = q) := hg
  clear hg
  go_enter Tryz.func108, Tryz.ntmps108
  go_wp2_with (go_at_call 62; refine (within_any _ _ _ _).mono ?_; rintro e w1 ⟨rfl, rfl⟩)
  all_goals go_ret
  all_goals (refine ⟨congrArg (fun b => Ending.returned (Value.bool b)) ?_, bl_a _⟩; have hg := HG.out; rw [← hg, Bool.eq_iff_iff, inRb_iff]; go_light; unfold inR; simp; try omega)

/-- A row of numbers at its place. -/
theorem RRow.at {w : World} {b off : Nat} {l : List (Int × Int × Int)} (hc : ∀ j u, (flat3 l)[j]? = some u → w.cell? ⟨b, off + j, none⟩ = some u) (i : Nat) (x : Int × Int × Int) (hi : l[i]? = some x) :
    w.cell? ⟨b, off + i * 3, none⟩ = some (.int .i64 x.1) ∧ w.cell? ⟨b, off + i * 3 + 1, none⟩ = some (.int .i64 x.2.1) ∧ w.cell? ⟨b, off + i * 3 + 2, none⟩ = some (.int .i64 x.2.2) := by
  obtain ⟨hi', rfl⟩ := List.getElem?_eq_some_iff.1 hi
  refine ⟨hc (i * 3 + 0) _ ?_, ?_, ?_⟩
  · rw [flat3_get l i 0 hi' (by omega)]; rfl
  · rw [Nat.add_assoc]; exact hc _ _ (by rw [flat3_get l i 1 hi' (by omega)]; rfl)
  · rw [Nat.add_assoc]; exact hc _ _ (by rw [flat3_get l i 2 hi' (by omega)]; rfl)
theorem lists_ne_at {α : Type} {l m : List α} {k : Nat} {x y : α} (hx : l[k]? = some x) (hy : m[k]? = some y) (h : x ≠ y) : l ≠ m := by
  rintro rfl
  rw [hx] at hy
  exact h (Option.some.inj hy)
theorem lists_eq_of {α : Type} {l m : List α} (hl : l.length = m.length) (h : ∀ (i : Nat) x y, l[i]? = some x → m[i]? = some y → x = y) : l = m := by
  apply List.ext_getElem hl
  intro i h1 h2
  exact h i _ _ (List.getElem?_eq_getElem h1) (List.getElem?_eq_getElem h2)

set_option maxHeartbeats 4000000 in
theorem equalRows_any (a a' : Option Addr) (cap cap' : Nat) (l m : List (Int × Int × Int)) (w : World) (hn : l.length ≤ 1048576) (hn' : m.length ≤ 1048576) (hR : RRow w a l) (hR' : RRow w a' m) :
    Calls Tryz.prog 71 #[.slice a l.length cap, .slice a' m.length cap'] w fun e w' => e = .returned (.bool (decide (l = m))) ∧ Below w.heap.size w w' := by
  by_cases hlen : l.length = m.length
  rotate_left
  · have hne : decide (l = m) = false := by simp; intro h; exact hlen (by rw [h])
    rw [hne]
    have h1 : ((l.length : Int) == (m.length : Int)) = false := by simp; omega
    clear hR hR'
    generalize l.length = p at *
    generalize m.length = q at *
    go_enter Tryz.func71, Tryz.ntmps71
    go_wp2
    go_ret
    exact ⟨rfl, Below.refl _ _⟩
  · by_cases h0 : l = []
    · subst h0
      have hm : m = [] := List.eq_nil_of_length_eq_zero (by simpa using hlen.symm)
      subst hm
      go_enter Tryz.func71, Tryz.ntmps71
      go_wp2
      refine wp_loop_rounds 1 ?_
      rw [rounds_succ]
      go_wp2
      go_ret
      exact ⟨rfl, Below.refl _ _⟩
    · obtain ⟨b, off, rfl, hlt, hc⟩ : ∃ b off, a = some ⟨b, off, none⟩ ∧ b < w.heap.size ∧ ∀ j u, (flat3 l)[j]? = some u → w.cell? ⟨b, off + j, none⟩ = some u := by
        rcases hR with ⟨_, h⟩ | h
        · exact absurd h h0
        · exact h
      obtain ⟨b', off', rfl, hlt', hc'⟩ : ∃ b off, a' = some ⟨b, off, none⟩ ∧ b < w.heap.size ∧ ∀ j u, (flat3 m)[j]? = some u → w.cell? ⟨b, off + j, none⟩ = some u := by
        rcases hR' with ⟨_, h⟩ | h
        · subst h
          exact absurd (List.eq_nil_of_length_eq_zero (by simpa using hlen)) h0
        · exact h
      have HC : Hid (∀ j u, (flat3 l)[j]? = some u → w.cell? ⟨b, off + j, none⟩ = some u) := hc
      have HC' : Hid (∀ j u, (flat3 m)[j]? = some u → w.cell? ⟨b', off' + j, none⟩ = some u) := hc'
      obtain ⟨n, hnn⟩ : ∃ n, n = l.length := ⟨_, rfl⟩
      have HN : Hid (n = l.length) := hnn
      have HN' : Hid (n = m.length) := hnn.trans hlen
      rw [← hlen, ← hnn]
      rw [← hnn] at hn
      obtain ⟨q, hq⟩ : ∃ q, q = decide (l = m) := ⟨_, rfl⟩
      have HQ : Hid (q = decide (l = m)) := hq
      rw [← hq]
      clear hR hR' hc hc' hn' hlen hnn hq h0
      go_enter Tryz.func71, Tryz.ntmps71
      go_wp2
      go_loopw [13] (fun i wr => ∃ k : Nat, k ≤ n ∧ i = .int .i64 k ∧ Hid (∀ j x y, j < k → l[j]? = some x → m[j]? = some y → x = y) ∧ Hid (Below w.heap.size w wr))
        (fun i _ => n - (intOf i).toNat)
      case atStart => exact ⟨0, Nat.zero_le _, rfl, fun j x y hj => by omega, Below.refl _ _⟩
      case round =>
        obtain ⟨k, hk, rfl, HE, HB⟩ := hrel
        by_cases hlk : k < n
        · obtain ⟨x, hx⟩ : ∃ x, l[k]? = some x := ⟨l[k]'(by rw [← HN.out]; exact hlk), List.getElem?_eq_getElem _⟩
          obtain ⟨y, hy⟩ : ∃ y, m[k]? = some y := ⟨m[k]'(by rw [← HN'.out]; exact hlk), List.getElem?_eq_getElem _⟩
          have HX : Hid (l[k]? = some x) := hx
          have HY : Hid (m[k]? = some y) := hy
          have hcx := fun d os => RRow.at (l := l) (b := b) (off := off) (w := Go.Sort.grow (redrawn wr d) os) (fun j u hu => ((bl_trans HB.out (bl_regrown (w := wr) d os)).cell (p := ⟨b, off + j, none⟩) hlt).trans (HC.out j u hu)) k x hx
          have hcy := fun d os => RRow.at (l := m) (b := b') (off := off') (w := Go.Sort.grow (redrawn wr d) os) (fun j u hu => ((bl_trans HB.out (bl_regrown (w := wr) d os)).cell (p := ⟨b', off' + j, none⟩) hlt').trans (HC'.out j u hu)) k y hy
          have a1 := fun d os => (hcx d os).1
          have a2 := fun d os => (hcx d os).2.1
          have a3 := fun d os => (hcx d os).2.2
          have b1 := fun d os => (hcy d os).1
          have b2 := fun d os => (hcy d os).2.1
          have b3 := fun d os => (hcy d os).2.2
          clear hcx hcy hx hy
          obtain ⟨x1, x2, x3⟩ := x
          obtain ⟨y1, y2, y3⟩ := y
          dsimp only at a1 a2 a3 b1 b2 b3
          by_cases he : (x1, x2, x3) = (y1, y2, y3)
          · simp only [Prod.mk.injEq] at he
            obtain ⟨rfl, rfl, rfl⟩ := he
            go_wp2_with fail
            refine wp_region_quiet_below (by kernel_rfl) (by kernel_rfl) ?_
            quiet_step (fail)
            quiet_step (fail)
            quiet_step (fail)
            quiet_step (fail)
            quiet_step (fail)
            quiet_step (fail)
            quiet_step (fail)
            quiet_step (fail)
            quiet_step (fail)
            refine wpQuiet_nil ?_
            intro _ hw'
            obtain ⟨⟨dq, osq⟩, hw''⟩ := hw'
            subst hw''
            have HBq : Hid (Below w.heap.size w (Go.Sort.grow (redrawn wr dq) osq)) := bl_trans HB.out (bl_regrown (w := wr) dq osq)
            clear a1 a2 a3 b1 b2 b3 HB
            dsimp only
            generalize Go.Sort.grow (redrawn wr dq) osq = wq at *
            go_wp2_with fail
            go_roundw
            case rel =>
              refine ⟨k + 1, by omega, by go_num, fun j x y hj hx hy => ?_, HBq⟩
              by_cases e : j = k
              · subst e
                have h1 := HX.out
                have h2 := HY.out
                rw [h1] at hx
                rw [h2] at hy
                exact (Option.some.inj hx).symm.trans (Option.some.inj hy)
              · exact HE.out j x y (by omega) hx hy
            case measure => simp [intOf]; omega
          · have HQF : Hid (q = false) := by
              show q = false
              rw [HQ.out]
              simp only [decide_eq_false_iff_not]
              exact lists_ne_at HX.out HY.out he
            have hcs : ¬ x1 = y1 ∨ (x1 = y1 ∧ ¬ x2 = y2) ∨ (x1 = y1 ∧ x2 = y2 ∧ ¬ x3 = y3) := by
              simp only [Prod.mk.injEq] at he
              by_cases c1 : x1 = y1
              · by_cases c2 : x2 = y2
                · exact .inr (.inr ⟨c1, c2, fun c3 => he ⟨c1, c2, c3⟩⟩)
                · exact .inr (.inl ⟨c1, c2⟩)
              · exact .inl c1
            clear he
            rcases hcs with c1 | ⟨c1, c2⟩ | ⟨c1, c2, c3⟩
            · go_wp2_with fail
              refine wp_region_quiet_below (by kernel_rfl) (by kernel_rfl) ?_
              quiet_step (fail)
              quiet_step (fail)
              quiet_step (fail)
              quiet_step (fail)
              quiet_step (fail)
              quiet_step (fail)
              quiet_step (fail)
              quiet_step (fail)
              quiet_step (fail)
              refine wpQuiet_nil ?_
              intro _ hw'
              obtain ⟨⟨dq, osq⟩, hw''⟩ := hw'
              subst hw''
              have HBq : Hid (Below w.heap.size w (Go.Sort.grow (redrawn wr dq) osq)) := bl_trans HB.out (bl_regrown (w := wr) dq osq)
              clear a1 a2 a3 b1 b2 b3 HB
              dsimp only
              generalize Go.Sort.grow (redrawn wr dq) osq = wq at *
              go_wp2_with fail
              go_ret
              rw [HQF.out]
              exact ⟨rfl, HBq.out⟩
            · go_wp2_with fail
              refine wp_region_quiet_below (by kernel_rfl) (by kernel_rfl) ?_
              quiet_step (fail)
              quiet_step (fail)
              quiet_step (fail)
              quiet_step (fail)
              quiet_step (fail)
              quiet_step (fail)
              quiet_step (fail)
              quiet_step (fail)
              quiet_step (fail)
              refine wpQuiet_nil ?_
              intro _ hw'
              obtain ⟨⟨dq, osq⟩, hw''⟩ := hw'
              subst hw''
              have HBq : Hid (Below w.heap.size w (Go.Sort.grow (redrawn wr dq) osq)) := bl_trans HB.out (bl_regrown (w := wr) dq osq)
              clear a1 a2 a3 b1 b2 b3 HB
              dsimp only
              generalize Go.Sort.grow (redrawn wr dq) osq = wq at *
              go_wp2_with fail
              go_ret
              rw [HQF.out]
              exact ⟨rfl, HBq.out⟩
            · go_wp2_with fail
              refine wp_region_quiet_below (by kernel_rfl) (by kernel_rfl) ?_
              quiet_step (fail)
              quiet_step (fail)
              quiet_step (fail)
              quiet_step (fail)
              quiet_step (fail)
              quiet_step (fail)
              quiet_step (fail)
              quiet_step (fail)
              quiet_step (fail)
              refine wpQuiet_nil ?_
              intro _ hw'
              obtain ⟨⟨dq, osq⟩, hw''⟩ := hw'
              subst hw''
              have HBq : Hid (Below w.heap.size w (Go.Sort.grow (redrawn wr dq) osq)) := bl_trans HB.out (bl_regrown (w := wr) dq osq)
              clear a1 a2 a3 b1 b2 b3 HB
              dsimp only
              generalize Go.Sort.grow (redrawn wr dq) osq = wq at *
              go_wp2_with fail
              go_ret
              rw [HQF.out]
              exact ⟨rfl, HBq.out⟩
        · obtain rfl : k = n := by omega
          go_wp2_with fail
          go_ret
          have : q = true := by
            rw [HQ.out, decide_eq_true_eq]
            refine lists_eq_of (by rw [← HN.out, HN'.out]) fun i x y hx hy => HE.out i x y ?_ hx hy
            have := (List.getElem?_eq_some_iff.1 hx).1
            rw [HN.out]
            exact this
          rw [this]
          exact ⟨rfl, HB.out⟩
end Go.Proofs.YtdcaicoomldmgaaGreatDoor
