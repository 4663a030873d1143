/- Texts put together: StrB StrD CmpE CmpF -/
import Derived.Test.YtdcaicoomldmgaaGreatDoorMk05
import Derived.Lib.QuietBelow
import Derived.Deep.Cut
import Derived.Test.YtdcaicoomldmgaaGreatDoorMk04
/- StrB -/
namespace Go.Proofs.YtdcaicoomldmgaaGreatDoor
open Go.RowKit Go.Deep
set_option maxRecDepth 100000

/-- One of a row's numbers in an order. -/
def rk (o k : Nat) (r : Int × Int × Int) : Int := if k = 0 then (rkey o r).1 else if k = 1 then (rkey o r).2.1 else (rkey o r).2.2

set_option maxHeartbeats 2000000 in
theorem l3key_any (a b c : Int) (o k : Nat) (w : World) (ho : o < 6) (hk : k < 3) :
    Calls Tryz.prog 101 #[.agg #[.int .i64 a, .int .i64 b, .int .i64 c], .int .i64 o, .int .i64 k] w fun e w' => e = .returned (.int .i64 (rk o k (a, b, c))) ∧ Below w.heap.size w w' := by
  have ho' : o = 0 ∨ o = 1 ∨ o = 2 ∨ o = 3 ∨ o = 4 ∨ o = 5 := by omega
  have hk' : k = 0 ∨ k = 1 ∨ k = 2 := by omega
  clear ho hk
  rcases ho' with rfl | rfl | rfl | rfl | rfl | rfl
  all_goals
    go_enter Tryz.func101, Tryz.ntmps101
    go_upto_region 3 with fail
    rcases hk' with rfl | rfl | rfl
  all_goals
    go_wp2
    go_ret
    refine ⟨rfl, ?_⟩
    repeat (first | with_reducible exact Below.refl _ _ | with_reducible apply bl_alloc)

end Go.Proofs.YtdcaicoomldmgaaGreatDoor

/- StrD -/
namespace Go.Proofs.YtdcaicoomldmgaaGreatDoor
open Go.RowKit Go.Deep
set_option maxRecDepth 100000

theorem bl_regrown {w : World} (d : Nat) (os : Array Obj) : Below w.heap.size w (Go.Sort.grow (redrawn w d) os) := below_regrown w d os
/-- A box of three. -/
def Row3c (w : World) (b : Nat) (v0 v1 v2 : Value) : Prop := b < w.heap.size ∧ w.cell? ⟨b, 0, none⟩ = some v0 ∧ w.cell? ⟨b, 1, none⟩ = some v1 ∧ w.cell? ⟨b, 2, none⟩ = some v2
theorem Row3c.below {w w' : World} {b : Nat} {v0 v1 v2 : Value} (h : Row3c w b v0 v1 v2) (hb : Below w.heap.size w w') : Row3c w' b v0 v1 v2 := by
  obtain ⟨hl, h0, h1, h2⟩ := h
  exact ⟨Nat.lt_of_lt_of_le hl hb.size, (hb.cell (p := ⟨b, 0, none⟩) hl).trans h0, (hb.cell (p := ⟨b, 1, none⟩) hl).trans h1, (hb.cell (p := ⟨b, 2, none⟩) hl).trans h2⟩
theorem Row3c.at (w : World) (b : Nat) (v0 v1 v2 : Value) (t : TypeId) (e : b = w.heap.size) : Row3c (w.alloc (.cells #[v0, v1, v2] t)) b v0 v1 v2 := by
  subst e
  refine ⟨by simp, by simp [go_sem], by simp [go_sem], by simp [go_sem]⟩

theorem rcmp_first {o k : Nat} {x y : Int × Int × Int} (hk : k < 3) (h : ∀ j, j < k → rk o j x = rk o j y) (hne : rk o k x ≠ rk o k y) : decide (rcmp o x y < 0) = decide (rk o k x < rk o k y) := by
  have h3 : k = 0 ∨ k = 1 ∨ k = 2 := by omega
  have g : ∀ a b : Int, a ≠ b → (cmpI a b < 0 ↔ a < b) ∧ cmpI a b ≠ 0 := by
    intro a b hab
    unfold cmpI
    split
    · omega
    · split <;> omega
  rw [decide_eq_decide]
  unfold rcmp
  rcases h3 with rfl | rfl | rfl
  · have hg := g _ _ hne
    simp only [rk, if_true] at hg hne ⊢
    unfold orI
    rw [if_neg hg.2]
    exact hg.1
  · have h0 := h 0 (by omega)
    have hg := g _ _ hne
    simp only [rk, if_true] at h0 hg hne ⊢
    rw [cmpI_eq h0]
    simp only [orI, if_true]
    simp at hg
    rw [if_neg hg.2]
    simpa using hg.1
  · have h0 := h 0 (by omega)
    have h1 := h 1 (by omega)
    have hg := g _ _ hne
    simp only [rk, if_true] at h0 h1 hg hne ⊢
    simp at h1 hg
    rw [cmpI_eq h0, cmpI_eq h1]
    simp [orI]
    exact hg.1
theorem rcmp_same {o : Nat} {x y : Int × Int × Int} (h : ∀ j, j < 3 → rk o j x = rk o j y) : decide (rcmp o x y < 0) = false := by
  have h0 := h 0 (by omega)
  have h1 := h 1 (by omega)
  have h2 := h 2 (by omega)
  simp [rk] at h0 h1 h2
  unfold rcmp
  rw [cmpI_eq h0, cmpI_eq h1, cmpI_eq h2]
  simp [orI]
theorem l3key_in (x : Int × Int × Int) (o k : Nat) (w : World) (d : Nat) (os : Array Obj) (ho : o < 6) (hk : k < 3) :
    Calls Tryz.prog 101 #[.agg #[.int .i64 x.1, .int .i64 x.2.1, .int .i64 x.2.2], .int .i64 o, .int .i64 k] (Go.Sort.grow (redrawn w d) os) fun e w'' => e = .returned (.int .i64 (rk o k x)) ∧ ∃ p : Regrown, w'' = Go.Sort.grow (redrawn w p.d) p.os :=
  Calls.regrown_of (l3key_any x.1 x.2.1 x.2.2 o k _ ho hk)

set_option maxHeartbeats 4000000 in
theorem l3less_any (x y : Int × Int × Int) (o : Nat) (w : World) (ho : o < 6) :
    Calls Tryz.prog 76 #[.agg #[.int .i64 x.1, .int .i64 x.2.1, .int .i64 x.2.2], .agg #[.int .i64 y.1, .int .i64 y.2.1, .int .i64 y.2.2], .int .i64 o] w fun e w' => e = .returned (.bool (decide (rcmp o x y < 0))) ∧ Below w.heap.size w w' := by
  have K := fun (z : Int × Int × Int) (k : Nat) (hk : k < 3) (w : World) (d : Nat) (os : Array Obj) => l3key_in z o k w d os ho hk
  have HX := Row3c.at w w.heap.size (.int .i64 x.1) (.int .i64 x.2.1) (.int .i64 x.2.2) 99 rfl
  go_enter Tryz.func76, Tryz.ntmps76
  go_wp2_with fail
  go_loopw [7] (fun i wr => ∃ k : Nat, k ≤ 3 ∧ i = .int .i64 k ∧ Hid (∀ j, j < k → rk o j x = rk o j y) ∧ Hid (Below w.heap.size w wr) ∧ Hid (Row3c wr w.heap.size (.int .i64 x.1) (.int .i64 x.2.1) (.int .i64 x.2.2)) ∧ Hid (Row3c wr (w.heap.size + 1) (.int .i64 y.1) (.int .i64 y.2.1) (.int .i64 y.2.2)))
    (fun i _ => 3 - (intOf i).toNat)
  case atStart => exact ⟨0, by omega, rfl, fun j hj => by omega, bl_alloc (bl_a _) _, HX.below (bl_a _), Row3c.at (w.alloc _) _ _ _ _ _ (by simp)⟩
  case round =>
    obtain ⟨k, hk, rfl, HE, HB, HA, HC⟩ := hrel
    clear HX
    by_cases hlt : k < 3
    · have a1 := fun d os => (HA.out.below (bl_regrown (w := wr) d os)).2.1
      have a2 := fun d os => (HA.out.below (bl_regrown (w := wr) d os)).2.2.1
      have a3 := fun d os => (HA.out.below (bl_regrown (w := wr) d os)).2.2.2
      have b1 := fun d os => (HC.out.below (bl_regrown (w := wr) d os)).2.1
      have b2 := fun d os => (HC.out.below (bl_regrown (w := wr) d os)).2.2.1
      have b3 := fun d os => (HC.out.below (bl_regrown (w := wr) d os)).2.2.2
      have K1 := K x k hlt
      have K2 := K y k hlt
      go_wp2_with fail
      refine wp_region_quiet_below (by kernel_rfl) (by kernel_rfl) ?_
      quiet_step (fail)
      quiet_step (fail)
      quiet_step (fail)
      quiet_step (exact K1 _ _ _)
      quiet_step (fail)
      quiet_step (fail)
      quiet_step (fail)
      quiet_step (exact K2 _ _ _)
      quiet_step (fail)
      refine wpQuiet_nil ?_
      intro _ hw'
      obtain ⟨⟨dq, osq⟩, hw''⟩ := hw'
      subst hw''
      have hbq := bl_regrown (w := wr) dq osq
      have HBq : Hid (Below w.heap.size w (Go.Sort.grow (redrawn wr dq) osq)) := bl_trans HB.out hbq
      have HAq : Hid (Row3c (Go.Sort.grow (redrawn wr dq) osq) w.heap.size (.int .i64 x.1) (.int .i64 x.2.1) (.int .i64 x.2.2)) := HA.out.below hbq
      have HCq : Hid (Row3c (Go.Sort.grow (redrawn wr dq) osq) (w.heap.size + 1) (.int .i64 y.1) (.int .i64 y.2.1) (.int .i64 y.2.2)) := HC.out.below hbq
      clear a1 a2 a3 b1 b2 b3 HA HB HC hbq
      by_cases hne : rk o k x = rk o k y
      · have hz : (rk o k x != rk o k y) = false := by simp [hne]
        have HN : Hid (rk o k x = rk o k y) := hne
        clear hne K1 K2
        dsimp only
        generalize Go.Sort.grow (redrawn wr dq) osq = wq at *
        go_wp2_with fail
        go_roundw
        case rel =>
          refine ⟨k + 1, by omega, by go_num, fun j hj => ?_, HBq, HAq, HCq⟩
          by_cases e : j = k
          · subst e; exact HN.out
          · exact HE.out j (by omega)
        case measure => simp [intOf]; omega
      · have hz : (rk o k x != rk o k y) = true := by simp [hne]
        have HN : Hid (decide (rcmp o x y < 0) = decide (rk o k x < rk o k y)) := rcmp_first hlt HE.out hne
        clear hne HE
        dsimp only
        generalize Go.Sort.grow (redrawn wr dq) osq = wq at *
        have a1 := fun d os => (HAq.out.below (bl_regrown (w := wq) d os)).2.1
        have a2 := fun d os => (HAq.out.below (bl_regrown (w := wq) d os)).2.2.1
        have a3 := fun d os => (HAq.out.below (bl_regrown (w := wq) d os)).2.2.2
        have b1 := fun d os => (HCq.out.below (bl_regrown (w := wq) d os)).2.1
        have b2 := fun d os => (HCq.out.below (bl_regrown (w := wq) d os)).2.2.1
        have b3 := fun d os => (HCq.out.below (bl_regrown (w := wq) d os)).2.2.2
        go_wp2_with fail
        refine wp_region_quiet_below (by kernel_rfl) (by kernel_rfl) ?_
        quiet_step (fail)
        quiet_step (fail)
        quiet_step (fail)
        quiet_step (exact K1 _ _ _)
        quiet_step (fail)
        quiet_step (fail)
        quiet_step (fail)
        quiet_step (exact K2 _ _ _)
        quiet_step (fail)
        quiet_step (fail)
        refine wpQuiet_nil ?_
        intro _ hw'
        obtain ⟨⟨d2, os2⟩, hw''⟩ := hw'
        subst hw''
        have hb2 := bl_regrown (w := wq) d2 os2
        have HB2 : Hid (Below w.heap.size w (Go.Sort.grow (redrawn wq d2) os2)) := bl_trans HBq.out hb2
        clear a1 a2 a3 b1 b2 b3 hb2 K1 K2
        dsimp only
        generalize Go.Sort.grow (redrawn wq d2) os2 = w2 at *
        go_wp2_with fail
        go_ret
        exact ⟨by rw [HN.out]; rfl, HB2.out⟩
    · obtain rfl : k = 3 := by omega
      have HN : Hid (decide (rcmp o x y < 0) = false) := rcmp_same HE.out
      go_wp2_with fail
      go_ret
      exact ⟨by rw [HN.out]; rfl, HB.out⟩
end Go.Proofs.YtdcaicoomldmgaaGreatDoor

/- CmpE -/
namespace Go.Proofs.YtdcaicoomldmgaaGreatDoor
open Go.RowKit Go.Deep

theorem two_boxes (w : World) (v0 v1 v2 v3 u0 u1 u2 u3 : Value) (t : TypeId) (q : Nat) :
    At4 (((w.alloc (.cells #[v0, v1, v2, v3] t)).alloc (.cells #[u0, u1, u2, u3] t)).drewN q) w.heap.size v0 v1 v2 v3 ∧
    At4 (((w.alloc (.cells #[v0, v1, v2, v3] t)).alloc (.cells #[u0, u1, u2, u3] t)).drewN q) (w.heap.size + 1) u0 u1 u2 u3 ∧
    Below w.heap.size w (((w.alloc (.cells #[v0, v1, v2, v3] t)).alloc (.cells #[u0, u1, u2, u3] t)).drewN q) :=
  ⟨(At4.new w _ _ _ _ _).below (below_drewN (bl_a _) q), (At4.at (w.alloc _) _ _ _ _ _ _ (by simp)).below (below_drewN (Below.refl _ _) q), below_drewN (bl_alloc (bl_a _) _) q⟩
theorem bl_q {w : World} (q : Nat) : Below w.heap.size w (w.drewN q) := below_drewN (Below.refl _ _) q

set_option maxHeartbeats 1000000 in
theorem l1compareNum_any (k n k' n' : Int) (s s' : Nat) (a a' : Option Addr) (len cap len' cap' : Nat) (w : World) (hs : s ≤ 6) (h1 : -9223372036854775808 ≤ n) (h2 : n ≤ 9223372036854775807) (hs' : s' ≤ 6) (h1' : -9223372036854775808 ≤ n') (h2' : n' ≤ 9223372036854775807) :
    Calls Tryz.prog 107 #[.agg #[.int .i64 k, .slice a len cap, .int .i64 n, .int .i64 s], .agg #[.int .i64 k', .slice a' len' cap', .int .i64 n', .int .i64 s']] w fun e w' =>
      e = .returned (.int .i64 (cmpN n s n' s')) ∧ Below w.heap.size w w' := by
  have b1 := p10_pos s
  have b2 := p10_le hs
  have b3 := p10_pos (6 - s)
  have b4 : p10 (6 - s) ≤ 1000000 := p10_le (by omega)
  have r := rest_bound n s hs
  have t := tmod_bound n (p10 s) b1
  have c1 := p10_pos s'
  have c2 := p10_le hs'
  have c3 := p10_pos (6 - s')
  have c4 : p10 (6 - s') ≤ 1000000 := p10_le (by omega)
  have r' := rest_bound n' s' hs'
  have t' := tmod_bound n' (p10 s') c1
  have hc : ((6 - s : Nat) : Int) = 6 - (s : Int) := by omega
  have hc' : ((6 - s' : Nat) : Int) = 6 - (s' : Int) := by omega
  have T1 := fun w => l1pow_any s w hs
  have T2 := fun w => l1pow_any s' w hs'
  have T3 := fun w => l1pow_any (6 - s) w (by omega)
  have T4 := fun w => l1pow_any (6 - s') w (by omega)
  rw [hc] at T3
  rw [hc'] at T4
  clear hc hc'
  unfold restOf at r r'
  have hw : wrap64 (n.tmod (p10 s) * p10 (6 - s)) = n.tmod (p10 s) * p10 (6 - s) := IntWalk.wrap64_in _ ⟨by omega, by omega⟩
  have hw' : wrap64 (n'.tmod (p10 s') * p10 (6 - s')) = n'.tmod (p10 s') * p10 (6 - s') := IntWalk.wrap64_in _ ⟨by omega, by omega⟩
  by_cases hxy : n.tdiv (p10 s) = n'.tdiv (p10 s')
  · have ec : Hid (cmpN n s n' s' = cmpI (n.tmod (p10 s) * p10 (6 - s)) (n'.tmod (p10 s') * p10 (6 - s'))) := by
      show _ = _
      unfold cmpN
      rw [cmpI_eq hxy]
      rfl
    have HX : Hid (n.tdiv (p10 s) = n'.tdiv (p10 s')) := hxy
    have hne : (n.tdiv (p10 s) != n'.tdiv (p10 s')) = false := by simp [hxy]
    clear hxy
    go_enter Tryz.func107, Tryz.ntmps107
    go_wp2_with fail
    go_quiet ((go_at_call 128; first | with_reducible exact Calls.quiet_of_same (T1 _) | with_reducible exact Calls.quiet_of_same (T2 _)))
    go_wp2_with fail
    obtain ⟨hA5, hX5, hw5⟩ := two_boxes w (.int .i64 k) (.slice a len cap) (.int .i64 n) (.int .i64 s) (.int .i64 k') (.slice a' len' cap') (.int .i64 n') (.int .i64 s') 52 nq
    generalize World.drewN _ nq = w5 at hA5 hX5 hw5 ⊢
    obtain ⟨y0, y1, y2, y3, y4⟩ := id hA5
    obtain ⟨x0, x1, x2, x3, x4⟩ := id hX5
    go_quiet ((go_at_call 128; first | with_reducible exact Calls.quiet_of_same (T1 _) | with_reducible exact Calls.quiet_of_same (T3 _)))
    go_wp2_with fail
    have hA6 := hA5.below (bl_q nq)
    have hX6 := hX5.below (bl_q nq)
    have hw6 := bl_trans hw5 (bl_q nq)
    clear hA5 hX5 hw5 y0 y1 y2 y3 y4 x0 x1 x2 x3 x4
    generalize World.drewN w5 nq = w6 at hA6 hX6 hw6 ⊢
    obtain ⟨y0, y1, y2, y3, y4⟩ := id hA6
    obtain ⟨x0, x1, x2, x3, x4⟩ := id hX6
    go_quiet ((go_at_call 128; first | with_reducible exact Calls.quiet_of_same (T2 _) | with_reducible exact Calls.quiet_of_same (T4 _)))
    go_wp2_with fail
    refine (side_any _ _ _).mono ?_
    rintro e w1 ⟨rfl, rfl⟩
    go_wp2
    go_ret
    refine ⟨?_, bl_trans hw6 (bl_q _)⟩
    rw [ec.out, ← sideI_lt]
    rfl
  · have ec : Hid (cmpN n s n' s' = cmpI (n.tdiv (p10 s)) (n'.tdiv (p10 s'))) := by
      show _ = _
      unfold cmpN orI
      rw [if_neg]
      unfold cmpI
      split
      · decide
      · split
        · decide
        · omega
    have HX : Hid (n.tdiv (p10 s) ≠ n'.tdiv (p10 s')) := hxy
    have hne : (n.tdiv (p10 s) != n'.tdiv (p10 s')) = true := by simp [hxy]
    clear hxy
    go_enter Tryz.func107, Tryz.ntmps107
    go_wp2_with fail
    go_quiet ((go_at_call 128; first | with_reducible exact Calls.quiet_of_same (T1 _) | with_reducible exact Calls.quiet_of_same (T2 _)))
    go_wp2_with fail
    refine (side_any _ _ _).mono ?_
    rintro e w1 ⟨rfl, rfl⟩
    go_wp2
    go_ret
    refine ⟨?_, below_drewN (bl_alloc (bl_a _) _) _⟩
    rw [ec.out, ← sideI_ne _ _ HX.out]
    rfl

theorem cmpB_nil : cmpB [] [] = 0 := rfl
theorem cmpN_blank (n n' : Int) : cmpN n 0 n' 0 = cmpI n n' := by
  have e1 : p10 0 = 1 := rfl
  have e2 : restOf n 0 = 0 := by simp [restOf, e1]
  have e3 : restOf n' 0 = 0 := by simp [restOf, e1]
  unfold cmpN
  rw [e1, e2, e3, Int.tdiv_one, Int.tdiv_one]
  unfold orI
  split
  · rename_i h; rw [h]; rfl
  · rfl

/-- The model's comparing of two strings is the program's. -/
theorem less_cmp : ∀ (xs ys : List UInt8), Lib.compareBytes xs ys = if Op.bytesLess xs ys then -1 else if (!Op.bytesLess xs ys && !(xs == ys)) then 1 else 0 := by
  intro xs
  induction xs with
  | nil => intro ys; cases ys <;> simp [Lib.compareBytes, Op.bytesLess]
  | cons x xs ih =>
    intro ys
    cases ys with
    | nil => simp [Lib.compareBytes, Op.bytesLess]
    | cons y ys =>
      unfold Lib.compareBytes
      by_cases h1 : x < y
      · simp [h1, Op.bytesLess]
      · by_cases h2 : y < x
        · have hne : x ≠ y := by intro e; subst e; exact h1 h2
          simp [h1, h2, Op.bytesLess, hne]
        · have hxy : x = y := UInt8.le_antisymm (UInt8.not_lt.1 h2) (UInt8.not_lt.1 h1)
          subst hxy
          rw [ih]
          simp [h1, Op.bytesLess]
end Go.Proofs.YtdcaicoomldmgaaGreatDoor

/- CmpF -/
namespace Go.Proofs.YtdcaicoomldmgaaGreatDoor
open Go.RowKit Go.Deep

theorem sideI_str (bs bs' : List Int) : sideI (Op.bytesLess (strOfNums bs).toList (strOfNums bs').toList) (!Op.bytesLess (strOfNums bs).toList (strOfNums bs').toList && !((strOfNums bs).toList == (strOfNums bs').toList)) = cmpB bs bs' := by
  unfold cmpB
  rw [less_cmp, Lib.strOfNums_toList, Lib.strOfNums_toList]
  rfl

theorem termOk_blank {n s : Int} {bs : List Int} (h : termOk 1 bs n s = true) : bs = [] ∧ s = 0 := by
  simp [termOk] at h
  exact ⟨h.1.1.1, h.2⟩
theorem termOk_num {n s : Int} {bs : List Int} (h : termOk 3 bs n s = true) : bs = [] := by
  simp [termOk] at h
  exact h.1
theorem termOk_str {k n s : Int} {bs : List Int} (h : termOk k bs n s = true) (h1 : k ≠ 1) (h3 : k ≠ 3) : n = 0 ∧ s = 0 := by
  by_cases k0 : k = 0
  · subst k0
    simp [termOk] at h
    exact ⟨h.1.2, h.2⟩
  by_cases k2 : k = 2
  · subst k2
    simp [termOk] at h
    exact ⟨h.1.2, h.2⟩
  · simp [termOk, k0, h1, k2, h3] at h
theorem cmpI_ne {x y : Int} (h : x ≠ y) : cmpI x y ≠ 0 := by
  unfold cmpI
  split
  · decide
  · split
    · decide
    · omega

set_option maxHeartbeats 1000000 in
theorem l1compare_any (k n k' n' : Int) (s s' : Nat) (a a' : Option Addr) (len cap len' cap' : Nat) (bs bs' : List Int) (w : World) (hB : Bs w a len bs) (hB' : Bs w a' len' bs')
    (hs : s ≤ 6) (h1 : -9223372036854775808 ≤ n) (h2 : n ≤ 9223372036854775807) (hs' : s' ≤ 6) (h1' : -9223372036854775808 ≤ n') (h2' : n' ≤ 9223372036854775807) (e1 : termOk k bs n s = true) (e2 : termOk k' bs' n' s' = true) :
    Calls Tryz.prog 66 #[.agg #[.int .i64 k, .slice a len cap, .int .i64 n, .int .i64 s], .agg #[.int .i64 k', .slice a' len' cap', .int .i64 n', .int .i64 s']] w fun e w' =>
      e = .returned (.int .i64 (cmp3 (cmpI k k') (cmpB bs bs') (cmpN n s n' s'))) ∧ Below w.heap.size w w' := by
  by_cases hk : k = k'
  · subst hk
    have c0 : cmpI k k = 0 := cmpI_eq rfl
    by_cases k1 : k = 1
    · subst k1
      obtain ⟨rfl, g1⟩ := termOk_blank e1
      obtain ⟨rfl, g2⟩ := termOk_blank e2
      obtain rfl : s = 0 := by omega
      obtain rfl : s' = 0 := by omega
      have ec : Hid (cmp3 (cmpI 1 1) (cmpB [] []) (cmpN n (0 : Nat) n' (0 : Nat)) = cmpI n n') := by
        show _ = _
        rw [c0, cmpB_nil, cmpN_blank]
        rfl
      clear c0 e1 e2 hB hB' g1 g2
      go_enter Tryz.func66, Tryz.ntmps66
      go_wp2_with fail
      refine (side_any _ _ _).mono ?_
      rintro e w1 ⟨rfl, rfl⟩
      go_wp2
      go_ret
      refine ⟨?_, bl_alloc (bl_a _) _⟩
      rw [ec.out, ← sideI_lt]
      rfl
    by_cases k3 : k = 3
    · subst k3
      obtain rfl := termOk_num e1
      obtain rfl := termOk_num e2
      have ec : Hid (cmp3 (cmpI 3 3) (cmpB [] []) (cmpN n s n' s') = cmpN n s n' s') := by
        show _ = _
        rw [c0, cmpB_nil]
        rfl
      clear c0 e1 e2 hB hB'
      go_enter Tryz.func66, Tryz.ntmps66
      go_wp2_with fail
      refine (l1compareNum_any 3 n 3 n' s s' a a' len cap len' cap' _ hs h1 h2 hs' h1' h2').mono ?_
      rintro e w1 ⟨rfl, hb1⟩
      go_wp2
      go_ret
      exact ⟨by rw [ec.out]; rfl, bl_trans (bl_alloc (bl_a _) _) hb1⟩
    · obtain ⟨rfl, g1⟩ := termOk_str e1 k1 k3
      obtain ⟨rfl, g2⟩ := termOk_str e2 k1 k3
      obtain rfl : s = 0 := by omega
      obtain rfl : s' = 0 := by omega
      have ec : Hid (cmp3 (cmpI k k) (cmpB bs bs') (cmpN 0 (0 : Nat) 0 (0 : Nat)) = cmpB bs bs') := by
        show _ = _
        rw [c0, cmpN_blank, cmpI_eq rfl]
        unfold cmp3 orI
        simp
        intro h; exact h.symm
      have v1 : ∀ o1 o2, (convert 45 9 (.slice a len cap)).run Tryz.prog ((w.alloc o1).alloc o2) = .ok (.string (strOfNums bs)) ((w.alloc o1).alloc o2) := fun o1 o2 => (hB.below (bl_alloc (bl_a _) _)).str
      have v2 : ∀ o1 o2, (convert 45 9 (.slice a' len' cap')).run Tryz.prog ((w.alloc o1).alloc o2) = .ok (.string (strOfNums bs')) ((w.alloc o1).alloc o2) := fun o1 o2 => (hB'.below (bl_alloc (bl_a _) _)).str
      have g1' : (k == 1) = false := by simp; omega
      have g3' : (k == 3) = false := by simp; omega
      clear c0 e1 e2 hB hB' g1 g2 k1 k3
      go_enter Tryz.func66, Tryz.ntmps66
      go_wp2_with fail
      refine (side_any _ _ _).mono ?_
      rintro e w1 ⟨rfl, rfl⟩
      go_wp2
      go_ret
      refine ⟨?_, bl_alloc (bl_a _) _⟩
      rw [ec.out, ← sideI_str]
      rfl
  · have ec : Hid (cmp3 (cmpI k k') (cmpB bs bs') (cmpN n s n' s') = cmpI k k') := by
      show orI _ _ = _
      rw [orI, if_neg (cmpI_ne hk)]
    have HK : Hid (k ≠ k') := hk
    have hk' : (k != k') = true := by simp [hk]
    clear hk e1 e2 hB hB'
    go_enter Tryz.func66, Tryz.ntmps66
    go_wp2_with fail
    refine (side_any _ _ _).mono ?_
    rintro e w1 ⟨rfl, rfl⟩
    go_wp2
    go_ret
    refine ⟨?_, bl_alloc (bl_a _) _⟩
    rw [ec.out, ← sideI_ne _ _ HK.out]
    rfl

end Go.Proofs.YtdcaicoomldmgaaGreatDoor
