/- Texts put together: TokD TokE CmpA CmpB CmpC -/
import Derived.Test.YtdcaicoomldmgaaGreatDoorMk02
import Derived.Deep.RegionWith
import Derived.Lib.Bytealg
import Derived.Lib.Bytes
import Derived.Laws.BytesArg
import Derived.Laws.Externs
/- TokD -/
namespace Go.Proofs.YtdcaicoomldmgaaGreatDoor
open Go.RowKit Go.Deep

/-- A term's number. -/
theorem decimal_any (k n s : Int) (a : Option Addr) (len cap : Nat) (w : World) :
    Calls Tryz.prog 96 #[.agg #[.int .i64 k, .slice a len cap, .int .i64 n, .int .i64 s]] w fun e w' => e = .returned (.agg #[.int .i64 n, .int .i64 s]) ∧ ∃ o1 o2, w' = (w.alloc o1).alloc o2 := by
  go_enter Tryz.func96, Tryz.ntmps96
  go_wp2
  simp [bodyPost, results, Tryz.results96, go_sem]
  exact ⟨_, _, rfl⟩

set_option maxRecDepth 10000 in
theorem implTermOk_any (k n s : Int) (a : Option Addr) (len cap : Nat) (bs : List Int) (w : World) (hB : Bs w a len bs) (h1 : -9223372036854775808 ≤ n) (h2 : n ≤ 9223372036854775807) (h3 : -9223372036854775808 ≤ s) (h4 : s ≤ 9223372036854775807) :
    Calls Tryz.prog 58 #[.agg #[.int .i64 k, .slice a len cap, .int .i64 n, .int .i64 s]] w fun e w' => e = .returned (.bool (termOk k bs n s)) ∧ Below w.heap.size w w' := by
  have hB1 : ∀ o1, Bs (w.alloc o1) a len bs := fun o1 => hB.below (bl_alloc (Below.refl _ _) _)
  have HL : Hid (bs.length = len) := hB.1
  have hlm := hB.2.1
  clear hB
  by_cases k0 : k = 0
  · subst k0
    generalize hg : termOk 0 bs n s = r
    have HG : Hid (termOk 0 bs n s = r) := hg
    clear hg
    go_enter Tryz.func58, Tryz.ntmps58
    go_wp2_with (go_at_call 94; refine (isName_any a len cap bs _ (hB1 _)).mono ?_; rintro e w1 ⟨rfl, rfl⟩)
    all_goals go_ret
    all_goals (refine ⟨congrArg (fun b => Ending.returned (Value.bool b)) ?_, bl_alloc (Below.refl _ _) _⟩; rw [← HG.out]; clear HG; go_light; simp_all [termOk])
  by_cases k1 : k = 1
  · subst k1
    generalize hg : termOk 1 bs n s = r
    have HG : Hid (termOk 1 bs n s = r) := hg
    clear hg
    go_enter Tryz.func58, Tryz.ntmps58
    go_wp2_with (go_at_call 62; refine (within_any _ _ _ _).mono ?_; rintro e w1 ⟨rfl, rfl⟩)
    all_goals go_ret
    all_goals (refine ⟨congrArg (fun b => Ending.returned (Value.bool b)) ?_, bl_alloc (Below.refl _ _) _⟩; have hg := HG.out; have hl := HL.out; rw [← hg, Bool.eq_iff_iff]; go_light; simp [termOk, -List.length_eq_zero_iff]; try omega)
  by_cases k2 : k = 2
  · subst k2
    generalize hg : termOk 2 bs n s = r
    have HG : Hid (termOk 2 bs n s = r) := hg
    clear hg
    go_enter Tryz.func58, Tryz.ntmps58
    go_wp2_with (go_at_call 95; refine (isText_any a len cap bs _ (hB1 _)).mono ?_; rintro e w1 ⟨rfl, rfl⟩)
    all_goals go_ret
    all_goals (refine ⟨congrArg (fun b => Ending.returned (Value.bool b)) ?_, bl_alloc (Below.refl _ _) _⟩; rw [← HG.out]; clear HG; go_light; simp_all [termOk])
  by_cases k3 : k = 3
  · subst k3
    generalize hg : termOk 3 bs n s = r
    have HG : Hid (termOk 3 bs n s = r) := hg
    clear hg
    by_cases hl0 : len = 0
    · subst hl0
      go_enter Tryz.func58, Tryz.ntmps58
      go_wp2_with (first | (go_at_call 96; refine (decimal_any _ _ _ _ _ _ _).mono ?_; rintro e w1 ⟨rfl, o1, o2, rfl⟩) | (go_at_call 97; refine (decOk_any _ _ _ h1 h2 h3 h4).mono ?_; rintro e w2 ⟨rfl, o3, rfl⟩))
      go_ret
      refine ⟨congrArg (fun b => Ending.returned (Value.bool b)) ?_, ?_⟩
      · have hg := HG.out
        have hl := HL.out
        rw [← hg]
        simp [termOk, hl]
      · repeat (first | with_reducible exact Below.refl _ _ | with_reducible apply bl_alloc | with_reducible apply Below.drew)
    · have hl0' : ((len : Int) == 0) = false := by simp; omega
      go_enter Tryz.func58, Tryz.ntmps58
      go_wp2
      go_ret
      refine ⟨congrArg (fun b => Ending.returned (Value.bool b)) ?_, ?_⟩
      · have hg := HG.out
        have hl := HL.out
        have hz : (bs.length == 0) = false := by simp only [beq_eq_false_iff_ne, ne_eq]; omega
        rw [← hg]
        simp [termOk, hz, -List.length_eq_zero_iff, -beq_eq_false_iff_ne]
      · repeat (first | with_reducible exact Below.refl _ _ | with_reducible apply bl_alloc | with_reducible apply Below.drew)
  · have e : termOk k bs n s = false := by simp [termOk, k0, k1, k2, k3]
    rw [e]
    have g0 : (k == 0) = false := by simp; omega
    have g1 : (k == 1) = false := by simp; omega
    have g2 : (k == 2) = false := by simp; omega
    have g3 : (k == 3) = false := by simp; omega
    clear k0 k1 k2 k3 e
    go_enter Tryz.func58, Tryz.ntmps58
    go_wp2
    go_ret
    exact ⟨rfl, bl_alloc (Below.refl _ _) _⟩
end Go.Proofs.YtdcaicoomldmgaaGreatDoor

/- TokE -/
namespace Go.Proofs.YtdcaicoomldmgaaGreatDoor
open Go.RowKit Go.Deep

theorem specTermOk_any (k n s : Int) (a : Option Addr) (len cap : Nat) (bs : List Int) (w : World) (hB : Bs w a len bs) (h1 : -9223372036854775808 ≤ n) (h2 : n ≤ 9223372036854775807) :
    Calls Tryz.prog 53 #[.agg #[.int .i64 k, .slice a len cap, .int .i64 n, .int .i64 s]] w fun e w' => e = .returned (.bool (termOk k bs n s)) ∧ ∃ o1, w' = w.alloc o1 := by
  by_cases k0 : k = 0
  · subst k0; exact specTermOk_name n s a len cap bs w hB
  by_cases k1 : k = 1
  · subst k1; exact specTermOk_blank n s a len cap bs w hB
  by_cases k2 : k = 2
  · subst k2; exact specTermOk_text n s a len cap bs w hB
  by_cases k3 : k = 3
  · subst k3; exact specTermOk_number n s a len cap bs w hB h1 h2
  · exact specTermOk_other k n s a len cap bs w k0 k1 k2 k3

/-- A struct of four fields at the head of block b. -/
def At4 (w : World) (b : Nat) (v0 v1 v2 v3 : Value) : Prop :=
  b < w.heap.size ∧ w.cell? ⟨b, 0, none⟩ = some v0 ∧ w.cell? ⟨b, 1, none⟩ = some v1 ∧ w.cell? ⟨b, 2, none⟩ = some v2 ∧ w.cell? ⟨b, 3, none⟩ = some v3
theorem At4.below {w w' : World} {b : Nat} {v0 v1 v2 v3 : Value} (h : At4 w b v0 v1 v2 v3) (hb : Below w.heap.size w w') : At4 w' b v0 v1 v2 v3 := by
  obtain ⟨hl, h0, h1, h2, h3⟩ := h
  refine ⟨Nat.lt_of_lt_of_le hl hb.size, ?_, ?_, ?_, ?_⟩
  · exact (hb.cell (p := ⟨b, 0, none⟩) hl).trans h0
  · exact (hb.cell (p := ⟨b, 1, none⟩) hl).trans h1
  · exact (hb.cell (p := ⟨b, 2, none⟩) hl).trans h2
  · exact (hb.cell (p := ⟨b, 3, none⟩) hl).trans h3
theorem At4.new (w : World) (v0 v1 v2 v3 : Value) (t : TypeId) : At4 (w.alloc (.cells #[v0, v1, v2, v3] t)) w.heap.size v0 v1 v2 v3 := by
  refine ⟨by simp, ?_, ?_, ?_, ?_⟩ <;> simp [go_sem]
theorem bl_a {w : World} (o : Obj) : Below w.heap.size w (w.alloc o) := bl_alloc (Below.refl _ _) o

end Go.Proofs.YtdcaicoomldmgaaGreatDoor

/- CmpA -/
namespace Go.Proofs.YtdcaicoomldmgaaGreatDoor
open Go.RowKit Go.Deep

/-- 10 to the k. -/
def p10 : Nat → Int
  | 0 => 1
  | k + 1 => p10 k * 10
theorem p10_pos (k : Nat) : 1 ≤ p10 k := by
  induction k with
  | zero => simp [p10]
  | succ k ih => unfold p10; omega
theorem p10_mono {j k : Nat} (h : j ≤ k) : p10 j ≤ p10 k := by
  induction h with
  | refl => exact Int.le_refl _
  | @step m _ ih =>
    have e : p10 m.succ = p10 m * 10 := rfl
    have := p10_pos m
    omega
theorem p10_le {k : Nat} (h : k ≤ 6) : p10 k ≤ 1000000 := by
  have := p10_mono h
  have e : p10 6 = 1000000 := by decide
  omega

theorem tenTo_any (k : Nat) (w : World) (hk : k ≤ 6) : Calls Tryz.prog 125 #[.int .i64 k] w fun e w' => e = .returned (.int .i64 (p10 k)) ∧ w' = w := by
  go_enter Tryz.func125, Tryz.ntmps125
  go_wp2
  go_loop [3, 5] (fun n i => ∃ j : Nat, j ≤ k ∧ n = .int .i64 (p10 j) ∧ i = .int .i64 j) (fun _ i => k - (intOf i).toNat)
  case atStart => exact ⟨0, Nat.zero_le _, rfl, rfl⟩
  case round =>
    obtain ⟨j, hj, rfl, rfl⟩ := hrel
    have b1 := p10_pos j
    have b2 := p10_le (Nat.le_trans hj hk)
    go_wp2
    · go_round
      case rel => exact ⟨j + 1, by omega, by rfl, by go_num⟩
      case measure => simp [intOf]; omega
    · go_ret
      have e : j = k := by omega
      rw [e]
      exact ⟨rfl, rfl⟩

theorem l1pow_any (k : Nat) (w : World) (hk : k ≤ 6) : Calls Tryz.prog 128 #[.int .i64 k] w fun e w' => e = .returned (.int .i64 (p10 k)) ∧ w' = w := by
  go_enter Tryz.func128, Tryz.ntmps128
  go_wp2
  go_loop [3, 4] (fun n i => ∃ j : Nat, j ≤ k ∧ n = .int .i64 (p10 j) ∧ i = .int .i64 j) (fun _ i => k - (intOf i).toNat)
  case atStart => exact ⟨0, Nat.zero_le _, rfl, rfl⟩
  case round =>
    obtain ⟨j, hj, rfl, rfl⟩ := hrel
    have b1 := p10_pos j
    have b2 := p10_le (Nat.le_trans hj hk)
    go_wp2
    · go_round
      case rel => exact ⟨j + 1, by omega, by rfl, by go_num⟩
      case measure => simp [intOf]; omega
    · go_ret
      have e : j = k := by omega
      rw [e]
      exact ⟨rfl, rfl⟩

/-- -1, 0, 1. -/
def cmpI (x y : Int) : Int := if x < y then -1 else if y < x then 1 else 0
theorem cmpI_lt {x y : Int} (h : x < y) : cmpI x y = -1 := by simp [cmpI, h]
theorem cmpI_gt {x y : Int} (h : y < x) : cmpI x y = 1 := by simp [cmpI, h]; omega
theorem cmpI_eq {x y : Int} (h : x = y) : cmpI x y = 0 := by simp [cmpI, h]

theorem isNaN_any (x : Int) (w : World) : Calls Tryz.prog 162 #[.int .i64 x] w fun e w' => e = .returned (.bool false) ∧ w' = w := by
  go_enter Tryz.func162, Tryz.ntmps162
  go_wp2
  go_ret
  exact ⟨rfl, rfl⟩
theorem cmpInt_any (x y : Int) (w : World) : Calls Tryz.prog 139 #[.int .i64 x, .int .i64 y] w fun e w' => e = .returned (.int .i64 (cmpI x y)) ∧ w' = w := by
  by_cases h : x < y
  · rw [cmpI_lt h]
    go_enter Tryz.func139, Tryz.ntmps139
    go_wp2_with (go_at_call 162; refine (isNaN_any _ _).mono ?_; rintro e w1 ⟨rfl, rfl⟩)
    go_ret
    exact ⟨rfl, rfl⟩
  · by_cases h2 : y < x
    · rw [cmpI_gt h2]
      go_enter Tryz.func139, Tryz.ntmps139
      go_wp2_with (go_at_call 162; refine (isNaN_any _ _).mono ?_; rintro e w1 ⟨rfl, rfl⟩)
      go_ret
      exact ⟨rfl, rfl⟩
    · rw [cmpI_eq (by omega)]
      go_enter Tryz.func139, Tryz.ntmps139
      go_wp2_with (go_at_call 162; refine (isNaN_any _ _).mono ?_; rintro e w1 ⟨rfl, rfl⟩)
      go_ret
      exact ⟨rfl, rfl⟩
def sideI (p q : Bool) : Int := if p then -1 else if q then 1 else 0
theorem sideI_lt (x y : Int) : sideI (decide (x < y)) (decide (y < x)) = cmpI x y := by simp [sideI, cmpI]
theorem sideI_ne (x y : Int) (h : x ≠ y) : sideI (decide (x < y)) true = cmpI x y := by
  by_cases h1 : x < y
  · simp [sideI, cmpI, h1]
  · have : y < x := by omega
    simp [sideI, cmpI, h1, this]
theorem side_any (p q : Bool) (w : World) : Calls Tryz.prog 106 #[.bool p, .bool q] w fun e w' => e = .returned (.int .i64 (sideI p q)) ∧ w' = w := by
  cases p <;> cases q
  all_goals (go_enter Tryz.func106, Tryz.ntmps106; go_wp2; go_ret; exact ⟨rfl, rfl⟩)

/-- The first of two that is not nought. -/
def orI (x y : Int) : Int := if x = 0 then y else x
theorem cmpOr_any (x y : Int) (b : Nat) (w : World) (h0 : w.cell? ⟨b, 0, none⟩ = some (.int .i64 x)) (h1 : w.cell? ⟨b, 1, none⟩ = some (.int .i64 y)) :
    Calls Tryz.prog 111 #[.slice (some ⟨b, 0, none⟩) 2 2] w fun e w' => e = .returned (.int .i64 (orI x y)) ∧ w' = w := by
  by_cases hx : x = 0
  · subst hx
    by_cases hy : y = 0
    · subst hy
      have e0 : orI 0 0 = 0 := rfl
      rw [e0]
      go_enter Tryz.func111, Tryz.ntmps111
      go_wp2
      refine wp_loop_rounds 3 ?_
      rw [rounds_succ]
      go_wp2
      rw [rounds_succ]
      go_wp2
      rw [rounds_succ]
      go_wp2
      go_ret
      exact ⟨rfl, rfl⟩
    · have hy' : (y != 0) = true := by simp; omega
      have e0 : orI 0 y = y := rfl
      rw [e0]
      clear hy
      go_enter Tryz.func111, Tryz.ntmps111
      go_wp2
      refine wp_loop_rounds 2 ?_
      rw [rounds_succ]
      go_wp2
      rw [rounds_succ]
      go_wp2
      go_ret
      exact ⟨rfl, rfl⟩
  · have hx' : (x != 0) = true := by simp; omega
    have e0 : orI x y = x := by simp [orI, hx]
    rw [e0]
    clear hx
    go_enter Tryz.func111, Tryz.ntmps111
    go_wp2
    refine wp_loop_rounds 1 ?_
    rw [rounds_succ]
    go_wp2
    go_ret
    exact ⟨rfl, rfl⟩
end Go.Proofs.YtdcaicoomldmgaaGreatDoor

/- CmpB -/
namespace Go.Proofs.YtdcaicoomldmgaaGreatDoor
open Go.RowKit Go.Deep

/-- What is behind the point, as six digits. -/
def restOf (n : Int) (s : Nat) : Int := n.tmod (p10 s) * p10 (6 - s)
theorem tmod_bound (n q : Int) (hq : 1 ≤ q) : -q < n.tmod q ∧ n.tmod q < q := by
  have h1 := Int.tmod_lt_of_pos n (b := q) (by omega)
  have h2 : -q < n.tmod q := by
    have := Int.lt_tmod_of_pos n (b := q) (by omega)
    omega
  exact ⟨h2, h1⟩
theorem rest_bound (n : Int) (s : Nat) (hs : s ≤ 6) : -1000000 < restOf n s ∧ restOf n s < 1000000 := by
  have h : s = 0 ∨ s = 1 ∨ s = 2 ∨ s = 3 ∨ s = 4 ∨ s = 5 ∨ s = 6 := by omega
  rcases h with rfl | rfl | rfl | rfl | rfl | rfl | rfl
  · have t := tmod_bound n 1 (by omega); simp [restOf, p10]
  · have t := tmod_bound n 10 (by omega); simp [restOf, p10]; omega
  · have t := tmod_bound n 100 (by omega); simp [restOf, p10]; omega
  · have t := tmod_bound n 1000 (by omega); simp [restOf, p10]; omega
  · have t := tmod_bound n 10000 (by omega); simp [restOf, p10]; omega
  · have t := tmod_bound n 100000 (by omega); simp [restOf, p10]; omega
  · have t := tmod_bound n 1000000 (by omega); simp [restOf, p10]; omega

theorem parts_any (n : Int) (s : Nat) (w : World) (hs : s ≤ 6) (h1 : -9223372036854775808 ≤ n) (h2 : n ≤ 9223372036854775807) :
    Calls Tryz.prog 164 #[.agg #[.int .i64 n, .int .i64 s]] w fun e w' =>
      e = .returned (.tuple #[.int .i64 (n.tdiv (p10 s)), .int .i64 (restOf n s)]) ∧ ∃ q o1, w' = (w.alloc o1).drewN q := by
  have b1 := p10_pos s
  have b2 := p10_le hs
  have b3 := p10_pos (6 - s)
  have b4 : p10 (6 - s) ≤ 1000000 := p10_le (by omega)
  have r := rest_bound n s hs
  have t := tmod_bound n (p10 s) b1
  have hc : ((6 - s : Nat) : Int) = 6 - (s : Int) := by omega
  have T := fun w => tenTo_any (6 - s) w (by omega)
  rw [hc] at T
  unfold restOf at r ⊢
  have hw : wrap64 (n.tmod (p10 s) * p10 (6 - s)) = n.tmod (p10 s) * p10 (6 - s) := IntWalk.wrap64_in _ ⟨by omega, by omega⟩
  go_enter Tryz.func164, Tryz.ntmps164
  go_wp2_with (go_at_call 125; refine (tenTo_any s _ hs).mono ?_; rintro e w1 ⟨rfl, rfl⟩)
  go_quiet ((go_at_call 125; refine Calls.quiet_of_same (T _)))
  go_wp2
  go_ret2
  exact ⟨rfl, _, _, rfl⟩

/-- Two numbers: what is whole first, then the rest. -/
def cmpN (n : Int) (s : Nat) (n' : Int) (s' : Nat) : Int := orI (cmpI (n.tdiv (p10 s)) (n'.tdiv (p10 s'))) (cmpI (restOf n s) (restOf n' s'))

theorem decCompare_any (n n' : Int) (s s' : Nat) (w : World) (hs : s ≤ 6) (h1 : -9223372036854775808 ≤ n) (h2 : n ≤ 9223372036854775807) (hs' : s' ≤ 6) (h1' : -9223372036854775808 ≤ n') (h2' : n' ≤ 9223372036854775807) :
    Calls Tryz.prog 141 #[.agg #[.int .i64 n, .int .i64 s], .agg #[.int .i64 n', .int .i64 s']] w fun e w' =>
      e = .returned (.int .i64 (cmpN n s n' s')) ∧ Below w.heap.size w w' := by
  unfold cmpN
  go_enter Tryz.func141, Tryz.ntmps141
  go_wp2_with fail
  refine (parts_any n s _ hs h1 h2).mono ?_
  rintro e w1 ⟨rfl, q1, o1, rfl⟩
  go_wp2_with fail
  refine (parts_any n' s' _ hs' h1' h2').mono ?_
  rintro e w2 ⟨rfl, q2, o2, rfl⟩
  go_wp2_with fail
  refine (cmpInt_any _ _ _).mono ?_
  rintro e w3 ⟨rfl, rfl⟩
  go_wp2_with fail
  refine (cmpInt_any _ _ _).mono ?_
  rintro e w4 ⟨rfl, rfl⟩
  go_wp2_with fail
  refine (cmpOr_any _ _ _ _ (by simp [go_sem]; rfl) (by simp [go_sem]; rfl)).mono ?_
  rintro e w5 ⟨rfl, rfl⟩
  go_wp2
  go_ret
  refine ⟨rfl, ?_⟩
  repeat (first | with_reducible exact Below.refl _ _ | with_reducible apply bl_alloc | with_reducible apply Below.drew | with_reducible apply below_drewN)

theorem compareKind_any (k n s k' n' s' : Int) (a a' : Option Addr) (len cap len' cap' : Nat) (w : World) :
    Calls Tryz.prog 115 #[.agg #[.int .i64 k, .slice a len cap, .int .i64 n, .int .i64 s], .agg #[.int .i64 k', .slice a' len' cap', .int .i64 n', .int .i64 s']] w fun e w' =>
      e = .returned (.int .i64 (cmpI k k')) ∧ Below w.heap.size w w' := by
  go_enter Tryz.func115, Tryz.ntmps115
  go_wp2_with fail
  refine (cmpInt_any _ _ _).mono ?_
  rintro e w1 ⟨rfl, rfl⟩
  go_wp2
  go_ret
  refine ⟨rfl, ?_⟩
  repeat (first | with_reducible exact Below.refl _ _ | with_reducible apply bl_alloc | with_reducible apply Below.drew | with_reducible apply below_drewN)

theorem decimalBl_any (k n s : Int) (a : Option Addr) (len cap : Nat) (w : World) :
    Calls Tryz.prog 96 #[.agg #[.int .i64 k, .slice a len cap, .int .i64 n, .int .i64 s]] w fun e w' => e = .returned (.agg #[.int .i64 n, .int .i64 s]) ∧ Below w.heap.size w w' :=
  (decimal_any k n s a len cap w).mono fun _ _ ⟨h, _, _, e⟩ => ⟨h, by subst e; exact bl_alloc (bl_a _) _⟩

set_option maxHeartbeats 1000000 in
theorem compareNumber_any (k n k' n' : Int) (s s' : Nat) (a a' : Option Addr) (len cap len' cap' : Nat) (w : World) (hs : s ≤ 6) (h1 : -9223372036854775808 ≤ n) (h2 : n ≤ 9223372036854775807) (hs' : s' ≤ 6) (h1' : -9223372036854775808 ≤ n') (h2' : n' ≤ 9223372036854775807) :
    Calls Tryz.prog 117 #[.agg #[.int .i64 k, .slice a len cap, .int .i64 n, .int .i64 s], .agg #[.int .i64 k', .slice a' len' cap', .int .i64 n', .int .i64 s']] w fun e w' =>
      e = .returned (.int .i64 (cmpN n s n' s')) ∧ Below w.heap.size w w' := by
  go_enter Tryz.func117, Tryz.ntmps117
  go_wp2_with fail
  go_region_with (first
    | (go_at_call 96; refine (decimal_any _ _ _ _ _ _ _).mono ?_; rintro e w1 ⟨rfl, o1, o2, rfl⟩)
    | (go_at_call 141; refine (decCompare_any n n' s s' _ hs h1 h2 hs' h1' h2').mono ?_; rintro e w2 ⟨rfl, hb2⟩))
  all_goals (go_wp2; go_ret; refine ⟨rfl, bl_trans ?_ hb2⟩; repeat (first | with_reducible exact Below.refl _ _ | with_reducible apply bl_alloc | with_reducible apply Below.drew | with_reducible apply below_drewN))
end Go.Proofs.YtdcaicoomldmgaaGreatDoor

/- CmpC -/
namespace Go.Proofs.YtdcaicoomldmgaaGreatDoor
open Go.RowKit Go.Deep

/-- Two texts by their bytes. -/
def cmpB (xs ys : List Int) : Int := Lib.compareBytes (Lib.bytesOf xs) (Lib.bytesOf ys)

theorem run_loadBytes {P : Program} (w : World) (b : Nat) : ∀ (n off : Nat) (bs : List Int) (acc : ByteArray), bs.length = n → (∀ i, i < n → w.cell? ⟨b, off + i, none⟩ = some (.int .u8 (bs[i]?.getD 0))) →
    (Extern.Bytes.loadBytes ⟨b, off, none⟩ n acc).run P w = .ok (bs.foldl (fun r n => r.push (UInt8.ofNat n.toNat)) acc) w
  | 0, off, bs, acc, hl, _ => by
    rw [List.eq_nil_of_length_eq_zero hl]
    rfl
  | n + 1, off, [], acc, hl, _ => by simp at hl
  | n + 1, off, x :: bs, acc, hl, hc => by
    have h0 : w.cell? ⟨b, off, none⟩ = some (.int .u8 x) := by simpa using hc 0 (by omega)
    have ih := run_loadBytes (P := P) w b n (off + 1) bs (acc.push (UInt8.ofNat x.toNat)) (by simpa using hl) (fun i hi => by
      have := hc (i + 1) (by omega)
      simp at this
      rw [show off + 1 + i = off + (i + 1) by omega]
      exact this)
    have ea : (⟨b, off, none⟩ : Addr).add 1 = ⟨b, off + 1, none⟩ := by simp [Addr.add]
    have hld : (load ⟨b, off, none⟩).run P w = .ok (.int .u8 x) w := by simp [go_sem, h0]
    unfold Extern.Bytes.loadBytes
    simp only [Sem.run_bind, hld, Result.andThen]
    rw [ea]
    exact ih

theorem Bs.bytes {P : Program} {w : World} {a : Option Addr} {len cap : Nat} {bs : List Int} (h : Bs w a len bs) : (Extern.Bytes.bytesOf (.slice a len cap)).run P w = .ok (strOfNums bs) w := by
  obtain ⟨hl, _, _, h4⟩ := h
  rcases h4 with h4 | ⟨b, off, rfl, _, hc⟩
  · subst h4
    have e : bs = [] := List.eq_nil_of_length_eq_zero hl
    subst e
    cases a with
    | none => rfl
    | some x => rfl
  · have := run_loadBytes (P := P) w b len off bs .empty hl hc
    show (Extern.Bytes.loadBytes ⟨b, off, none⟩ len .empty).run P w = _
    rw [this, foldl_push_bytes]
    simp [strOfNums, ByteArray.empty, ByteArray.emptyWithCapacity]
    rfl

theorem bytealg_any (a a' : Option Addr) (len cap len' cap' : Nat) (bs bs' : List Int) (w : World) (hB : Bs w a len bs) (hB' : Bs w a' len' bs') :
    (callFunc 163 #[.slice a len cap, .slice a' len' cap']).run Tryz.prog w = .ok (.value (.int .i64 (cmpB bs bs'))) w := by
  rw [run_callFunc_extern Tryz.func163 (by kernel_rfl) (by kernel_rfl) (by kernel_rfl) (e := Extern.BytealgCompare.compare) (by kernel_rfl)]
  have : (Extern.BytealgCompare.compare #[.slice a len cap, .slice a' len' cap']).run Tryz.prog w = .ok (.int .i64 (cmpB bs bs')) w := by
    change Sem.run Tryz.prog (do pure (goInt (Extern.BytealgCompare.cmp (← Extern.Bytes.bytesOf (.slice a len cap)) (← Extern.Bytes.bytesOf (.slice a' len' cap'))))) w = _
    simp only [Sem.run_bind, hB.bytes, hB'.bytes, Sem.run_pure, Result.andThen]
    rw [Lib.cmp_eq]
    rfl
  rw [this]
  rfl

theorem bytesCompare_any (a a' : Option Addr) (len cap len' cap' : Nat) (bs bs' : List Int) (w : World) (hB : Bs w a len bs) (hB' : Bs w a' len' bs') :
    Calls Tryz.prog 140 #[.slice a len cap, .slice a' len' cap'] w fun e w' => e = .returned (.int .i64 (cmpB bs bs')) ∧ w' = w := by
  have hx := bytealg_any a a' len cap len' cap' bs bs' w hB hB'
  clear hB hB'
  go_enter Tryz.func140, Tryz.ntmps140
  go_wp2
  go_ret
  exact ⟨rfl, rfl⟩

theorem compareText_any (k n s k' n' s' : Int) (a a' : Option Addr) (len cap len' cap' : Nat) (bs bs' : List Int) (w : World) (hB : Bs w a len bs) (hB' : Bs w a' len' bs') :
    Calls Tryz.prog 116 #[.agg #[.int .i64 k, .slice a len cap, .int .i64 n, .int .i64 s], .agg #[.int .i64 k', .slice a' len' cap', .int .i64 n', .int .i64 s']] w fun e w' =>
      e = .returned (.int .i64 (cmpB bs bs')) ∧ Below w.heap.size w w' := by
  have h1 : ∀ o1 o2, Bs ((w.alloc o1).alloc o2) a len bs := fun o1 o2 => hB.below (bl_alloc (bl_a _) _)
  have h2 : ∀ o1 o2, Bs ((w.alloc o1).alloc o2) a' len' bs' := fun o1 o2 => hB'.below (bl_alloc (bl_a _) _)
  clear hB hB'
  go_enter Tryz.func116, Tryz.ntmps116
  go_wp2_with fail
  refine (bytesCompare_any a a' len cap len' cap' bs bs' _ (h1 _ _) (h2 _ _)).mono ?_
  rintro e w1 ⟨rfl, rfl⟩
  go_wp2
  go_ret
  exact ⟨rfl, bl_alloc (bl_a _) _⟩
end Go.Proofs.YtdcaicoomldmgaaGreatDoor
