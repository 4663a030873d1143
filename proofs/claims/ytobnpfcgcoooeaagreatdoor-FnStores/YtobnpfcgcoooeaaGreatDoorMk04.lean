/- Texts put together: CmpA CmpB CmpC CmpD -/
import Derived.Test.YtobnpfcgcoooeaaGreatDoorMk02
import Derived.Lib.Bytealg
import Derived.Lib.Bytes
import Derived.Laws.BytesArg
import Derived.Laws.Externs
import Derived.Deep.RegionHeld3
/- CmpA -/
namespace Go.Proofs.YtobnpfcgcoooeaaGreatDoor
open Go.RowKit Go.Deep

/-- 10 to the k. -/
def p10 : Nat → Int
  | 0 => 1
  | k + 1 => p10 k * 10
theorem p10_pos (k : Nat) : 1 ≤ p10 k := by
  induction k with
  | zero => simp [p10]
  | succ k ih => unfold p10; omega
theorem p10_mono {j k : Nat} (h : j ≤ k) : p10 j ≤ p10 k := by
  induction h with
  | refl => exact Int.le_refl _
  | @step m _ ih =>
    have e : p10 m.succ = p10 m * 10 := rfl
    have := p10_pos m
    omega
theorem p10_le {k : Nat} (h : k ≤ 6) : p10 k ≤ 1000000 := by
  have := p10_mono h
  have e : p10 6 = 1000000 := by decide
  omega

theorem tenTo_any (k : Nat) (w : World) (hk : k ≤ 6) : Calls Tryz.prog 85 #[.int .i64 k] w fun e w' => e = .returned (.int .i64 (p10 k)) ∧ w' = w := by
  go_enter Tryz.func85, Tryz.ntmps85
  go_wp2
  go_loop [3, 5] (fun n i => ∃ j : Nat, j ≤ k ∧ n = .int .i64 (p10 j) ∧ i = .int .i64 j) (fun _ i => k - (intOf i).toNat)
  case atStart => exact ⟨0, Nat.zero_le _, rfl, rfl⟩
  case round =>
    obtain ⟨j, hj, rfl, rfl⟩ := hrel
    have b1 := p10_pos j
    have b2 := p10_le (Nat.le_trans hj hk)
    go_wp2
    · go_round
      case rel => exact ⟨j + 1, by omega, by rfl, by go_num⟩
      case measure => simp [intOf]; omega
    · go_ret
      have e : j = k := by omega
      rw [e]
      exact ⟨rfl, rfl⟩

theorem l1pow_any (k : Nat) (w : World) (hk : k ≤ 6) : Calls Tryz.prog 81 #[.int .i64 k] w fun e w' => e = .returned (.int .i64 (p10 k)) ∧ w' = w := by
  go_enter Tryz.func81, Tryz.ntmps81
  go_wp2
  go_loop [3, 4] (fun n i => ∃ j : Nat, j ≤ k ∧ n = .int .i64 (p10 j) ∧ i = .int .i64 j) (fun _ i => k - (intOf i).toNat)
  case atStart => exact ⟨0, Nat.zero_le _, rfl, rfl⟩
  case round =>
    obtain ⟨j, hj, rfl, rfl⟩ := hrel
    have b1 := p10_pos j
    have b2 := p10_le (Nat.le_trans hj hk)
    go_wp2
    · go_round
      case rel => exact ⟨j + 1, by omega, by rfl, by go_num⟩
      case measure => simp [intOf]; omega
    · go_ret
      have e : j = k := by omega
      rw [e]
      exact ⟨rfl, rfl⟩

/-- -1, 0, 1. -/
def cmpI (x y : Int) : Int := if x < y then -1 else if y < x then 1 else 0
theorem cmpI_lt {x y : Int} (h : x < y) : cmpI x y = -1 := by simp [cmpI, h]
theorem cmpI_gt {x y : Int} (h : y < x) : cmpI x y = 1 := by simp [cmpI, h]; omega
theorem cmpI_eq {x y : Int} (h : x = y) : cmpI x y = 0 := by simp [cmpI, h]

theorem isNaN_any (x : Int) (w : World) : Calls Tryz.prog 122 #[.int .i64 x] w fun e w' => e = .returned (.bool false) ∧ w' = w := by
  go_enter Tryz.func122, Tryz.ntmps122
  go_wp2
  go_ret
  exact ⟨rfl, rfl⟩
theorem cmpInt_any (x y : Int) (w : World) : Calls Tryz.prog 99 #[.int .i64 x, .int .i64 y] w fun e w' => e = .returned (.int .i64 (cmpI x y)) ∧ w' = w := by
  by_cases h : x < y
  · rw [cmpI_lt h]
    go_enter Tryz.func99, Tryz.ntmps99
    go_wp2_with (go_at_call 122; refine (isNaN_any _ _).mono ?_; rintro e w1 ⟨rfl, rfl⟩)
    go_ret
    exact ⟨rfl, rfl⟩
  · by_cases h2 : y < x
    · rw [cmpI_gt h2]
      go_enter Tryz.func99, Tryz.ntmps99
      go_wp2_with (go_at_call 122; refine (isNaN_any _ _).mono ?_; rintro e w1 ⟨rfl, rfl⟩)
      go_ret
      exact ⟨rfl, rfl⟩
    · rw [cmpI_eq (by omega)]
      go_enter Tryz.func99, Tryz.ntmps99
      go_wp2_with (go_at_call 122; refine (isNaN_any _ _).mono ?_; rintro e w1 ⟨rfl, rfl⟩)
      go_ret
      exact ⟨rfl, rfl⟩
def sideI (p q : Bool) : Int := if p then -1 else if q then 1 else 0
theorem sideI_lt (x y : Int) : sideI (decide (x < y)) (decide (y < x)) = cmpI x y := by simp [sideI, cmpI]
theorem sideI_ne (x y : Int) (h : x ≠ y) : sideI (decide (x < y)) true = cmpI x y := by
  by_cases h1 : x < y
  · simp [sideI, cmpI, h1]
  · have : y < x := by omega
    simp [sideI, cmpI, h1, this]
theorem side_any (p q : Bool) (w : World) : Calls Tryz.prog 27 #[.bool p, .bool q] w fun e w' => e = .returned (.int .i64 (sideI p q)) ∧ w' = w := by
  cases p <;> cases q
  all_goals (go_enter Tryz.func27, Tryz.ntmps27; go_wp2; go_ret; exact ⟨rfl, rfl⟩)

/-- The first of two that is not nought. -/
def orI (x y : Int) : Int := if x = 0 then y else x
theorem cmpOr_any (x y : Int) (b : Nat) (w : World) (h0 : w.cell? ⟨b, 0, none⟩ = some (.int .i64 x)) (h1 : w.cell? ⟨b, 1, none⟩ = some (.int .i64 y)) :
    Calls Tryz.prog 71 #[.slice (some ⟨b, 0, none⟩) 2 2] w fun e w' => e = .returned (.int .i64 (orI x y)) ∧ w' = w := by
  by_cases hx : x = 0
  · subst hx
    by_cases hy : y = 0
    · subst hy
      have e0 : orI 0 0 = 0 := rfl
      rw [e0]
      go_enter Tryz.func71, Tryz.ntmps71
      go_wp2
      refine wp_loop_rounds 3 ?_
      rw [rounds_succ]
      go_wp2
      rw [rounds_succ]
      go_wp2
      rw [rounds_succ]
      go_wp2
      go_ret
      exact ⟨rfl, rfl⟩
    · have hy' : (y != 0) = true := by simp; omega
      have e0 : orI 0 y = y := rfl
      rw [e0]
      clear hy
      go_enter Tryz.func71, Tryz.ntmps71
      go_wp2
      refine wp_loop_rounds 2 ?_
      rw [rounds_succ]
      go_wp2
      rw [rounds_succ]
      go_wp2
      go_ret
      exact ⟨rfl, rfl⟩
  · have hx' : (x != 0) = true := by simp; omega
    have e0 : orI x y = x := by simp [orI, hx]
    rw [e0]
    clear hx
    go_enter Tryz.func71, Tryz.ntmps71
    go_wp2
    refine wp_loop_rounds 1 ?_
    rw [rounds_succ]
    go_wp2
    go_ret
    exact ⟨rfl, rfl⟩
end Go.Proofs.YtobnpfcgcoooeaaGreatDoor

/- CmpB -/
namespace Go.Proofs.YtobnpfcgcoooeaaGreatDoor
open Go.RowKit Go.Deep

/-- What is behind the point, as six digits. -/
def restOf (n : Int) (s : Nat) : Int := n.tmod (p10 s) * p10 (6 - s)
theorem tmod_bound (n q : Int) (hq : 1 ≤ q) : -q < n.tmod q ∧ n.tmod q < q := by
  have h1 := Int.tmod_lt_of_pos n (b := q) (by omega)
  have h2 : -q < n.tmod q := by
    have := Int.lt_tmod_of_pos n (b := q) (by omega)
    omega
  exact ⟨h2, h1⟩
theorem rest_bound (n : Int) (s : Nat) (hs : s ≤ 6) : -1000000 < restOf n s ∧ restOf n s < 1000000 := by
  have h : s = 0 ∨ s = 1 ∨ s = 2 ∨ s = 3 ∨ s = 4 ∨ s = 5 ∨ s = 6 := by omega
  rcases h with rfl | rfl | rfl | rfl | rfl | rfl | rfl
  · have t := tmod_bound n 1 (by omega); simp [restOf, p10]
  · have t := tmod_bound n 10 (by omega); simp [restOf, p10]; omega
  · have t := tmod_bound n 100 (by omega); simp [restOf, p10]; omega
  · have t := tmod_bound n 1000 (by omega); simp [restOf, p10]; omega
  · have t := tmod_bound n 10000 (by omega); simp [restOf, p10]; omega
  · have t := tmod_bound n 100000 (by omega); simp [restOf, p10]; omega
  · have t := tmod_bound n 1000000 (by omega); simp [restOf, p10]; omega

theorem parts_any (n : Int) (s : Nat) (w : World) (hs : s ≤ 6) (h1 : -9223372036854775808 ≤ n) (h2 : n ≤ 9223372036854775807) :
    Calls Tryz.prog 124 #[.agg #[.int .i64 n, .int .i64 s]] w fun e w' =>
      e = .returned (.tuple #[.int .i64 (n.tdiv (p10 s)), .int .i64 (restOf n s)]) ∧ ∃ q o1, w' = (w.alloc o1).drewN q := by
  have b1 := p10_pos s
  have b2 := p10_le hs
  have b3 := p10_pos (6 - s)
  have b4 : p10 (6 - s) ≤ 1000000 := p10_le (by omega)
  have r := rest_bound n s hs
  have t := tmod_bound n (p10 s) b1
  have hc : ((6 - s : Nat) : Int) = 6 - (s : Int) := by omega
  have T := fun w => tenTo_any (6 - s) w (by omega)
  rw [hc] at T
  unfold restOf at r ⊢
  have hw : wrap64 (n.tmod (p10 s) * p10 (6 - s)) = n.tmod (p10 s) * p10 (6 - s) := IntWalk.wrap64_in _ ⟨by omega, by omega⟩
  go_enter Tryz.func124, Tryz.ntmps124
  go_wp2_with (go_at_call 85; refine (tenTo_any s _ hs).mono ?_; rintro e w1 ⟨rfl, rfl⟩)
  go_quiet ((go_at_call 85; refine Calls.quiet_of_same (T _)))
  go_wp2
  go_ret2
  exact ⟨rfl, _, _, rfl⟩

/-- Two numbers: what is whole first, then the rest. -/
def cmpN (n : Int) (s : Nat) (n' : Int) (s' : Nat) : Int := orI (cmpI (n.tdiv (p10 s)) (n'.tdiv (p10 s'))) (cmpI (restOf n s) (restOf n' s'))

theorem decCompare_any (n n' : Int) (s s' : Nat) (w : World) (hs : s ≤ 6) (h1 : -9223372036854775808 ≤ n) (h2 : n ≤ 9223372036854775807) (hs' : s' ≤ 6) (h1' : -9223372036854775808 ≤ n') (h2' : n' ≤ 9223372036854775807) :
    Calls Tryz.prog 101 #[.agg #[.int .i64 n, .int .i64 s], .agg #[.int .i64 n', .int .i64 s']] w fun e w' =>
      e = .returned (.int .i64 (cmpN n s n' s')) ∧ Below w.heap.size w w' := by
  unfold cmpN
  go_enter Tryz.func101, Tryz.ntmps101
  go_wp2_with fail
  refine (parts_any n s _ hs h1 h2).mono ?_
  rintro e w1 ⟨rfl, q1, o1, rfl⟩
  go_wp2_with fail
  refine (parts_any n' s' _ hs' h1' h2').mono ?_
  rintro e w2 ⟨rfl, q2, o2, rfl⟩
  go_wp2_with fail
  refine (cmpInt_any _ _ _).mono ?_
  rintro e w3 ⟨rfl, rfl⟩
  go_wp2_with fail
  refine (cmpInt_any _ _ _).mono ?_
  rintro e w4 ⟨rfl, rfl⟩
  go_wp2_with fail
  refine (cmpOr_any _ _ _ _ (by simp [go_sem]; rfl) (by simp [go_sem]; rfl)).mono ?_
  rintro e w5 ⟨rfl, rfl⟩
  go_wp2
  go_ret
  refine ⟨rfl, ?_⟩
  repeat (first | with_reducible exact Below.refl _ _ | with_reducible apply bl_alloc | with_reducible apply Below.drew | with_reducible apply below_drewN)

theorem compareKind_any (k n s k' n' s' : Int) (a a' : Option Addr) (len cap len' cap' : Nat) (w : World) :
    Calls Tryz.prog 75 #[.agg #[.int .i64 k, .slice a len cap, .int .i64 n, .int .i64 s], .agg #[.int .i64 k', .slice a' len' cap', .int .i64 n', .int .i64 s']] w fun e w' =>
      e = .returned (.int .i64 (cmpI k k')) ∧ Below w.heap.size w w' := by
  go_enter Tryz.func75, Tryz.ntmps75
  go_wp2_with fail
  refine (cmpInt_any _ _ _).mono ?_
  rintro e w1 ⟨rfl, rfl⟩
  go_wp2
  go_ret
  refine ⟨rfl, ?_⟩
  repeat (first | with_reducible exact Below.refl _ _ | with_reducible apply bl_alloc | with_reducible apply Below.drew | with_reducible apply below_drewN)

set_option maxHeartbeats 1000000 in
theorem compareNumber_any (k n k' n' : Int) (s s' : Nat) (a a' : Option Addr) (len cap len' cap' : Nat) (w : World) (hs : s ≤ 6) (h1 : -9223372036854775808 ≤ n) (h2 : n ≤ 9223372036854775807) (hs' : s' ≤ 6) (h1' : -9223372036854775808 ≤ n') (h2' : n' ≤ 9223372036854775807) :
    Calls Tryz.prog 77 #[.agg #[.int .i64 k, .slice a len cap, .int .i64 n, .int .i64 s], .agg #[.int .i64 k', .slice a' len' cap', .int .i64 n', .int .i64 s']] w fun e w' =>
      e = .returned (.int .i64 (cmpN n s n' s')) ∧ Below w.heap.size w w' := by
  go_enter Tryz.func77, Tryz.ntmps77
  go_wp2_with fail
  go_region_with (first
    | (go_at_call 57; refine (decimal_any _ _ _ _ _ _ _).mono ?_; rintro e w1 ⟨rfl, o1, o2, rfl⟩)
    | (go_at_call 101; refine (decCompare_any n n' s s' _ hs h1 h2 hs' h1' h2').mono ?_; rintro e w2 ⟨rfl, hb2⟩))
  all_goals (go_wp2; go_ret; refine ⟨rfl, bl_trans ?_ hb2⟩; repeat (first | with_reducible exact Below.refl _ _ | with_reducible apply bl_alloc | with_reducible apply Below.drew | with_reducible apply below_drewN))
end Go.Proofs.YtobnpfcgcoooeaaGreatDoor

/- CmpC -/
namespace Go.Proofs.YtobnpfcgcoooeaaGreatDoor
open Go.RowKit Go.Deep

/-- Two texts by their bytes. -/
def cmpB (xs ys : List Int) : Int := Lib.compareBytes (Lib.bytesOf xs) (Lib.bytesOf ys)

theorem run_loadBytes {P : Program} (w : World) (b : Nat) : ∀ (n off : Nat) (bs : List Int) (acc : ByteArray), bs.length = n → (∀ i, i < n → w.cell? ⟨b, off + i, none⟩ = some (.int .u8 (bs[i]?.getD 0))) →
    (Extern.Bytes.loadBytes ⟨b, off, none⟩ n acc).run P w = .ok (bs.foldl (fun r n => r.push (UInt8.ofNat n.toNat)) acc) w
  | 0, off, bs, acc, hl, _ => by
    rw [List.eq_nil_of_length_eq_zero hl]
    rfl
  | n + 1, off, [], acc, hl, _ => by simp at hl
  | n + 1, off, x :: bs, acc, hl, hc => by
    have h0 : w.cell? ⟨b, off, none⟩ = some (.int .u8 x) := by simpa using hc 0 (by omega)
    have ih := run_loadBytes (P := P) w b n (off + 1) bs (acc.push (UInt8.ofNat x.toNat)) (by simpa using hl) (fun i hi => by
      have := hc (i + 1) (by omega)
      simp at this
      rw [show off + 1 + i = off + (i + 1) by omega]
      exact this)
    have ea : (⟨b, off, none⟩ : Addr).add 1 = ⟨b, off + 1, none⟩ := by simp [Addr.add]
    have hld : (load ⟨b, off, none⟩).run P w = .ok (.int .u8 x) w := by simp [go_sem, h0]
    unfold Extern.Bytes.loadBytes
    simp only [Sem.run_bind, hld, Result.andThen]
    rw [ea]
    exact ih

theorem Bs.bytes {P : Program} {w : World} {a : Option Addr} {len cap : Nat} {bs : List Int} (h : Bs w a len bs) : (Extern.Bytes.bytesOf (.slice a len cap)).run P w = .ok (strOfNums bs) w := by
  obtain ⟨hl, _, _, h4⟩ := h
  rcases h4 with h4 | ⟨b, off, rfl, _, hc⟩
  · subst h4
    have e : bs = [] := List.eq_nil_of_length_eq_zero hl
    subst e
    cases a with
    | none => rfl
    | some x => rfl
  · have := run_loadBytes (P := P) w b len off bs .empty hl hc
    show (Extern.Bytes.loadBytes ⟨b, off, none⟩ len .empty).run P w = _
    rw [this, foldl_push_bytes]
    simp [strOfNums, ByteArray.empty, ByteArray.emptyWithCapacity]
    rfl

theorem bytealg_any (a a' : Option Addr) (len cap len' cap' : Nat) (bs bs' : List Int) (w : World) (hB : Bs w a len bs) (hB' : Bs w a' len' bs') :
    (callFunc 123 #[.slice a len cap, .slice a' len' cap']).run Tryz.prog w = .ok (.value (.int .i64 (cmpB bs bs'))) w := by
  rw [run_callFunc_extern Tryz.func123 (by kernel_rfl) (by kernel_rfl) (by kernel_rfl) (e := Extern.BytealgCompare.compare) (by kernel_rfl)]
  have : (Extern.BytealgCompare.compare #[.slice a len cap, .slice a' len' cap']).run Tryz.prog w = .ok (.int .i64 (cmpB bs bs')) w := by
    change Sem.run Tryz.prog (do pure (goInt (Extern.BytealgCompare.cmp (← Extern.Bytes.bytesOf (.slice a len cap)) (← Extern.Bytes.bytesOf (.slice a' len' cap'))))) w = _
    simp only [Sem.run_bind, hB.bytes, hB'.bytes, Sem.run_pure, Result.andThen]
    rw [Lib.cmp_eq]
    rfl
  rw [this]
  rfl

theorem bytesCompare_any (a a' : Option Addr) (len cap len' cap' : Nat) (bs bs' : List Int) (w : World) (hB : Bs w a len bs) (hB' : Bs w a' len' bs') :
    Calls Tryz.prog 100 #[.slice a len cap, .slice a' len' cap'] w fun e w' => e = .returned (.int .i64 (cmpB bs bs')) ∧ w' = w := by
  have hx := bytealg_any a a' len cap len' cap' bs bs' w hB hB'
  clear hB hB'
  go_enter Tryz.func100, Tryz.ntmps100
  go_wp2
  go_ret
  exact ⟨rfl, rfl⟩

theorem compareText_any (k n s k' n' s' : Int) (a a' : Option Addr) (len cap len' cap' : Nat) (bs bs' : List Int) (w : World) (hB : Bs w a len bs) (hB' : Bs w a' len' bs') :
    Calls Tryz.prog 76 #[.agg #[.int .i64 k, .slice a len cap, .int .i64 n, .int .i64 s], .agg #[.int .i64 k', .slice a' len' cap', .int .i64 n', .int .i64 s']] w fun e w' =>
      e = .returned (.int .i64 (cmpB bs bs')) ∧ Below w.heap.size w w' := by
  have h1 : ∀ o1 o2, Bs ((w.alloc o1).alloc o2) a len bs := fun o1 o2 => hB.below (bl_alloc (bl_a _) _)
  have h2 : ∀ o1 o2, Bs ((w.alloc o1).alloc o2) a' len' bs' := fun o1 o2 => hB'.below (bl_alloc (bl_a _) _)
  clear hB hB'
  go_enter Tryz.func76, Tryz.ntmps76
  go_wp2_with fail
  refine (bytesCompare_any a a' len cap len' cap' bs bs' _ (h1 _ _) (h2 _ _)).mono ?_
  rintro e w1 ⟨rfl, rfl⟩
  go_wp2
  go_ret
  exact ⟨rfl, bl_alloc (bl_a _) _⟩
end Go.Proofs.YtobnpfcgcoooeaaGreatDoor

/- CmpD -/
namespace Go.Proofs.YtobnpfcgcoooeaaGreatDoor
open Go.RowKit Go.Deep

theorem cell_keep {w w' : World} (hb : Below w.heap.size w w') {p : Addr} {v : Value} (h : w.cell? p = some v) (hp : p.block < w.heap.size) : w'.cell? p = some v := (hb.cell hp).trans h

theorem At4.at (w : World) (b : Nat) (v0 v1 v2 v3 : Value) (t : TypeId) (e : b = w.heap.size) : At4 (w.alloc (.cells #[v0, v1, v2, v3] t)) b v0 v1 v2 v3 := by
  subst e; exact At4.new w v0 v1 v2 v3 t

/-- Two terms that may be: by kind, by text, by number: the first that tells. -/
def cmp3 (x y z : Int) : Int := orI x (orI y z)

set_option maxHeartbeats 1000000 in
theorem firstUnlike_any (k n k' n' : Int) (s s' : Nat) (a a' : Option Addr) (len cap len' cap' : Nat) (bs bs' : List Int) (b : Nat) (w : World)
    (hB : Bs w a len bs) (hB' : Bs w a' len' bs') (hs : s ≤ 6) (h1 : -9223372036854775808 ≤ n) (h2 : n ≤ 9223372036854775807) (hs' : s' ≤ 6) (h1' : -9223372036854775808 ≤ n') (h2' : n' ≤ 9223372036854775807)
    (hb : b < w.heap.size) (f0 : w.cell? ⟨b, 0, none⟩ = some (.func (.func 75) #[] #[])) (f1 : w.cell? ⟨b, 1, none⟩ = some (.func (.func 76) #[] #[])) (f2 : w.cell? ⟨b, 2, none⟩ = some (.func (.func 77) #[] #[])) :
    Calls Tryz.prog 74 #[.agg #[.int .i64 k, .slice a len cap, .int .i64 n, .int .i64 s], .agg #[.int .i64 k', .slice a' len' cap', .int .i64 n', .int .i64 s'], .slice (some ⟨b, 0, none⟩) 3 3] w fun e w' =>
      e = .returned (.int .i64 (cmp3 (cmpI k k') (cmpB bs bs') (cmpN n s n' s'))) ∧ Below w.heap.size w w' := by
  have hB2 : ∀ o1 o2, Bs ((w.alloc o1).alloc o2) a len bs := fun o1 o2 => hB.below (bl_alloc (bl_a _) _)
  have hB2' : ∀ o1 o2, Bs ((w.alloc o1).alloc o2) a' len' bs' := fun o1 o2 => hB'.below (bl_alloc (bl_a _) _)
  clear hB hB'
  have kind := fun w => compareKind_any k n s k' n' s' a a' len cap len' cap' w
  have number := fun w => compareNumber_any k n k' n' s s' a a' len cap len' cap' w hs h1 h2 hs' h1' h2'
  have text := fun w hB hB' => compareText_any k n s k' n' s' a a' len cap len' cap' bs bs' w hB hB'
  generalize cmpI k k' = x at kind ⊢
  generalize cmpB bs bs' = y at text ⊢
  generalize cmpN n s n' s' = z at number ⊢
  go_enter Tryz.func74, Tryz.ntmps74
  go_wp2_with fail
  refine wp_loop_rounds 4 ?_
  rw [rounds_succ]
  go_wp2_with fail
  refine (kind _).mono ?_
  rintro e w1 ⟨rfl, hb1⟩
  have hw1 := bl_trans (bl_a _) (bl_trans (bl_a _) hb1)
  have hA1 := (At4.new w _ _ _ _ _).below (bl_trans (bl_a _) hb1)
  have hX1 := (At4.at (w.alloc _) (w.heap.size + 1) _ _ _ _ _ (by simp)).below hb1
  have hB1 := (hB2 _ _).below hb1
  have hB1' := (hB2' _ _).below hb1
  have g1 := cell_keep hw1 f1 hb
  have g2 := cell_keep hw1 f2 hb
  have hbl := Nat.lt_of_lt_of_le hb hw1.size
  clear hB2 hB2' hb1 f0 f1 f2 kind
  obtain ⟨a0, a1, a2, a3, a4⟩ := id hA1
  obtain ⟨x0, x1, x2, x3, x4⟩ := id hX1
  by_cases hx : x = 0
  · subst hx
    go_wp2_with fail
    rw [rounds_succ]
    go_wp2_with fail
    refine (text _ hB1 hB1').mono ?_
    rintro e w2 ⟨rfl, hb2⟩
    have hw2 := bl_trans hw1 hb2
    have hA2 := hA1.below hb2
    have hX2 := hX1.below hb2
    have g3 := cell_keep hb2 g2 hbl
    clear hB1 hB1' g1 g2 hw1 hA1 hX1 hbl hb2 text a0 a1 a2 a3 a4 x0 x1 x2 x3 x4
    obtain ⟨a0, a1, a2, a3, a4⟩ := id hA2
    obtain ⟨x0, x1, x2, x3, x4⟩ := id hX2
    by_cases hy : y = 0
    · subst hy
      go_wp2_with fail
      rw [rounds_succ]
      go_wp2_with fail
      refine (number _).mono ?_
      rintro e w3 ⟨rfl, hb3⟩
      have hw3 := bl_trans hw2 hb3
      clear hw2 hA2 hX2 g3 number a0 a1 a2 a3 a4 x0 x1 x2 x3 x4
      by_cases hz : z = 0
      · subst hz
        go_wp2_with fail
        rw [rounds_succ]
        go_wp2
        go_ret
        exact ⟨rfl, hw3⟩
      · have hz' : (z != 0) = true := by simp; omega
        clear hz
        go_wp2
        go_ret
        exact ⟨rfl, hw3⟩
    · have hy' : (y != 0) = true := by simp; omega
      have ec : Hid (cmp3 0 y z = y) := by show _ = _; simp [cmp3, orI, hy]
      clear hy
      go_wp2
      go_ret
      exact ⟨by rw [ec.out]; rfl, hw2⟩
  · have hx' : (x != 0) = true := by simp; omega
    have ec : Hid (cmp3 x y z = x) := by show _ = _; simp [cmp3, orI, hx]
    clear hx text
    go_wp2
    go_ret
    exact ⟨by rw [ec.out]; rfl, hw1⟩

theorem termOk_scale {k n s : Int} {bs : List Int} (h : termOk k bs n s = true) : 0 ≤ s ∧ s ≤ 6 := by
  unfold termOk at h
  split at h
  · simp at h; omega
  split at h
  · simp at h; omega
  split at h
  · simp at h; omega
  split at h
  · simp [numOk] at h; omega
  · simp at h

/-- Whatever two terms: what may not be first. -/
def cmpT (ok ok' : Bool) (c : Int) : Int := if ok then (if ok' then c else 1) else (if ok' then -1 else 0)

set_option maxHeartbeats 1000000 in
theorem implCompare_any (k n s k' n' s' : Int) (a a' : Option Addr) (len cap len' cap' : Nat) (bs bs' : List Int) (w : World)
    (hB : Bs w a len bs) (hB' : Bs w a' len' bs') (h1 : -9223372036854775808 ≤ n) (h2 : n ≤ 9223372036854775807) (h3 : -9223372036854775808 ≤ s) (h4 : s ≤ 9223372036854775807) (h1' : -9223372036854775808 ≤ n') (h2' : n' ≤ 9223372036854775807) (h3' : -9223372036854775808 ≤ s') (h4' : s' ≤ 9223372036854775807) :
    Calls Tryz.prog 42 #[.agg #[.int .i64 k, .slice a len cap, .int .i64 n, .int .i64 s], .agg #[.int .i64 k', .slice a' len' cap', .int .i64 n', .int .i64 s']] w fun e w' =>
      e = .returned (.int .i64 (cmpT (termOk k bs n s) (termOk k' bs' n' s') (cmp3 (cmpI k k') (cmpB bs bs') (cmpN n s.toNat n' s'.toNat)))) ∧ Below w.heap.size w w' := by
  have ok1 := fun w hB => implTermOk_any k n s a len cap bs w hB h1 h2 h3 h4
  have ok2 := fun w hB => implTermOk_any k' n' s' a' len' cap' bs' w hB h1' h2' h3' h4'
  go_enter Tryz.func42, Tryz.ntmps42
  have hB2 : ∀ o1 o2, Bs ((w.alloc o1).alloc o2).drew a len bs := fun o1 o2 => hB.below (Below.drew (bl_alloc (bl_a _) _))
  have hB2' : ∀ o1 o2, Bs ((w.alloc o1).alloc o2).drew a' len' bs' := fun o1 o2 => hB'.below (Below.drew (bl_alloc (bl_a _) _))
  have tok1 : True := trivial
  clear hB hB'
  go_wp2_with fail
  go_region_held3 (fun w' => w'.cell? ⟨w.heap.size, 0, none⟩ = some (.int .i64 k) ∧ w'.cell? ⟨w.heap.size, 1, none⟩ = some (.slice a len cap) ∧ w'.cell? ⟨w.heap.size, 2, none⟩ = some (.int .i64 n) ∧ w'.cell? ⟨w.heap.size, 3, none⟩ = some (.int .i64 s) ∧ w'.cell? ⟨w.heap.size + 1, 0, none⟩ = some (.int .i64 k') ∧ w'.cell? ⟨w.heap.size + 1, 1, none⟩ = some (.slice a' len' cap') ∧ w'.cell? ⟨w.heap.size + 1, 2, none⟩ = some (.int .i64 n') ∧ w'.cell? ⟨w.heap.size + 1, 3, none⟩ = some (.int .i64 s')) (simp [*, go_sem])
    (first
      | (go_at_call 31; have _t := tok1; refine (ok1 _ (hB2 _ _)).mono ?_; rintro e w1 ⟨rfl, hb1⟩; clear tok1; have hw1 := bl_trans (Below.drew (bl_alloc (bl_a _) _)) hb1; have hA1 := (At4.new w (.int .i64 k) (.slice a len cap) (.int .i64 n) (.int .i64 s) 37).below (bl_trans (Below.drew (bl_a _)) hb1); have hX1 := (At4.at (w.alloc (.cells #[.int .i64 k, .slice a len cap, .int .i64 n, .int .i64 s] 37)) (w.heap.size + 1) (.int .i64 k') (.slice a' len' cap') (.int .i64 n') (.int .i64 s') 37 (by simp)).below (bl_trans (Below.drew (Below.refl _ _)) hb1); have hB1 := (hB2 _ _).below hb1; have hB1' := (hB2' _ _).below hb1; clear hb1; obtain ⟨a0, a1, a2, a3, a4⟩ := id hA1; obtain ⟨x0, x1, x2, x3, x4⟩ := id hX1)
      | (go_at_call 31; refine (ok2 _ hB1').mono ?_; rintro e w2 ⟨rfl, hb2⟩; have hw2 := bl_trans hw1 hb2; have hA2 := hA1.below hb2; have hX2 := hX1.below hb2; have hB3 := hB1.below hb2; have hB3' := hB1'.below hb2; clear hb2 hw1 hA1 hX1 hB1 hB1' a0 a1 a2 a3 a4 x0 x1 x2 x3 x4; obtain ⟨a0, a1, a2, a3, a4⟩ := id hA2; obtain ⟨x0, x1, x2, x3, x4⟩ := id hX2))
  by_cases e1 : termOk k bs n s = true
  · by_cases e2 : termOk k' bs' n' s' = true
    · obtain ⟨b1, b2⟩ := termOk_scale e1
      obtain ⟨b1', b2'⟩ := termOk_scale e2
      obtain ⟨t, rfl⟩ : ∃ t : Nat, s = t := ⟨s.toNat, by omega⟩
      obtain ⟨t', rfl⟩ : ∃ t : Nat, s' = t := ⟨s'.toNat, by omega⟩
      clear ok1 ok2 hB2 hB2'
      go_wp2_with fail
      refine (firstUnlike_any k n k' n' t t' a a' len cap len' cap' bs bs' w2.heap.size _ (hB3.below (bl_a _)) (hB3'.below (bl_a _)) (by omega) h1 h2 (by omega) h1' h2' (by simp) (by simp [go_sem]) (by simp [go_sem]) (by simp [go_sem])).mono ?_
      rintro e w3 ⟨rfl, hb3⟩
      have hw3 := bl_trans hw2 (bl_trans (bl_a _) hb3)
      have ec : Hid (cmpT (termOk k bs n t) (termOk k' bs' n' t') (cmp3 (cmpI k k') (cmpB bs bs') (cmpN n (t : Int).toNat n' (t' : Int).toNat)) = cmp3 (cmpI k k') (cmpB bs bs') (cmpN n t n' t')) := by
        show _ = _
        simp [cmpT, e1, e2]
      clear hb3
      go_wp2
      go_ret
      exact ⟨by rw [ec.out]; rfl, hw3⟩
    · have e2' : termOk k' bs' n' s' = false := by simpa using e2
      have ec : Hid (∀ c, cmpT (termOk k bs n s) (termOk k' bs' n' s') c = 1) := by intro c; simp [cmpT, e1, e2']
      clear ok1 ok2 hB2 hB2' e2
      go_wp2
      go_ret
      exact ⟨by rw [ec.out]; rfl, hw2⟩
  · have e1' : termOk k bs n s = false := by simpa using e1
    clear e1
    by_cases e2 : termOk k' bs' n' s' = true
    · have ec : Hid (∀ c, cmpT (termOk k bs n s) (termOk k' bs' n' s') c = -1) := by intro c; simp [cmpT, e1', e2]
      clear ok1 ok2 hB2 hB2'
      go_wp2
      go_ret
      exact ⟨by rw [ec.out]; rfl, hw2⟩
    · have e2' : termOk k' bs' n' s' = false := by simpa using e2
      have ec : Hid (∀ c, cmpT (termOk k bs n s) (termOk k' bs' n' s') c = 0) := by intro c; simp [cmpT, e1', e2']
      clear ok1 ok2 hB2 hB2' e2
      go_wp2
      go_ret
      exact ⟨by rw [ec.out]; rfl, hw2⟩
end Go.Proofs.YtobnpfcgcoooeaaGreatDoor
