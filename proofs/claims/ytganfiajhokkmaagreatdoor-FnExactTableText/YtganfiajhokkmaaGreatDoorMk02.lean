/- Texts put together: TokC TokD TokE CmpA CmpB CmpC CmpD OrdA -/
import Derived.Test.YtganfiajhokkmaaGreatDoorMk01
import Derived.Deep.RegionWith
import Derived.Lib.Bytealg
import Derived.Lib.Bytes
import Derived.Laws.BytesArg
import Derived.Laws.Externs
import Derived.Deep.RegionHeld3
/- TokC -/
namespace Go.Proofs.YtganfiajhokkmaaGreatDoor
open Go.RowKit Go.Deep

set_option maxRecDepth 10000 in
set_option maxHeartbeats 1000000 in
theorem specTermOk_name (n s : Int) (a : Option Addr) (len cap : Nat) (bs : List Int) (w : World) (hB : Bs w a len bs) :
    Calls Tryz.prog 34 #[.agg #[.int .i64 0, .slice a len cap, .int .i64 n, .int .i64 s]] w fun e w' => e = .returned (.bool (termOk 0 bs n s)) ∧ ∃ o1, w' = w.alloc o1 := by
  obtain ⟨hl, h2, h3, h4⟩ := hB
  have et : termOk 0 bs n s = (nameOk bs && n == 0 && s == 0) := by simp [termOk]
  rw [et]
  clear h3 et
  by_cases h12 : 1 ≤ len ∧ len ≤ 12 ∧ n = 0 ∧ s = 0
  · obtain ⟨h1, h12, rfl, rfl⟩ := h12
    have eb : (nameOk bs && (0 : Int) == 0 && (0 : Int) == 0) = nameOk bs := by simp
    rw [eb]
    clear eb
    obtain ⟨b, off, rfl, hlt, hc⟩ : ∃ b off, a = some ⟨b, off, none⟩ ∧ b < w.heap.size ∧ ∀ i, i < len → w.cell? ⟨b, off + i, none⟩ = some (.int .u8 (bs[i]?.getD 0)) := by
      rcases h4 with h4 | h4
      · omega
      · exact h4
    clear h4
    have HL : Hid (bs.length = len) := hl
    clear hl
    go_enter Tryz.func34, Tryz.ntmps34
    go_wp2
    go_loop [3] (fun i => ∃ k : Nat, k ≤ len ∧ i = .int .i64 k ∧ ∀ j : Nat, j < k → (letter (bs[j]?.getD 0) || digit (bs[j]?.getD 0)) = true ∧ (j = 0 → 57 < bs[j]?.getD 0))
      (fun i => len - (intOf i).toNat)
    case atStart => exact ⟨0, Nat.zero_le _, rfl, by intro j hj; omega⟩
    case round =>
      obtain ⟨k, hk, rfl, hH⟩ := hrel
      have HH : Hid (∀ j : Nat, j < k → (letter (bs[j]?.getD 0) || digit (bs[j]?.getD 0)) = true ∧ (j = 0 → 57 < bs[j]?.getD 0)) := hH
      have HC := hc
      clear hc hH
      by_cases hlt2 : k < len
      · have hcx := HC k hlt2
        clear HC
        generalize hg : bs[k]?.getD 0 = x at hcx
        have HG : Hid (bs[k]?.getD 0 = x) := hg
        clear hg
        have hkl : k < bs.length := by have := HL.out; omega
        by_cases hs : (letter x || digit x) = true
        · by_cases hk0 : k = 0
          · subst hk0
            simp only [Nat.add_zero] at hcx
            by_cases h57 : x ≤ 57
            · have hd : decide (x ≤ 57) = true := by simpa using h57
              go_wp2_with (go_at_call 51; refine (small_any _ _).mono ?_; rintro e w2 ⟨rfl, rfl⟩)
              go_ret
              refine ⟨?_, _, rfl⟩
              have el : letter (bs[0]?.getD 0) = false := by rw [HG.out]; simp [letter]; omega
              simp [nameOk, el]
            · have hd : decide (x ≤ 57) = false := by simpa using h57
              go_wp2_with (go_at_call 51; refine (small_any _ _).mono ?_; rintro e w2 ⟨rfl, rfl⟩)
              go_round
              case rel => exact ⟨1, by omega, by go_num, fun j hj => by
                obtain rfl : j = 0 := by omega
                rw [HG.out]; exact ⟨hs, fun _ => by omega⟩⟩
              case measure => simp [intOf]; omega
          · have hk0' : ((k : Int) == 0) = false := by simp; omega
            go_wp2_with (go_at_call 51; refine (small_any _ _).mono ?_; rintro e w2 ⟨rfl, rfl⟩)
            go_round
            case rel => exact ⟨k + 1, by omega, by go_num, fun j hj => by
              by_cases e : j = k
              · subst e; rw [HG.out]; exact ⟨hs, fun h => absurd h hk0⟩
              · exact HH.out j (by omega)⟩
            case measure => simp [intOf]; omega
        · have hs' : (letter x || digit x) = false := by simpa using hs
          clear hs
          go_wp2_with (go_at_call 51; refine (small_any _ _).mono ?_; rintro e w2 ⟨rfl, rfl⟩)
          go_ret
          refine ⟨?_, _, rfl⟩
          have e := all_not bs (fun b => letter b || digit b) k hkl (by show (letter _ || digit _) = false; rw [HG.out]; exact hs')
          simp [nameOk, e]
      · clear HC
        go_wp2
        go_ret
        refine ⟨?_, _, rfl⟩
        have hl := HL.out
        have e := all_of bs (fun b => letter b || digit b) (fun j hj => (HH.out j (by omega)).1)
        have hf : letter (bs[0]?.getD 0) = true := by
          have h := HH.out 0 (by omega)
          have h' := h.2 rfl
          have h'' := h.1
          simp [letter, digit] at h'' ⊢
          omega
        simp only [nameOk, e, hf, hl]
        simp; omega
  · have e : (nameOk bs && n == 0 && s == 0) = false := by
      rw [Bool.eq_false_iff]
      intro h
      simp [nameOk] at h
      omega
    rw [e]
    clear e h4
    by_cases g1 : 1 ≤ len
    · by_cases g12 : len ≤ 12
      · by_cases gn : n = 0
        · have gs : (s != 0) = true := by simp; omega
          subst gn
          clear h12
          go_enter Tryz.func34, Tryz.ntmps34
          go_wp2
          go_ret
          exact ⟨rfl, _, rfl⟩
        · have gn' : (n != 0) = true := by simp; omega
          clear h12 gn
          go_enter Tryz.func34, Tryz.ntmps34
          go_wp2
          go_ret
          exact ⟨rfl, _, rfl⟩
      · clear h12
        go_enter Tryz.func34, Tryz.ntmps34
        go_wp2
        go_ret
        exact ⟨rfl, _, rfl⟩
    · clear h12
      go_enter Tryz.func34, Tryz.ntmps34
      go_wp2
      go_ret
      exact ⟨rfl, _, rfl⟩
end Go.Proofs.YtganfiajhokkmaaGreatDoor

/- TokD -/
namespace Go.Proofs.YtganfiajhokkmaaGreatDoor
open Go.RowKit Go.Deep

/-- A term's number. -/
theorem decimal_any (k n s : Int) (a : Option Addr) (len cap : Nat) (w : World) :
    Calls Tryz.prog 68 #[.agg #[.int .i64 k, .slice a len cap, .int .i64 n, .int .i64 s]] w fun e w' => e = .returned (.agg #[.int .i64 n, .int .i64 s]) ∧ ∃ o1 o2, w' = (w.alloc o1).alloc o2 := by
  go_enter Tryz.func68, Tryz.ntmps68
  go_wp2
  simp [bodyPost, results, Tryz.results68, go_sem]
  exact ⟨_, _, rfl⟩

set_option maxRecDepth 10000 in
theorem implTermOk_any (k n s : Int) (a : Option Addr) (len cap : Nat) (bs : List Int) (w : World) (hB : Bs w a len bs) (h1 : -9223372036854775808 ≤ n) (h2 : n ≤ 9223372036854775807) (h3 : -9223372036854775808 ≤ s) (h4 : s ≤ 9223372036854775807) :
    Calls Tryz.prog 65 #[.agg #[.int .i64 k, .slice a len cap, .int .i64 n, .int .i64 s]] w fun e w' => e = .returned (.bool (termOk k bs n s)) ∧ Below w.heap.size w w' := by
  have hB1 : ∀ o1, Bs (w.alloc o1) a len bs := fun o1 => hB.below (bl_alloc (Below.refl _ _) _)
  have HL : Hid (bs.length = len) := hB.1
  have hlm := hB.2.1
  clear hB
  by_cases k0 : k = 0
  · subst k0
    generalize hg : termOk 0 bs n s = r
    have HG : Hid (termOk 0 bs n s = r) := hg
    clear hg
    go_enter Tryz.func65, Tryz.ntmps65
    go_wp2_with (go_at_call 41; refine (isName_any a len cap bs _ (hB1 _)).mono ?_; rintro e w1 ⟨rfl, rfl⟩)
    all_goals go_ret
    all_goals (refine ⟨congrArg (fun b => Ending.returned (Value.bool b)) ?_, bl_alloc (Below.refl _ _) _⟩; rw [← HG.out]; clear HG; go_light; simp_all [termOk])
  by_cases k1 : k = 1
  · subst k1
    generalize hg : termOk 1 bs n s = r
    have HG : Hid (termOk 1 bs n s = r) := hg
    clear hg
    go_enter Tryz.func65, Tryz.ntmps65
    go_wp2_with (go_at_call 55; refine (within_any _ _ _ _).mono ?_; rintro e w1 ⟨rfl, rfl⟩)
    all_goals go_ret
    all_goals (refine ⟨congrArg (fun b => Ending.returned (Value.bool b)) ?_, bl_alloc (Below.refl _ _) _⟩; have hg := HG.out; have hl := HL.out; rw [← hg, Bool.eq_iff_iff]; go_light; simp [termOk, -List.length_eq_zero_iff]; try omega)
  by_cases k2 : k = 2
  · subst k2
    generalize hg : termOk 2 bs n s = r
    have HG : Hid (termOk 2 bs n s = r) := hg
    clear hg
    go_enter Tryz.func65, Tryz.ntmps65
    go_wp2_with (go_at_call 77; refine (isText_any a len cap bs _ (hB1 _)).mono ?_; rintro e w1 ⟨rfl, rfl⟩)
    all_goals go_ret
    all_goals (refine ⟨congrArg (fun b => Ending.returned (Value.bool b)) ?_, bl_alloc (Below.refl _ _) _⟩; rw [← HG.out]; clear HG; go_light; simp_all [termOk])
  by_cases k3 : k = 3
  · subst k3
    generalize hg : termOk 3 bs n s = r
    have HG : Hid (termOk 3 bs n s = r) := hg
    clear hg
    by_cases hl0 : len = 0
    · subst hl0
      go_enter Tryz.func65, Tryz.ntmps65
      go_wp2_with (first | (go_at_call 68; refine (decimal_any _ _ _ _ _ _ _).mono ?_; rintro e w1 ⟨rfl, o1, o2, rfl⟩) | (go_at_call 78; refine (decOk_any _ _ _ h1 h2 h3 h4).mono ?_; rintro e w2 ⟨rfl, o3, rfl⟩))
      go_ret
      refine ⟨congrArg (fun b => Ending.returned (Value.bool b)) ?_, ?_⟩
      · have hg := HG.out
        have hl := HL.out
        rw [← hg]
        simp [termOk, hl]
      · repeat (first | with_reducible exact Below.refl _ _ | with_reducible apply bl_alloc | with_reducible apply Below.drew)
    · have hl0' : ((len : Int) == 0) = false := by simp; omega
      go_enter Tryz.func65, Tryz.ntmps65
      go_wp2
      go_ret
      refine ⟨congrArg (fun b => Ending.returned (Value.bool b)) ?_, ?_⟩
      · have hg := HG.out
        have hl := HL.out
        have hz : (bs.length == 0) = false := by simp only [beq_eq_false_iff_ne, ne_eq]; omega
        rw [← hg]
        simp [termOk, hz, -List.length_eq_zero_iff, -beq_eq_false_iff_ne]
      · repeat (first | with_reducible exact Below.refl _ _ | with_reducible apply bl_alloc | with_reducible apply Below.drew)
  · have e : termOk k bs n s = false := by simp [termOk, k0, k1, k2, k3]
    rw [e]
    have g0 : (k == 0) = false := by simp; omega
    have g1 : (k == 1) = false := by simp; omega
    have g2 : (k == 2) = false := by simp; omega
    have g3 : (k == 3) = false := by simp; omega
    clear k0 k1 k2 k3 e
    go_enter Tryz.func65, Tryz.ntmps65
    go_wp2
    go_ret
    exact ⟨rfl, bl_alloc (Below.refl _ _) _⟩
end Go.Proofs.YtganfiajhokkmaaGreatDoor

/- TokE -/
namespace Go.Proofs.YtganfiajhokkmaaGreatDoor
open Go.RowKit Go.Deep

theorem specTermOk_any (k n s : Int) (a : Option Addr) (len cap : Nat) (bs : List Int) (w : World) (hB : Bs w a len bs) (h1 : -9223372036854775808 ≤ n) (h2 : n ≤ 9223372036854775807) :
    Calls Tryz.prog 34 #[.agg #[.int .i64 k, .slice a len cap, .int .i64 n, .int .i64 s]] w fun e w' => e = .returned (.bool (termOk k bs n s)) ∧ ∃ o1, w' = w.alloc o1 := by
  by_cases k0 : k = 0
  · subst k0; exact specTermOk_name n s a len cap bs w hB
  by_cases k1 : k = 1
  · subst k1; exact specTermOk_blank n s a len cap bs w hB
  by_cases k2 : k = 2
  · subst k2; exact specTermOk_text n s a len cap bs w hB
  by_cases k3 : k = 3
  · subst k3; exact specTermOk_number n s a len cap bs w hB h1 h2
  · exact specTermOk_other k n s a len cap bs w k0 k1 k2 k3

/-- A struct of four fields at the head of block b. -/
def At4 (w : World) (b : Nat) (v0 v1 v2 v3 : Value) : Prop :=
  b < w.heap.size ∧ w.cell? ⟨b, 0, none⟩ = some v0 ∧ w.cell? ⟨b, 1, none⟩ = some v1 ∧ w.cell? ⟨b, 2, none⟩ = some v2 ∧ w.cell? ⟨b, 3, none⟩ = some v3
theorem At4.below {w w' : World} {b : Nat} {v0 v1 v2 v3 : Value} (h : At4 w b v0 v1 v2 v3) (hb : Below w.heap.size w w') : At4 w' b v0 v1 v2 v3 := by
  obtain ⟨hl, h0, h1, h2, h3⟩ := h
  refine ⟨Nat.lt_of_lt_of_le hl hb.size, ?_, ?_, ?_, ?_⟩
  · exact (hb.cell (p := ⟨b, 0, none⟩) hl).trans h0
  · exact (hb.cell (p := ⟨b, 1, none⟩) hl).trans h1
  · exact (hb.cell (p := ⟨b, 2, none⟩) hl).trans h2
  · exact (hb.cell (p := ⟨b, 3, none⟩) hl).trans h3
theorem At4.new (w : World) (v0 v1 v2 v3 : Value) (t : TypeId) : At4 (w.alloc (.cells #[v0, v1, v2, v3] t)) w.heap.size v0 v1 v2 v3 := by
  refine ⟨by simp, ?_, ?_, ?_, ?_⟩ <;> simp [go_sem]
theorem bl_a {w : World} (o : Obj) : Below w.heap.size w (w.alloc o) := bl_alloc (Below.refl _ _) o

end Go.Proofs.YtganfiajhokkmaaGreatDoor

/- CmpA -/
namespace Go.Proofs.YtganfiajhokkmaaGreatDoor
open Go.RowKit Go.Deep

/-- 10 to the k. -/
def p10 : Nat → Int
  | 0 => 1
  | k + 1 => p10 k * 10
theorem p10_pos (k : Nat) : 1 ≤ p10 k := by
  induction k with
  | zero => simp [p10]
  | succ k ih => unfold p10; omega
theorem p10_mono {j k : Nat} (h : j ≤ k) : p10 j ≤ p10 k := by
  induction h with
  | refl => exact Int.le_refl _
  | @step m _ ih =>
    have e : p10 m.succ = p10 m * 10 := rfl
    have := p10_pos m
    omega
theorem p10_le {k : Nat} (h : k ≤ 6) : p10 k ≤ 1000000 := by
  have := p10_mono h
  have e : p10 6 = 1000000 := by decide
  omega

theorem tenTo_any (k : Nat) (w : World) (hk : k ≤ 6) : Calls Tryz.prog 80 #[.int .i64 k] w fun e w' => e = .returned (.int .i64 (p10 k)) ∧ w' = w := by
  go_enter Tryz.func80, Tryz.ntmps80
  go_wp2
  go_loop [3, 5] (fun n i => ∃ j : Nat, j ≤ k ∧ n = .int .i64 (p10 j) ∧ i = .int .i64 j) (fun _ i => k - (intOf i).toNat)
  case atStart => exact ⟨0, Nat.zero_le _, rfl, rfl⟩
  case round =>
    obtain ⟨j, hj, rfl, rfl⟩ := hrel
    have b1 := p10_pos j
    have b2 := p10_le (Nat.le_trans hj hk)
    go_wp2
    · go_round
      case rel => exact ⟨j + 1, by omega, by rfl, by go_num⟩
      case measure => simp [intOf]; omega
    · go_ret
      have e : j = k := by omega
      rw [e]
      exact ⟨rfl, rfl⟩

theorem l1pow_any (k : Nat) (w : World) (hk : k ≤ 6) : Calls Tryz.prog 72 #[.int .i64 k] w fun e w' => e = .returned (.int .i64 (p10 k)) ∧ w' = w := by
  go_enter Tryz.func72, Tryz.ntmps72
  go_wp2
  go_loop [3, 4] (fun n i => ∃ j : Nat, j ≤ k ∧ n = .int .i64 (p10 j) ∧ i = .int .i64 j) (fun _ i => k - (intOf i).toNat)
  case atStart => exact ⟨0, Nat.zero_le _, rfl, rfl⟩
  case round =>
    obtain ⟨j, hj, rfl, rfl⟩ := hrel
    have b1 := p10_pos j
    have b2 := p10_le (Nat.le_trans hj hk)
    go_wp2
    · go_round
      case rel => exact ⟨j + 1, by omega, by rfl, by go_num⟩
      case measure => simp [intOf]; omega
    · go_ret
      have e : j = k := by omega
      rw [e]
      exact ⟨rfl, rfl⟩

/-- -1, 0, 1. -/
def cmpI (x y : Int) : Int := if x < y then -1 else if y < x then 1 else 0
/-- The first of two that is not nought. -/
def orI (x y : Int) : Int := if x = 0 then y else x
end Go.Proofs.YtganfiajhokkmaaGreatDoor

/- CmpB -/
namespace Go.Proofs.YtganfiajhokkmaaGreatDoor
open Go.RowKit Go.Deep

/-- What is behind the point, as six digits. -/
def restOf (n : Int) (s : Nat) : Int := n.tmod (p10 s) * p10 (6 - s)
theorem tmod_bound (n q : Int) (hq : 1 ≤ q) : -q < n.tmod q ∧ n.tmod q < q := by
  have h1 := Int.tmod_lt_of_pos n (b := q) (by omega)
  have h2 : -q < n.tmod q := by
    have := Int.lt_tmod_of_pos n (b := q) (by omega)
    omega
  exact ⟨h2, h1⟩
/-- Two numbers: what is whole first, then the rest. -/
def cmpN (n : Int) (s : Nat) (n' : Int) (s' : Nat) : Int := orI (cmpI (n.tdiv (p10 s)) (n'.tdiv (p10 s'))) (cmpI (restOf n s) (restOf n' s'))

end Go.Proofs.YtganfiajhokkmaaGreatDoor

/- CmpC -/
namespace Go.Proofs.YtganfiajhokkmaaGreatDoor
open Go.RowKit Go.Deep

/-- Two texts by their bytes. -/
def cmpB (xs ys : List Int) : Int := Lib.compareBytes (Lib.bytesOf xs) (Lib.bytesOf ys)

theorem run_loadBytes {P : Program} (w : World) (b : Nat) : ∀ (n off : Nat) (bs : List Int) (acc : ByteArray), bs.length = n → (∀ i, i < n → w.cell? ⟨b, off + i, none⟩ = some (.int .u8 (bs[i]?.getD 0))) →
    (Extern.Bytes.loadBytes ⟨b, off, none⟩ n acc).run P w = .ok (bs.foldl (fun r n => r.push (UInt8.ofNat n.toNat)) acc) w
  | 0, off, bs, acc, hl, _ => by
    rw [List.eq_nil_of_length_eq_zero hl]
    rfl
  | n + 1, off, [], acc, hl, _ => by simp at hl
  | n + 1, off, x :: bs, acc, hl, hc => by
    have h0 : w.cell? ⟨b, off, none⟩ = some (.int .u8 x) := by simpa using hc 0 (by omega)
    have ih := run_loadBytes (P := P) w b n (off + 1) bs (acc.push (UInt8.ofNat x.toNat)) (by simpa using hl) (fun i hi => by
      have := hc (i + 1) (by omega)
      simp at this
      rw [show off + 1 + i = off + (i + 1) by omega]
      exact this)
    have ea : (⟨b, off, none⟩ : Addr).add 1 = ⟨b, off + 1, none⟩ := by simp [Addr.add]
    have hld : (load ⟨b, off, none⟩).run P w = .ok (.int .u8 x) w := by simp [go_sem, h0]
    unfold Extern.Bytes.loadBytes
    simp only [Sem.run_bind, hld, Result.andThen]
    rw [ea]
    exact ih

theorem Bs.bytes {P : Program} {w : World} {a : Option Addr} {len cap : Nat} {bs : List Int} (h : Bs w a len bs) : (Extern.Bytes.bytesOf (.slice a len cap)).run P w = .ok (strOfNums bs) w := by
  obtain ⟨hl, _, _, h4⟩ := h
  rcases h4 with h4 | ⟨b, off, rfl, _, hc⟩
  · subst h4
    have e : bs = [] := List.eq_nil_of_length_eq_zero hl
    subst e
    cases a with
    | none => rfl
    | some x => rfl
  · have := run_loadBytes (P := P) w b len off bs .empty hl hc
    show (Extern.Bytes.loadBytes ⟨b, off, none⟩ len .empty).run P w = _
    rw [this, foldl_push_bytes]
    simp [strOfNums, ByteArray.empty, ByteArray.emptyWithCapacity]
    rfl

end Go.Proofs.YtganfiajhokkmaaGreatDoor

/- CmpD -/
namespace Go.Proofs.YtganfiajhokkmaaGreatDoor
open Go.RowKit Go.Deep

/-- Two terms that may be: by kind, by text, by number: the first that tells. -/
def cmp3 (x y z : Int) : Int := orI x (orI y z)

theorem termOk_scale {k n s : Int} {bs : List Int} (h : termOk k bs n s = true) : 0 ≤ s ∧ s ≤ 6 := by
  unfold termOk at h
  split at h
  · simp at h; omega
  split at h
  · simp at h; omega
  split at h
  · simp at h; omega
  split at h
  · simp [numOk] at h; omega
  · simp at h

/-- Whatever two terms: what may not be first. -/
def cmpT (ok ok' : Bool) (c : Int) : Int := if ok then (if ok' then c else 1) else (if ok' then -1 else 0)

end Go.Proofs.YtganfiajhokkmaaGreatDoor

/- OrdA -/
namespace Go.Proofs.YtganfiajhokkmaaGreatDoor
open Go.RowKit Go.Deep

theorem u8_lt (a b : UInt8) : a < b ↔ a.toNat < b.toNat := UInt8.lt_iff_toNat_lt
theorem u8_eq {a b : UInt8} (h1 : ¬ a < b) (h2 : ¬ b < a) : a = b := by
  rw [u8_lt] at h1 h2
  exact UInt8.toNat_inj.1 (by omega)
theorem cb_zero : ∀ xs ys : List UInt8, Lib.compareBytes xs ys = 0 → xs = ys
  | [], [] => fun _ => rfl
  | [], _ :: _ => by simp [Lib.compareBytes]
  | _ :: _, [] => by simp [Lib.compareBytes]
  | a :: ar, b :: br => by
    unfold Lib.compareBytes
    intro h
    by_cases h1 : a < b
    · rw [if_pos h1] at h; omega
    · by_cases h2 : b < a
      · rw [if_neg h1, if_pos h2] at h; omega
      · rw [if_neg h1, if_neg h2] at h
        rw [u8_eq h1 h2, cb_zero ar br h]
theorem bytesOf_inj {xs ys : List Int} (hx : ∀ i : Nat, 0 ≤ xs[i]?.getD 0 ∧ xs[i]?.getD 0 ≤ 255) (hy : ∀ i : Nat, 0 ≤ ys[i]?.getD 0 ∧ ys[i]?.getD 0 ≤ 255) (h : Lib.bytesOf xs = Lib.bytesOf ys) : xs = ys := by
  have hl : xs.length = ys.length := by
    have := congrArg List.length h
    simpa [Lib.bytesOf] using this
  refine List.ext_getElem? fun i => ?_
  by_cases hi : i < xs.length
  · have h1 := congrArg (fun l => l[i]?) h
    simp only [Lib.bytesOf, List.getElem?_map, List.getElem?_eq_getElem hi, List.getElem?_eq_getElem (show i < ys.length by omega), Option.map_some, Option.some.injEq] at h1
    have hx' := hx i
    have hy' := hy i
    rw [List.getElem?_eq_getElem hi] at hx' ⊢
    rw [List.getElem?_eq_getElem (show i < ys.length by omega)] at hy' ⊢
    simp only [Option.getD_some] at hx' hy'
    have h2 := congrArg UInt8.toNat h1
    simp only [UInt8.toNat_ofNat'] at h2
    congr 1
    omega
  · rw [List.getElem?_eq_none (by omega), List.getElem?_eq_none (by omega)]

/-- A term's parts. -/
structure TD where
  k : Int
  bs : List Int
  n : Int
  s : Int
def TD.ok (x : TD) : Bool := termOk x.k x.bs x.n x.s
def TD.cmp (x y : TD) : Int := cmp3 (cmpI x.k y.k) (cmpB x.bs y.bs) (cmpN x.n x.s.toNat y.n y.s.toNat)
def TD.cT (x y : TD) : Int := cmpT x.ok y.ok (x.cmp y)
theorem cmpI_zero {a b : Int} (h : cmpI a b = 0) : a = b := by
  unfold cmpI at h
  split at h
  · omega
  · split at h <;> omega
theorem orI_zero {a b : Int} (h : orI a b = 0) : a = 0 ∧ b = 0 := by
  unfold orI at h
  split at h
  · exact ⟨by assumption, h⟩
  · omega
theorem scaled (n : Int) (s : Nat) (hs : s ≤ 6) : n * p10 (6 - s) = n.tdiv (p10 s) * 1000000 + restOf n s := by
  have h : s = 0 ∨ s = 1 ∨ s = 2 ∨ s = 3 ∨ s = 4 ∨ s = 5 ∨ s = 6 := by omega
  rcases h with rfl | rfl | rfl | rfl | rfl | rfl | rfl
  · have t := Int.mul_tdiv_add_tmod n 1; simp [restOf, p10]
  · have t := Int.mul_tdiv_add_tmod n 10; simp [restOf, p10]; omega
  · have t := Int.mul_tdiv_add_tmod n 100; simp [restOf, p10]; omega
  · have t := Int.mul_tdiv_add_tmod n 1000; simp [restOf, p10]; omega
  · have t := Int.mul_tdiv_add_tmod n 10000; simp [restOf, p10]; omega
  · have t := Int.mul_tdiv_add_tmod n 100000; simp [restOf, p10]; omega
  · have t := Int.mul_tdiv_add_tmod n 1000000; simp [restOf, p10]; omega
theorem num_same {n n' : Int} {s s' : Nat} (hs : s ≤ 6) (hs' : s' ≤ 6) (o : s = 0 ∨ n.tmod 10 ≠ 0) (o' : s' = 0 ∨ n'.tmod 10 ≠ 0) (h : cmpN n s n' s' = 0) : n = n' ∧ s = s' := by
  unfold cmpN at h
  obtain ⟨h1, h2⟩ := orI_zero h
  have h1 := cmpI_zero h1
  have h2 := cmpI_zero h2
  have e1 := scaled n s hs
  have e2 := scaled n' s' hs'
  rw [h1, h2] at e1
  have e : n * p10 (6 - s) = n' * p10 (6 - s') := by omega
  have c1 : s = 0 ∨ s = 1 ∨ s = 2 ∨ s = 3 ∨ s = 4 ∨ s = 5 ∨ s = 6 := by omega
  have c2 : s' = 0 ∨ s' = 1 ∨ s' = 2 ∨ s' = 3 ∨ s' = 4 ∨ s' = 5 ∨ s' = 6 := by omega
  have m1 := Int.mul_tdiv_add_tmod n 10
  have m2 := Int.mul_tdiv_add_tmod n' 10
  have b1 := tmod_bound n 10 (by omega)
  have b2 := tmod_bound n' 10 (by omega)
  clear h1 h2 e1 e2 h
  rcases c1 with rfl | rfl | rfl | rfl | rfl | rfl | rfl <;> rcases c2 with rfl | rfl | rfl | rfl | rfl | rfl | rfl <;> simp [p10] at e <;> omega
/-- Terms that may be and compare alike are the same. -/
theorem TD.same {x y : TD} (hx : ∀ i : Nat, 0 ≤ x.bs[i]?.getD 0 ∧ x.bs[i]?.getD 0 ≤ 255) (hy : ∀ i : Nat, 0 ≤ y.bs[i]?.getD 0 ∧ y.bs[i]?.getD 0 ≤ 255) (ok : x.ok = true) (h : x.cT y = 0) : x = y := by
  have oky : y.ok = true := by
    cases e : y.ok
    · unfold TD.cT cmpT at h
      rw [ok, e] at h
      simp at h
    · rfl
  have h' : x.cmp y = 0 := by
    unfold TD.cT cmpT at h
    rw [ok, oky] at h
    simpa using h
  obtain ⟨k, bs, n, s⟩ := x
  obtain ⟨k', bs', n', s'⟩ := y
  unfold TD.cmp cmp3 at h'
  obtain ⟨h1, h2⟩ := orI_zero h'
  obtain ⟨h2, h3⟩ := orI_zero h2
  have hk : k = k' := cmpI_zero h1
  have hbs : bs = bs' := bytesOf_inj hx hy (cb_zero _ _ h2)
  have h3 : cmpN n s.toNat n' s'.toNat = 0 := h3
  clear h1 h2
  subst hk hbs
  have o1 : termOk k bs n s = true := ok
  have o2 : termOk k bs n' s' = true := oky
  have s1 := termOk_scale o1
  have s2 := termOk_scale o2
  have hz : n = n' ∧ s = s' := by
    unfold termOk at o1 o2
    by_cases k0 : k = 0
    · rw [if_pos k0] at o1 o2; simp at o1 o2; omega
    by_cases k1 : k = 1
    · rw [if_neg k0, if_pos k1] at o1 o2
      simp at o1 o2
      have a1 : s = 0 := o1.2
      have a2 : s' = 0 := o2.2
      subst a1 a2
      have := num_same (s := 0) (s' := 0) (by omega) (by omega) (.inl rfl) (.inl rfl) h3
      exact ⟨this.1, rfl⟩
    by_cases k2 : k = 2
    · rw [if_neg k0, if_neg k1, if_pos k2] at o1 o2; simp at o1 o2; omega
    by_cases k3 : k = 3
    · rw [if_neg k0, if_neg k1, if_neg k2, if_pos k3] at o1 o2
      simp only [Bool.and_eq_true, numOk, Bool.or_eq_true, decide_eq_true_eq, beq_iff_eq, bne_iff_ne] at o1 o2
      have := num_same (s := s.toNat) (s' := s'.toNat) (by omega) (by omega) (o1.2.2.elim (fun h => .inl (by omega)) (fun h => .inr h)) (o2.2.2.elim (fun h => .inl (by omega)) (fun h => .inr h)) h3
      exact ⟨this.1, by omega⟩
    · rw [if_neg k0, if_neg k1, if_neg k2, if_neg k3] at o1; cases o1
  obtain ⟨rfl, rfl⟩ := hz
  rfl
end Go.Proofs.YtganfiajhokkmaaGreatDoor
