/- Marks in rows of numbers of the call's own: markRowS, heldRowS, markRowSS, heldRowSS. -/
import Derived.Test.YtdcaicoomldmgaaGreatDoorDvStwA
namespace Go.Proofs.YtdcaicoomldmgaaGreatDoor
open Go.RowKit Go.Deep
set_option maxRecDepth 100000

/-- Rows of numbers that may be marked. -/
def RwW (w : World) (a : Option Addr) (n : Nat) : Prop := n ≤ 1048576 ∧ (n = 0 ∨ ∃ g, a = some ⟨g, 0, none⟩ ∧ g < w.heap.size ∧ Ex w g (n * 3) ∧ Wr w g (n * 3))
/-- Row i is marked from q on. -/
structure MdR1 (w : World) (g : Nat) (q : Int) (i : Nat) : Prop where
  c0 : w.cell? ⟨g, i * 3, none⟩ = some (.int .i64 q)
  c1 : w.cell? ⟨g, i * 3 + 1, none⟩ = some (.int .i64 (q + 1))
  c2 : w.cell? ⟨g, i * 3 + 2, none⟩ = some (.int .i64 (q + 1 + 1))
def MdR (w : World) (a : Option Addr) (n : Nat) (k : Int) : Prop := n = 0 ∨ ∃ g, a = some ⟨g, 0, none⟩ ∧ g < w.heap.size ∧ ∀ i : Nat, i < n → MdR1 w g (k + 3 * (i : Int)) i
theorem RwW.but {w w' : World} {a : Option Addr} {n c : Nat} (h : RwW w a n) (hb : But c w w') (hc : NoB a n c) : RwW w' a n := by
  refine ⟨h.1, ?_⟩
  rcases h.2 with h0 | ⟨g, rfl, hl, hx, hw⟩
  · exact .inl h0
  · by_cases h0 : n = 0
    · exact .inl h0
    · have hne : g ≠ c := hc.ne (by omega)
      exact .inr ⟨g, rfl, by rw [hb.size]; exact hl, fun i hi => by rw [hb.cell (p := ⟨g, i, none⟩) hne]; exact hx i hi, fun i hi => by rw [hb.frozen (p := ⟨g, i, none⟩) hne]; exact hw i hi⟩
theorem MdR1.set {w : World} {g o : Nat} {q : Int} {i : Nat} {v : Value} (h : MdR1 w g q i) (ho : i * 3 + 3 ≤ o) : MdR1 (w.setCell ⟨g, o, none⟩ v) g q i := by
  refine ⟨?_, ?_, ?_⟩
  · rw [cell_set_other (by omega)]; exact h.c0
  · rw [cell_set_other (by omega)]; exact h.c1
  · rw [cell_set_other (by omega)]; exact h.c2
theorem MdR1.of {w w' : World} {g : Nat} {q : Int} {i : Nat} (h : MdR1 w g q i) (e : ∀ i, w'.cell? ⟨g, i, none⟩ = w.cell? ⟨g, i, none⟩) : MdR1 w' g q i := ⟨(e _).trans h.c0, (e _).trans h.c1, (e _).trans h.c2⟩
theorem MdR.but {w w' : World} {a : Option Addr} {n c : Nat} {k : Int} (h : MdR w a n k) (hb : But c w w') (hc : NoB a n c) : MdR w' a n k := by
  rcases h with h0 | ⟨g, rfl, hl, hx⟩
  · exact .inl h0
  · by_cases h0 : n = 0
    · exact .inl h0
    · have hne : g ≠ c := hc.ne (by omega)
      exact .inr ⟨g, rfl, by rw [hb.size]; exact hl, fun i hi => (hx i hi).of (fun i => hb.cell (p := ⟨g, i, none⟩) hne)⟩
theorem MdR.below {w w' : World} {a : Option Addr} {n : Nat} {k : Int} (h : MdR w a n k) (hb : Below w.heap.size w w') : MdR w' a n k := by
  rcases h with h0 | ⟨g, rfl, hl, hx⟩
  · exact .inl h0
  · exact .inr ⟨g, rfl, Nat.lt_of_lt_of_le hl hb.size, fun i hi => (hx i hi).of (fun i => hb.cell (p := ⟨g, i, none⟩) hl)⟩

theorem markRowS_zero (a : Option Addr) (cap : Nat) (k : Int) (w : World) : Calls Tryz.prog 29 #[.slice a 0 cap, .int .i64 k] w fun e w' => e = .returned (.int .i64 k) ∧ w' = w := by
  go_enter Tryz.func29, Tryz.ntmps29
  go_wp2
  refine wp_loop_rounds 1 ?_
  rw [rounds_succ]
  go_wp2
  go_ret
  exact ⟨rfl, rfl⟩
theorem heldRowS_zero (a : Option Addr) (cap : Nat) (k : Int) (w : World) : Calls Tryz.prog 30 #[.slice a 0 cap, .int .i64 k] w fun e w' => e = .returned (.int .i64 k) ∧ w' = w := by
  go_enter Tryz.func30, Tryz.ntmps30
  go_wp2
  refine wp_loop_rounds 1 ?_
  rw [rounds_succ]
  go_wp2
  go_ret
  exact ⟨rfl, rfl⟩

set_option maxHeartbeats 1000000 in
theorem markRowS_any (a : Option Addr) (n cap : Nat) (k : Int) (w : World) (h : RwW w a n) (hk : 0 ≤ k) (hk2 : k ≤ 4194304) :
    Calls Tryz.prog 29 #[.slice a n cap, .int .i64 k] w fun e w' => e = .returned (.int .i64 (k + 3 * (n : Int))) ∧ MdR w' a n k ∧ RwW w' a n ∧ ButT a n w w' := by
  obtain ⟨hl, h⟩ := h
  by_cases h0 : n = 0
  · subst h0
    refine (markRowS_zero a cap k w).mono ?_
    rintro e w' ⟨rfl, rfl⟩
    exact ⟨by simp, .inl rfl, ⟨by omega, .inl rfl⟩, .inl ⟨rfl, rfl⟩⟩
  rcases h with h | ⟨g, rfl, hg, hx, hw⟩
  · exact absurd h h0
  have HX : Hid (Ex w g (n * 3)) := hx
  have HW : Hid (Wr w g (n * 3)) := hw
  clear hx hw
  go_enter Tryz.func29, Tryz.ntmps29
  go_wp2_with fail
  go_loopw [1, 5] (fun a b wr => ∃ j : Nat, j ≤ n ∧ b = .int .i64 j ∧ a = .int .i64 (k + 3 * j) ∧ Hid (Ex wr g (n * 3)) ∧ Hid (Wr wr g (n * 3)) ∧ Hid (∀ i : Nat, i < j → MdR1 wr g (k + 3 * (i : Int)) i) ∧ Hid (But g w wr))
    (fun _ b _ => n - (intOf b).toNat)
  case atStart => exact ⟨0, Nat.zero_le _, rfl, by simp, HX, HW, fun i hi => absurd hi (Nat.not_lt_zero _), But.refl _ _⟩
  case round =>
    obtain ⟨j, hj, rfl, rfl, HE, HF, HD, HB⟩ := hrel
    clear HX HW
    by_cases hlt : j < n
    · obtain ⟨v0, e0⟩ := HE.out (j * 3) (by omega)
      obtain ⟨v1, e1⟩ := HE.out (j * 3 + 1) (by omega)
      obtain ⟨v2, e2⟩ := HE.out (j * 3 + 2) (by omega)
      have f0 := HF.out (j * 3) (by omega)
      have f1 := HF.out (j * 3 + 1) (by omega)
      have f2 := HF.out (j * 3 + 2) (by omega)
      go_wp2_with fail
      go_roundw
      case rel =>
        refine ⟨j + 1, by omega, by go_num, by go_num, ((HE.out.set).set).set, fun i hi => by rw [World.frozen?_setCell, World.frozen?_setCell, World.frozen?_setCell]; exact HF.out i hi, fun i hi => ?_, ((HB.out.set _ _).set _ _).set _ _⟩
        by_cases ij : i = j
        · subst ij
          refine ⟨?_, ?_, ?_⟩
          · rw [cell_set_other (by omega), cell_set_other (by omega)]; exact set_same e0
          · rw [cell_set_other (by omega)]; exact set_same (u := v1) (by rw [cell_set_other (by omega)]; exact e1)
          · exact set_same (u := v2) (by rw [cell_set_other (by omega), cell_set_other (by omega)]; exact e2)
        · exact (((HD.out i (by omega)).set (by omega)).set (by omega)).set (by omega)
      case measure => simp [intOf]; omega
    · obtain rfl : j = n := by omega
      go_wp2_with fail
      go_ret
      have hg' : g < wr.heap.size := by rw [HB.out.size]; exact hg
      exact ⟨rfl, .inr ⟨g, rfl, hg', HD.out⟩, ⟨hl, .inr ⟨g, rfl, hg', HE.out, HF.out⟩⟩, .inr ⟨g, by omega, rfl, HB.out⟩⟩

set_option maxHeartbeats 1000000 in
theorem heldRowS_any (a : Option Addr) (n cap : Nat) (k : Int) (w : World) (h : MdR w a n k) (hl : n ≤ 1048576) (hk : 0 ≤ k) (hk2 : k ≤ 4194304) :
    Calls Tryz.prog 30 #[.slice a n cap, .int .i64 k] w fun e w' => e = .returned (.int .i64 (k + 3 * (n : Int))) ∧ w' = w := by
  by_cases h0 : n = 0
  · subst h0
    refine (heldRowS_zero a cap k w).mono ?_
    rintro e w' ⟨rfl, rfl⟩
    exact ⟨by simp, rfl⟩
  rcases h with h | ⟨g, rfl, hg, hx⟩
  · exact absurd h h0
  have HX : Hid (∀ i : Nat, i < n → MdR1 w g (k + 3 * (i : Int)) i) := hx
  clear hx
  go_enter Tryz.func30, Tryz.ntmps30
  go_wp2_with fail
  go_loop [1, 5] (fun a b => ∃ j : Nat, j ≤ n ∧ b = .int .i64 j ∧ a = .int .i64 (k + 3 * j)) (fun _ b => n - (intOf b).toNat)
  case atStart => exact ⟨0, Nat.zero_le _, rfl, by simp⟩
  case round =>
    obtain ⟨j, hj, rfl, rfl⟩ := hrel
    by_cases hlt : j < n
    · obtain ⟨c0, c1, c2⟩ := HX.out j hlt
      go_wp2_with fail
      go_round
      case rel => exact ⟨j + 1, by omega, by go_num, by go_num⟩
      case measure => simp [intOf]; omega
    · obtain rfl : j = n := by omega
      go_wp2_with fail
      go_ret
      exact ⟨rfl, rfl⟩

/-- A row of rows that may be marked. -/
structure MS (w : World) (g n : Nat) (X : Nat → Option Addr) (L Cp : Nat → Nat) : Prop where
  sl : ∀ i, i < n → w.cell? ⟨g, i, none⟩ = some (.slice (X i) (L i) (Cp i))
  rw : ∀ i, i < n → RwW w (X i) (L i)
  off : ∀ i, i < n → NoB (X i) (L i) g
  dis : ∀ i j, i < n → j < n → i ≠ j → ∀ p, X j = some p → 0 < L j → NoB (X i) (L i) p.block
theorem MS.mark {w w' : World} {g n j : Nat} {X : Nat → Option Addr} {L Cp : Nat → Nat} (h : MS w g n X L Cp) (hj : j < n) (hb : ButT (X j) (L j) w w') (ht : RwW w' (X j) (L j)) : MS w' g n X L Cp := by
  rcases hb with ⟨_, rfl⟩ | ⟨c, hl, hX, hb⟩
  · exact h
  · have hoj := h.off j hj
    rw [hX] at hoj
    have hg : g ≠ c := fun e => hoj.ne hl e.symm
    refine ⟨fun i hi => by rw [hb.cell (p := ⟨g, i, none⟩) hg]; exact h.sl i hi, fun i hi => ?_, h.off, h.dis⟩
    by_cases ij : i = j
    · subst ij
      exact ht
    · exact (h.rw i hi).but hb (h.dis i j hi hj ij _ hX hl)
theorem MdR.mark {w w' : World} {g n i j : Nat} {X : Nat → Option Addr} {L Cp : Nat → Nat} {q : Int} (h : MdR w (X i) (L i) q) (hM : MS w g n X L Cp) (hi : i < n) (hj : j < n) (ij : i ≠ j) (hb : ButT (X j) (L j) w w') : MdR w' (X i) (L i) q := by
  rcases hb with ⟨_, rfl⟩ | ⟨c, hl, hX, hb⟩
  · exact h
  · exact h.but hb (hM.dis i j hi hj ij _ hX hl)

/-- Where the marks of list i begin. -/
def posR (L : Nat → Nat) (k : Int) : Nat → Int
  | 0 => k
  | i + 1 => posR L k i + 3 * (L i : Int)
theorem posR_le (L : Nat → Nat) (k : Int) (i : Nat) : k ≤ posR L k i := by
  induction i with
  | zero => exact Int.le_refl _
  | succ i ih => simp only [posR]; omega
/-- The blocks of the lists. -/
def InR (n : Nat) (X : Nat → Option Addr) (L : Nat → Nat) (b : Nat) : Prop := ∃ i, i < n ∧ 0 < L i ∧ ∃ p, X i = some p ∧ p.block = b

set_option maxHeartbeats 2000000 in
theorem markRowSS_any (g n cap : Nat) (X : Nat → Option Addr) (L Cp : Nat → Nat) (k : Int) (w : World) (hn : n ≤ 1048576) (hk : 0 ≤ k) (hp : ∀ i, i ≤ n → posR L k i ≤ 4194000) (hM : MS w g n X L Cp) :
    Calls Tryz.prog 47 #[.slice (some ⟨g, 0, none⟩) n cap, .int .i64 k] w fun e w' => e = .returned (.int .i64 (posR L k n)) ∧ (∀ i, i < n → MdR w' (X i) (L i) (posR L k i)) ∧ MS w' g n X L Cp ∧ Only (InR n X L) w w' := by
  have HM0 : Hid (MS w g n X L Cp) := hM
  have HP : Hid (∀ i, i ≤ n → posR L k i ≤ 4194000) := hp
  clear hM hp
  go_enter Tryz.func47, Tryz.ntmps47
  go_wp2_with fail
  go_loopw [1, 5] (fun a b wr => ∃ (j : Nat) (m : Int), j ≤ n ∧ b = .int .i64 j ∧ a = .int .i64 m ∧ Hid (m = posR L k j) ∧ Hid (MS wr g n X L Cp) ∧ Hid (∀ i, i < j → MdR wr (X i) (L i) (posR L k i)) ∧ Hid (Only (InR n X L) w wr))
    (fun _ b _ => n - (intOf b).toNat)
  case atStart => exact ⟨0, k, Nat.zero_le _, rfl, rfl, rfl, HM0, fun i hi => absurd hi (Nat.not_lt_zero _), Only.refl _ _⟩
  case round =>
    obtain ⟨j, m, hj, rfl, rfl, HQ, HM, HD, HO⟩ := hrel
    clear HM0
    have hm0 : 0 ≤ m := by have := posR_le L k j; rw [HQ.out]; omega
    have hm1 : m ≤ 4194000 := by rw [HQ.out]; exact HP.out j hj
    by_cases hlt : j < n
    · have hlen := (HM.out.rw j hlt).1
      have e1 := HM.out.sl j hlt
      go_wp2_with fail
      refine (markRowS_any (X j) (L j) (Cp j) m _ (HM.out.rw j hlt) (by omega) (by omega)).mono ?_
      rintro e w2 ⟨rfl, hmk, htx, hbt⟩
      have HM2 : Hid (MS w2 g n X L Cp) := HM.out.mark hlt hbt htx
      have HD2 : Hid (∀ i, i < j + 1 → MdR w2 (X i) (L i) (posR L k i)) := fun i hi => by
        by_cases ij : i = j
        · subst ij
          rw [← HQ.out]
          exact hmk
        · exact (HD.out i (by omega)).mark HM.out (by omega) hlt (by omega) hbt
      have HO2 : Hid (Only (InR n X L) w w2) := HO.out.mark hbt (fun hl p hX => ⟨j, hlt, hl, p, hX, rfl⟩)
      clear e1 hmk htx hbt HM HD HO
      go_wp2_with fail
      go_roundw
      case rel =>
        refine ⟨j + 1, _, by omega, by go_num, rfl, ?_, HM2, HD2, HO2⟩
        have := HQ.out
        show _ = posR L k j + 3 * (L j : Int)
        omega
      case measure => simp [intOf]; omega
    · obtain rfl : j = n := by omega
      go_wp2_with fail
      go_ret
      exact ⟨by rw [HQ.out]; rfl, HD.out, HM.out, HO.out⟩

set_option maxHeartbeats 2000000 in
theorem heldRowSS_any (g n cap : Nat) (X : Nat → Option Addr) (L Cp : Nat → Nat) (k : Int) (w : World) (hn : n ≤ 1048576) (hk : 0 ≤ k) (hp : ∀ i, i ≤ n → posR L k i ≤ 4194000) (hl : ∀ i, i < n → L i ≤ 1048576)
    (hs : ∀ i, i < n → w.cell? ⟨g, i, none⟩ = some (.slice (X i) (L i) (Cp i))) (hM : ∀ i, i < n → MdR w (X i) (L i) (posR L k i)) :
    Calls Tryz.prog 49 #[.slice (some ⟨g, 0, none⟩) n cap, .int .i64 k] w fun e w' => e = .returned (.int .i64 (posR L k n)) ∧ w' = w := by
  have HM0 : Hid (∀ i, i < n → MdR w (X i) (L i) (posR L k i)) := hM
  have HP : Hid (∀ i, i ≤ n → posR L k i ≤ 4194000) := hp
  have HL : Hid (∀ i, i < n → L i ≤ 1048576) := hl
  have HS : Hid (∀ i, i < n → w.cell? ⟨g, i, none⟩ = some (.slice (X i) (L i) (Cp i))) := hs
  clear hM hp hl hs
  go_enter Tryz.func49, Tryz.ntmps49
  go_wp2_with fail
  go_loop [1, 5] (fun a b => ∃ (j : Nat) (m : Int), j ≤ n ∧ b = .int .i64 j ∧ a = .int .i64 m ∧ Hid (m = posR L k j)) (fun _ b => n - (intOf b).toNat)
  case atStart => exact ⟨0, k, Nat.zero_le _, rfl, rfl, rfl⟩
  case round =>
    obtain ⟨j, m, hj, rfl, rfl, HQ⟩ := hrel
    have hm0 : 0 ≤ m := by have := posR_le L k j; rw [HQ.out]; omega
    have hm1 : m ≤ 4194000 := by rw [HQ.out]; exact HP.out j hj
    by_cases hlt : j < n
    · have hlen := HL.out j hlt
      have hd := HM0.out j hlt
      rw [← HQ.out] at hd
      have c1 := HS.out j hlt
      go_wp2_with fail
      refine (heldRowS_any (X j) (L j) (Cp j) m _ hd hlen (by omega) (by omega)).mono ?_
      rintro e w2 ⟨rfl, rfl⟩
      clear hd
      go_wp2_with fail
      go_round
      case rel =>
        refine ⟨j + 1, _, by omega, by go_num, rfl, ?_⟩
        have := HQ.out
        show _ = posR L k j + 3 * (L j : Int)
        omega
      case measure => simp [intOf]; omega
    · obtain rfl : j = n := by omega
      go_wp2_with fail
      go_ret
      exact ⟨by rw [HQ.out]; rfl, rfl⟩

theorem markRowSS_zero (a : Option Addr) (cap : Nat) (k : Int) (w : World) : Calls Tryz.prog 47 #[.slice a 0 cap, .int .i64 k] w fun e w' => e = .returned (.int .i64 k) ∧ w' = w := by
  go_enter Tryz.func47, Tryz.ntmps47
  go_wp2
  refine wp_loop_rounds 1 ?_
  rw [rounds_succ]
  go_wp2
  go_ret
  exact ⟨rfl, rfl⟩
theorem heldRowSS_zero (a : Option Addr) (cap : Nat) (k : Int) (w : World) : Calls Tryz.prog 49 #[.slice a 0 cap, .int .i64 k] w fun e w' => e = .returned (.int .i64 k) ∧ w' = w := by
  go_enter Tryz.func49, Tryz.ntmps49
  go_wp2
  refine wp_loop_rounds 1 ?_
  rw [rounds_succ]
  go_wp2
  go_ret
  exact ⟨rfl, rfl⟩
end Go.Proofs.YtdcaicoomldmgaaGreatDoor
