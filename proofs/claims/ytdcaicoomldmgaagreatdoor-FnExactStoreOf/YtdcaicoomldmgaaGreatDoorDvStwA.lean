/- Marks in a row of terms of the call's own: markTermS, heldTermS. -/
import Derived.Test.YtdcaicoomldmgaaGreatDoorDvGtxD
import Derived.Test.YtdcaicoomldmgaaGreatDoorMk07
namespace Go.Proofs.YtdcaicoomldmgaaGreatDoor
open Go.RowKit Go.Deep
set_option maxRecDepth 100000

/-- A text that is marked from k on. -/
def MarkedW (w : World) (a : Option Addr) (len : Nat) (k : Int) : Prop := len = 0 ∨ ∃ g, a = some ⟨g, 0, none⟩ ∧ g < w.heap.size ∧ ∀ i, i < len → w.cell? ⟨g, i, none⟩ = some (.int .u8 ((k + (i : Nat)) % 256))
theorem MarkedW.below {w w' : World} {a : Option Addr} {len : Nat} {k : Int} (h : MarkedW w a len k) (hb : Below w.heap.size w w') : MarkedW w' a len k := by
  rcases h with h | ⟨g, ha, hl, hc⟩
  · exact .inl h
  · exact .inr ⟨g, ha, Nat.lt_of_lt_of_le hl hb.size, fun i hi => (hb.cell (p := ⟨g, i, none⟩) hl).trans (hc i hi)⟩
theorem markW_zero (a : Option Addr) (cap : Nat) (k : Int) (w : World) : Calls Tryz.prog 89 #[.slice a 0 cap, .int .i64 k] w fun e w' => e = .returned (.int .i64 k) ∧ w' = w := by
  go_enter Tryz.func89, Tryz.ntmps89
  go_wp2
  refine wp_loop_rounds 1 ?_
  rw [rounds_succ]
  go_wp2
  go_ret
  exact ⟨rfl, rfl⟩
theorem heldW_any (a : Option Addr) (len cap : Nat) (k : Int) (w : World) (h : MarkedW w a len k) (hk : 0 ≤ k) (hk2 : k ≤ 4194304) (hlen : len ≤ 1048576) :
    Calls Tryz.prog 90 #[.slice a len cap, .int .i64 k] w fun e w' => e = .returned (.int .i64 (k + len)) ∧ w' = w := by
  rcases h with rfl | ⟨g, rfl, hl, hc⟩
  · go_enter Tryz.func90, Tryz.ntmps90
    go_wp2
    refine wp_loop_rounds 1 ?_
    rw [rounds_succ]
    go_wp2
    go_ret
    exact ⟨by simp, rfl⟩
  · go_enter Tryz.func90, Tryz.ntmps90
    go_wp2
    go_loop [1, 5] (fun q i => ∃ j : Nat, j ≤ len ∧ i = .int .i64 j ∧ q = .int .i64 (k + j)) (fun _ i => len - (intOf i).toNat)
    case atStart => exact ⟨0, Nat.zero_le _, rfl, by simp⟩
    case round =>
      obtain ⟨j, hj, rfl, rfl⟩ := hrel
      by_cases hlt : j < len
      · have hx := hc j hlt
        have hw : IntKind.u8.wrap (k + (j : Int)) = (k + (j : Int)) % 256 := by rw [IntKind.wrap_u8]
        clear hc
        go_wp2
        go_round
        case rel => exact ⟨j + 1, by omega, by go_num, by go_num⟩
        case measure => simp [intOf]; omega
      · obtain rfl : j = len := by omega
        go_wp2
        go_ret
        exact ⟨rfl, rfl⟩

/-- All blocks that are not told are as they were. -/
structure Only (S : Nat → Prop) (w w' : World) : Prop where
  os : w'.os = w.os
  tape : w'.tape = w.tape
  output : w'.output = w.output
  size : w'.heap.size = w.heap.size
  block : ∀ b, ¬ S b → w'.heap[b]? = w.heap[b]?
theorem Only.refl (S : Nat → Prop) (w : World) : Only S w w := ⟨rfl, rfl, rfl, rfl, fun _ _ => rfl⟩
theorem Only.but {S : Nat → Prop} {g : Nat} {w w1 w2 : World} (h : Only S w w1) (k : But g w1 w2) (hg : S g) : Only S w w2 :=
  ⟨k.os.trans h.os, k.tape.trans h.tape, k.output.trans h.output, k.size.trans h.size, fun b hb => (k.block b (fun e => hb (e ▸ hg))).trans (h.block b hb)⟩
theorem Only.set {S : Nat → Prop} {g i : Nat} {w w1 : World} {v : Value} (h : Only S w w1) (hg : S g) : Only S w (w1.setCell ⟨g, i, none⟩ v) := h.but ((But.refl g w1).set i v) hg
theorem Only.trans {S : Nat → Prop} {w w1 w2 : World} (h : Only S w w1) (k : Only S w1 w2) : Only S w w2 :=
  ⟨k.os.trans h.os, k.tape.trans h.tape, k.output.trans h.output, k.size.trans h.size, fun b hb => (k.block b hb).trans (h.block b hb)⟩
theorem Only.imp {S S' : Nat → Prop} {w w1 : World} (h : Only S w w1) (k : ∀ b, S b → S' b) : Only S' w w1 := ⟨h.os, h.tape, h.output, h.size, fun b hb => h.block b (fun e => hb (k b e))⟩
theorem Only.below {S : Nat → Prop} {B : Nat} {w w' : World} (h : Only S w w') (hS : ∀ b, S b → B ≤ b) : Below B w w' :=
  ⟨h.os, h.tape, h.output, by rw [h.size]; exact Nat.le_refl _, fun b hb => h.block b (fun e => by have := hS b e; omega)⟩
theorem Only.cell {S : Nat → Prop} {w w' : World} (h : Only S w w') {p : Addr} (hp : ¬ S p.block) : w'.cell? p = w.cell? p := World.cell?_of_block (w := w) (h.block p.block hp)
theorem Only.frozen {S : Nat → Prop} {w w' : World} (h : Only S w w') {p : Addr} (hp : ¬ S p.block) : w'.frozen? p = w.frozen? p := World.frozen?_of_block (w := w) (h.block p.block hp)

/-- A text that may be marked. -/
def TxW (w : World) (a : Option Addr) (len : Nat) : Prop := len ≤ 1048576 ∧ (len = 0 ∨ ∃ g, a = some ⟨g, 0, none⟩ ∧ g < w.heap.size ∧ ∀ i, i < len → U8 w g i ∧ w.frozen? ⟨g, i, none⟩ = false)
/-- A list does not lie in that block. -/
def NoB (a : Option Addr) (len b : Nat) : Prop := len = 0 ∨ ∀ p, a = some p → p.block ≠ b
/-- All is as it was but that list. -/
def ButT (a : Option Addr) (len : Nat) (w w' : World) : Prop := (len = 0 ∧ w' = w) ∨ ∃ g, 0 < len ∧ a = some ⟨g, 0, none⟩ ∧ But g w w'
theorem NoB.ne {g len b : Nat} (h : NoB (some ⟨g, 0, none⟩) len b) (hl : 0 < len) : g ≠ b := by
  rcases h with h | h
  · omega
  · exact h _ rfl

theorem TxW.but {w w' : World} {a : Option Addr} {len c : Nat} (h : TxW w a len) (hb : But c w w') (hc : NoB a len c) : TxW w' a len := by
  refine ⟨h.1, ?_⟩
  rcases h.2 with h0 | ⟨g, rfl, hl, hx⟩
  · exact .inl h0
  · by_cases h0 : len = 0
    · exact .inl h0
    · have hne : g ≠ c := hc.ne (by omega)
      refine .inr ⟨g, rfl, by rw [hb.size]; exact hl, fun i hi => ?_⟩
      unfold U8
      rw [hb.cell (p := ⟨g, i, none⟩) hne, hb.frozen (p := ⟨g, i, none⟩) hne]
      exact hx i hi
theorem TxW.set {w : World} {a : Option Addr} {len g i : Nat} {v : Value} (h : TxW w a len) (hc : NoB a len g) : TxW (w.setCell ⟨g, i, none⟩ v) a len := h.but ((But.refl g w).set i v) hc
theorem MarkedW.but {w w' : World} {a : Option Addr} {len c : Nat} {k : Int} (h : MarkedW w a len k) (hb : But c w w') (hc : NoB a len c) : MarkedW w' a len k := by
  rcases h with h0 | ⟨g, rfl, hl, hx⟩
  · exact .inl h0
  · by_cases h0 : len = 0
    · exact .inl h0
    · have hne : g ≠ c := hc.ne (by omega)
      exact .inr ⟨g, rfl, by rw [hb.size]; exact hl, fun i hi => (hb.cell (p := ⟨g, i, none⟩) hne).trans (hx i hi)⟩

theorem markText_any (a : Option Addr) (len cap : Nat) (k : Int) (w : World) (h : TxW w a len) (hk : 0 ≤ k) (hk2 : k ≤ 4194304) :
    Calls Tryz.prog 89 #[.slice a len cap, .int .i64 k] w fun e w' => e = .returned (.int .i64 (k + len)) ∧ MarkedW w' a len k ∧ TxW w' a len ∧ ButT a len w w' := by
  obtain ⟨hl, h⟩ := h
  by_cases h0 : len = 0
  · subst h0
    refine (markW_zero a cap k w).mono ?_
    rintro e w' ⟨rfl, rfl⟩
    exact ⟨by simp, .inl rfl, ⟨by omega, .inl rfl⟩, .inl ⟨rfl, rfl⟩⟩
  · rcases h with h | ⟨g, rfl, hg, hx⟩
    · exact absurd h h0
    · refine (markByteS_own g len cap k w hk hk2 hl (fun i hi => (hx i hi).1) (fun i hi => (hx i hi).2)).mono ?_
      rintro e w' ⟨rfl, hb, hc, hf⟩
      have hg' : g < w'.heap.size := by rw [hb.size]; exact hg
      exact ⟨rfl, .inr ⟨g, rfl, hg', hc⟩, ⟨hl, .inr ⟨g, rfl, hg', fun i hi => ⟨⟨_, hc i hi⟩, hf i hi⟩⟩⟩, .inr ⟨g, by omega, rfl, hb⟩⟩

/-- A row of terms that may be marked. -/
structure MT (w : World) (g n : Nat) (X : Nat → Option Addr) (L Cp : Nat → Nat) : Prop where
  ex : Ex w g (n * 4)
  wr : Wr w g (n * 4)
  sl : ∀ i, i < n → w.cell? ⟨g, i * 4 + 1, none⟩ = some (.slice (X i) (L i) (Cp i))
  tx : ∀ i, i < n → TxW w (X i) (L i)
  off : ∀ i, i < n → NoB (X i) (L i) g
  dis : ∀ i j, i < n → j < n → i ≠ j → ∀ p, X j = some p → 0 < L j → NoB (X i) (L i) p.block
theorem MT.set {w : World} {g n i : Nat} {X : Nat → Option Addr} {L Cp : Nat → Nat} (h : MT w g n X L Cp) (v : Value) (hi : i % 4 ≠ 1) : MT (w.setCell ⟨g, i, none⟩ v) g n X L Cp := by
  refine ⟨h.ex.set, fun j hj => by rw [World.frozen?_setCell]; exact h.wr j hj, fun j hj => ?_, fun j hj => (h.tx j hj).set (h.off j hj), h.off, h.dis⟩
  rw [cell_set_other (by omega)]
  exact h.sl j hj
theorem MT.mark {w w' : World} {g n j : Nat} {X : Nat → Option Addr} {L Cp : Nat → Nat} (h : MT w g n X L Cp) (hj : j < n) (hb : ButT (X j) (L j) w w') (ht : TxW w' (X j) (L j)) : MT w' g n X L Cp := by
  rcases hb with ⟨_, rfl⟩ | ⟨c, hl, hX, hb⟩
  · exact h
  · have hoj := h.off j hj
    rw [hX] at hoj
    have hg : g ≠ c := fun e => hoj.ne hl e.symm
    have e : ∀ i, w'.cell? ⟨g, i, none⟩ = w.cell? ⟨g, i, none⟩ := fun i => hb.cell (p := ⟨g, i, none⟩) hg
    refine ⟨fun i hi => by rw [e]; exact h.ex i hi, fun i hi => by rw [hb.frozen (p := ⟨g, i, none⟩) hg]; exact h.wr i hi, fun i hi => by rw [e]; exact h.sl i hi, fun i hi => ?_, h.off, h.dis⟩
    by_cases ij : i = j
    · subst ij
      exact ht
    · exact (h.tx i hi).but hb (h.dis i j hi hj ij _ hX hl)

/-- Where the marks of term i begin. -/
def posT (L : Nat → Nat) (k : Int) : Nat → Int
  | 0 => k
  | i + 1 => posT L k i + L i + 3
theorem posT_le (L : Nat → Nat) (k : Int) (i : Nat) : k ≤ posT L k i := by
  induction i with
  | zero => exact Int.le_refl _
  | succ i ih => simp only [posT]; omega

/-- Term i is marked from q on. -/
structure MdT (w : World) (g : Nat) (X : Nat → Option Addr) (L Cp : Nat → Nat) (q : Int) (i : Nat) : Prop where
  c0 : w.cell? ⟨g, i * 4, none⟩ = some (.int .i64 q)
  c1 : w.cell? ⟨g, i * 4 + 1, none⟩ = some (.slice (X i) (L i) (Cp i))
  t : MarkedW w (X i) (L i) (q + 1)
  c2 : w.cell? ⟨g, i * 4 + 2, none⟩ = some (.int .i64 (q + 1 + L i))
  c3 : w.cell? ⟨g, i * 4 + 3, none⟩ = some (.int .i64 (q + 1 + L i + 1))
theorem MdT.but {w w' : World} {g c : Nat} {X : Nat → Option Addr} {L Cp : Nat → Nat} {q : Int} {i : Nat} (h : MdT w g X L Cp q i) (hb : But c w w') (hg : g ≠ c) (hc : NoB (X i) (L i) c) : MdT w' g X L Cp q i := by
  have e : ∀ i, w'.cell? ⟨g, i, none⟩ = w.cell? ⟨g, i, none⟩ := fun i => hb.cell (p := ⟨g, i, none⟩) hg
  exact ⟨(e _).trans h.c0, (e _).trans h.c1, h.t.but hb hc, (e _).trans h.c2, (e _).trans h.c3⟩
theorem MdT.set {w : World} {g o : Nat} {X : Nat → Option Addr} {L Cp : Nat → Nat} {q : Int} {i : Nat} {v : Value} (h : MdT w g X L Cp q i) (ho : i * 4 + 4 ≤ o) (hc : NoB (X i) (L i) g) : MdT (w.setCell ⟨g, o, none⟩ v) g X L Cp q i := by
  refine ⟨?_, ?_, h.t.but ((But.refl g w).set o v) hc, ?_, ?_⟩
  · rw [cell_set_other (by omega)]; exact h.c0
  · rw [cell_set_other (by omega)]; exact h.c1
  · rw [cell_set_other (by omega)]; exact h.c2
  · rw [cell_set_other (by omega)]; exact h.c3
theorem MdT.mark {w w' : World} {g n i j : Nat} {X : Nat → Option Addr} {L Cp : Nat → Nat} {q : Int} (h : MdT w g X L Cp q i) (hM : MT w g n X L Cp) (hi : i < n) (hj : j < n) (ij : i ≠ j) (hb : ButT (X j) (L j) w w') : MdT w' g X L Cp q i := by
  rcases hb with ⟨_, rfl⟩ | ⟨c, hl, hX, hb⟩
  · exact h
  · have hoj := hM.off j hj
    rw [hX] at hoj
    exact h.but hb (fun e => hoj.ne hl e.symm) (hM.dis i j hi hj ij _ hX hl)
theorem MdT.below {w w' : World} {g : Nat} {X : Nat → Option Addr} {L Cp : Nat → Nat} {q : Int} {i : Nat} (h : MdT w g X L Cp q i) (hg : g < w.heap.size) (hb : Below w.heap.size w w') : MdT w' g X L Cp q i := by
  have e : ∀ i, w'.cell? ⟨g, i, none⟩ = w.cell? ⟨g, i, none⟩ := fun i => hb.cell (p := ⟨g, i, none⟩) hg
  exact ⟨(e _).trans h.c0, (e _).trans h.c1, h.t.below hb, (e _).trans h.c2, (e _).trans h.c3⟩

/-- The blocks of a row of terms and of their texts. -/
def InT (g n : Nat) (X : Nat → Option Addr) (L : Nat → Nat) (b : Nat) : Prop := b = g ∨ ∃ i, i < n ∧ 0 < L i ∧ ∃ p, X i = some p ∧ p.block = b
theorem Only.mark {S : Nat → Prop} {w w1 w2 : World} {a : Option Addr} {len : Nat} (h : Only S w w1) (hb : ButT a len w1 w2) (hS : 0 < len → ∀ p, a = some p → S p.block) : Only S w w2 := by
  rcases hb with ⟨_, rfl⟩ | ⟨c, hl, hX, hb⟩
  · exact h
  · exact h.but hb (hS hl _ hX)

set_option maxHeartbeats 2000000 in
theorem markTermS_any (g n cap : Nat) (X : Nat → Option Addr) (L Cp : Nat → Nat) (k : Int) (w : World) (hn : n ≤ 1048576) (hk : 0 ≤ k) (hp : ∀ i, i ≤ n → posT L k i ≤ 4194000) (hM : MT w g n X L Cp) :
    Calls Tryz.prog 46 #[.slice (some ⟨g, 0, none⟩) n cap, .int .i64 k] w fun e w' => e = .returned (.int .i64 (posT L k n)) ∧ (∀ i, i < n → MdT w' g X L Cp (posT L k i) i) ∧ Only (InT g n X L) w w' := by
  have HM0 : Hid (MT w g n X L Cp) := hM
  have HP : Hid (∀ i, i ≤ n → posT L k i ≤ 4194000) := hp
  clear hM hp
  go_enter Tryz.func46, Tryz.ntmps46
  go_wp2_with fail
  go_loopw [1, 5] (fun a b wr => ∃ (j : Nat) (m : Int), j ≤ n ∧ b = .int .i64 j ∧ a = .int .i64 m ∧ Hid (m = posT L k j) ∧ Hid (MT wr g n X L Cp) ∧ Hid (∀ i, i < j → MdT wr g X L Cp (posT L k i) i) ∧ Hid (Only (InT g n X L) w wr))
    (fun _ b _ => n - (intOf b).toNat)
  case atStart => exact ⟨0, k, Nat.zero_le _, rfl, rfl, rfl, HM0, fun i hi => absurd hi (Nat.not_lt_zero _), Only.refl _ _⟩
  case round =>
    obtain ⟨j, m, hj, rfl, rfl, HQ, HM, HD, HO⟩ := hrel
    clear HM0
    have hm0 : 0 ≤ m := by have := posT_le L k j; rw [HQ.out]; omega
    have hm1 : m ≤ 4194000 := by rw [HQ.out]; exact HP.out j hj
    by_cases hlt : j < n
    · have hlen := (HM.out.tx j hlt).1
      obtain ⟨v0, e0⟩ := HM.out.ex (j * 4) (by omega)
      have f0 := HM.out.wr (j * 4) (by omega)
      have e1 := HM.out.sl j hlt
      have HM1 : Hid (MT (wr.setCell ⟨g, j * 4, none⟩ (.int .i64 m)) g n X L Cp) := HM.out.set _ (by omega)
      have HC1 : Hid ((wr.setCell ⟨g, j * 4, none⟩ (.int .i64 m)).cell? ⟨g, j * 4, none⟩ = some (.int .i64 m)) := set_same e0
      have HD1 : Hid (∀ i, i < j → MdT (wr.setCell ⟨g, j * 4, none⟩ (.int .i64 m)) g X L Cp (posT L k i) i) := fun i hi => (HD.out i hi).set (by omega) (HM.out.off i (by omega))
      have HO1 : Hid (Only (InT g n X L) w (wr.setCell ⟨g, j * 4, none⟩ (.int .i64 m))) := HO.out.set (.inl rfl)
      go_wp2_with fail
      refine (markText_any (X j) (L j) (Cp j) (m + 1) _ (HM1.out.tx j hlt) (by omega) (by omega)).mono ?_
      rintro e w2 ⟨rfl, hmk, htx, hbt⟩
      have HM2 : Hid (MT w2 g n X L Cp) := HM1.out.mark hlt hbt htx
      have HD2 : Hid (∀ i, i < j → MdT w2 g X L Cp (posT L k i) i) := fun i hi => (HD1.out i hi).mark HM1.out (by omega) hlt (by omega) hbt
      have HO2 : Hid (Only (InT g n X L) w w2) := HO1.out.mark hbt (fun hl p hX => .inr ⟨j, hlt, hl, p, hX, rfl⟩)
      have HK2 : Hid (MarkedW w2 (X j) (L j) (m + 1)) := hmk
      have HC2 : Hid (w2.cell? ⟨g, j * 4, none⟩ = some (.int .i64 m)) := by
        rcases hbt with ⟨_, rfl⟩ | ⟨c, hl, hX, hb⟩
        · exact HC1.out
        · have hoj := HM1.out.off j hlt
          rw [hX] at hoj
          exact (hb.cell (p := ⟨g, j * 4, none⟩) (fun e => hoj.ne hl e.symm)).trans HC1.out
      clear e0 f0 e1 HM1 HC1 HD1 HO1 hmk htx hbt HM HD HO
      obtain ⟨v2, e2⟩ := HM2.out.ex (j * 4 + 2) (by omega)
      obtain ⟨v3, e3⟩ := HM2.out.ex (j * 4 + 3) (by omega)
      have f2 := HM2.out.wr (j * 4 + 2) (by omega)
      have f3 := HM2.out.wr (j * 4 + 3) (by omega)
      go_wp2_with fail
      go_roundw
      case rel =>
        have ho := HM2.out.off j hlt
        refine ⟨j + 1, _, by omega, by go_num, rfl, ?_, (HM2.out.set _ (by omega)).set _ (by omega), fun i hi => ?_, (HO2.out.set (.inl rfl)).set (.inl rfl)⟩
        · have := HQ.out
          show _ = posT L k j + L j + 3
          omega
        · by_cases ij : i = j
          · subst ij
            rw [← HQ.out]
            refine ⟨?_, ?_, (HK2.out.but ((But.refl g _).set _ _) ho).but ((But.refl g _).set _ _) ho, ?_, ?_⟩
            · rw [cell_set_other (by omega), cell_set_other (by omega)]; exact HC2.out
            · rw [cell_set_other (by omega), cell_set_other (by omega)]; exact HM2.out.sl i hlt
            · rw [cell_set_other (by omega)]; exact set_same e2
            · exact set_same (u := v3) (by rw [cell_set_other (by omega)]; exact e3)
          · exact ((HD2.out i (by omega)).set (by omega) (HM2.out.off i (by omega))).set (by omega) (HM2.out.off i (by omega))
      case measure => simp [intOf]; omega
    · obtain rfl : j = n := by omega
      go_wp2_with fail
      go_ret
      exact ⟨by rw [HQ.out]; rfl, HD.out, HO.out⟩

set_option maxHeartbeats 2000000 in
theorem heldTermS_any (g n cap : Nat) (X : Nat → Option Addr) (L Cp : Nat → Nat) (k : Int) (w : World) (hn : n ≤ 1048576) (hk : 0 ≤ k) (hp : ∀ i, i ≤ n → posT L k i ≤ 4194000) (hl : ∀ i, i < n → L i ≤ 1048576) (hM : ∀ i, i < n → MdT w g X L Cp (posT L k i) i) :
    Calls Tryz.prog 48 #[.slice (some ⟨g, 0, none⟩) n cap, .int .i64 k] w fun e w' => e = .returned (.int .i64 (posT L k n)) ∧ w' = w := by
  have HM0 : Hid (∀ i, i < n → MdT w g X L Cp (posT L k i) i) := hM
  have HP : Hid (∀ i, i ≤ n → posT L k i ≤ 4194000) := hp
  have HL : Hid (∀ i, i < n → L i ≤ 1048576) := hl
  clear hM hp hl
  go_enter Tryz.func48, Tryz.ntmps48
  go_wp2_with fail
  go_loop [1, 5] (fun a b => ∃ (j : Nat) (m : Int), j ≤ n ∧ b = .int .i64 j ∧ a = .int .i64 m ∧ Hid (m = posT L k j)) (fun _ b => n - (intOf b).toNat)
  case atStart => exact ⟨0, k, Nat.zero_le _, rfl, rfl, rfl⟩
  case round =>
    obtain ⟨j, m, hj, rfl, rfl, HQ⟩ := hrel
    have hm0 : 0 ≤ m := by have := posT_le L k j; rw [HQ.out]; omega
    have hm1 : m ≤ 4194000 := by rw [HQ.out]; exact HP.out j hj
    by_cases hlt : j < n
    · have hlen := HL.out j hlt
      have hd := HM0.out j hlt
      rw [← HQ.out] at hd
      obtain ⟨c0, c1, ht, c2, c3⟩ := hd
      go_wp2_with fail
      refine (heldW_any (X j) (L j) (Cp j) (m + 1) _ ht (by omega) (by omega) hlen).mono ?_
      rintro e w2 ⟨rfl, rfl⟩
      clear ht
      go_wp2_with fail
      go_round
      case rel =>
        refine ⟨j + 1, _, by omega, by go_num, rfl, ?_⟩
        have := HQ.out
        show _ = posT L k j + L j + 3
        omega
      case measure => simp [intOf]; omega
    · obtain rfl : j = n := by omega
      go_wp2_with fail
      go_ret
      exact ⟨by rw [HQ.out]; rfl, rfl⟩

theorem markTermS_zero (a : Option Addr) (cap : Nat) (k : Int) (w : World) : Calls Tryz.prog 46 #[.slice a 0 cap, .int .i64 k] w fun e w' => e = .returned (.int .i64 k) ∧ w' = w := by
  go_enter Tryz.func46, Tryz.ntmps46
  go_wp2
  refine wp_loop_rounds 1 ?_
  rw [rounds_succ]
  go_wp2
  go_ret
  exact ⟨rfl, rfl⟩
theorem heldTermS_zero (a : Option Addr) (cap : Nat) (k : Int) (w : World) : Calls Tryz.prog 48 #[.slice a 0 cap, .int .i64 k] w fun e w' => e = .returned (.int .i64 k) ∧ w' = w := by
  go_enter Tryz.func48, Tryz.ntmps48
  go_wp2
  refine wp_loop_rounds 1 ?_
  rw [rounds_succ]
  go_wp2
  go_ret
  exact ⟨rfl, rfl⟩
end Go.Proofs.YtdcaicoomldmgaaGreatDoor
