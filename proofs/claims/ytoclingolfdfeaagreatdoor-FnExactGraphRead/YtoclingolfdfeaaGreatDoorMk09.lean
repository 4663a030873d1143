/- Texts put together: StwA LxR OpnC RdC RdD -/
import Derived.Test.YtoclingolfdfeaaGreatDoorMk08
import Derived.Test.YtoclingolfdfeaaGreatDoorMk07
import Derived.Test.YtoclingolfdfeaaGreatDoorMk01
import Derived.Test.YtoclingolfdfeaaGreatDoorMk02
import Derived.Test.YtoclingolfdfeaaGreatDoorShf
import Derived.BigQuiet
/- StwA -/
namespace Go.Proofs.YtoclingolfdfeaaGreatDoor
open Go.RowKit Go.Deep
set_option maxRecDepth 100000

/-- A text that is marked from k on. -/
def MarkedW (w : World) (a : Option Addr) (len : Nat) (k : Int) : Prop := len = 0 ∨ ∃ g, a = some ⟨g, 0, none⟩ ∧ g < w.heap.size ∧ ∀ i, i < len → w.cell? ⟨g, i, none⟩ = some (.int .u8 ((k + (i : Nat)) % 256))
theorem MarkedW.below {w w' : World} {a : Option Addr} {len : Nat} {k : Int} (h : MarkedW w a len k) (hb : Below w.heap.size w w') : MarkedW w' a len k := by
  rcases h with h | ⟨g, ha, hl, hc⟩
  · exact .inl h
  · exact .inr ⟨g, ha, Nat.lt_of_lt_of_le hl hb.size, fun i hi => (hb.cell (p := ⟨g, i, none⟩) hl).trans (hc i hi)⟩
theorem markW_zero (a : Option Addr) (cap : Nat) (k : Int) (w : World) : Calls Tryz.prog 24 #[.slice a 0 cap, .int .i64 k] w fun e w' => e = .returned (.int .i64 k) ∧ w' = w := by
  go_enter Tryz.func24, Tryz.ntmps24
  go_wp2
  refine wp_loop_rounds 1 ?_
  rw [rounds_succ]
  go_wp2
  go_ret
  exact ⟨rfl, rfl⟩
theorem heldW_any (a : Option Addr) (len cap : Nat) (k : Int) (w : World) (h : MarkedW w a len k) (hk : 0 ≤ k) (hk2 : k ≤ 4194304) (hlen : len ≤ 1048576) :
    Calls Tryz.prog 84 #[.slice a len cap, .int .i64 k] w fun e w' => e = .returned (.int .i64 (k + len)) ∧ w' = w := by
  rcases h with rfl | ⟨g, rfl, hl, hc⟩
  · go_enter Tryz.func84, Tryz.ntmps84
    go_wp2
    refine wp_loop_rounds 1 ?_
    rw [rounds_succ]
    go_wp2
    go_ret
    exact ⟨by simp, rfl⟩
  · go_enter Tryz.func84, Tryz.ntmps84
    go_wp2
    go_loop [1, 5] (fun q i => ∃ j : Nat, j ≤ len ∧ i = .int .i64 j ∧ q = .int .i64 (k + j)) (fun _ i => len - (intOf i).toNat)
    case atStart => exact ⟨0, Nat.zero_le _, rfl, by simp⟩
    case round =>
      obtain ⟨j, hj, rfl, rfl⟩ := hrel
      by_cases hlt : j < len
      · have hx := hc j hlt
        have hw : IntKind.u8.wrap (k + (j : Int)) = (k + (j : Int)) % 256 := by rw [IntKind.wrap_u8]
        clear hc
        go_wp2
        go_round
        case rel => exact ⟨j + 1, by omega, by go_num, by go_num⟩
        case measure => simp [intOf]; omega
      · obtain rfl : j = len := by omega
        go_wp2
        go_ret
        exact ⟨rfl, rfl⟩

/-- All blocks that are not told are as they were. -/
structure Only (S : Nat → Prop) (w w' : World) : Prop where
  os : w'.os = w.os
  tape : w'.tape = w.tape
  output : w'.output = w.output
  size : w'.heap.size = w.heap.size
  block : ∀ b, ¬ S b → w'.heap[b]? = w.heap[b]?
theorem Only.refl (S : Nat → Prop) (w : World) : Only S w w := ⟨rfl, rfl, rfl, rfl, fun _ _ => rfl⟩
theorem Only.but {S : Nat → Prop} {g : Nat} {w w1 w2 : World} (h : Only S w w1) (k : But g w1 w2) (hg : S g) : Only S w w2 :=
  ⟨k.os.trans h.os, k.tape.trans h.tape, k.output.trans h.output, k.size.trans h.size, fun b hb => (k.block b (fun e => hb (e ▸ hg))).trans (h.block b hb)⟩
theorem Only.set {S : Nat → Prop} {g i : Nat} {w w1 : World} {v : Value} (h : Only S w w1) (hg : S g) : Only S w (w1.setCell ⟨g, i, none⟩ v) := h.but ((But.refl g w1).set i v) hg
theorem Only.trans {S : Nat → Prop} {w w1 w2 : World} (h : Only S w w1) (k : Only S w1 w2) : Only S w w2 :=
  ⟨k.os.trans h.os, k.tape.trans h.tape, k.output.trans h.output, k.size.trans h.size, fun b hb => (k.block b hb).trans (h.block b hb)⟩
theorem Only.imp {S S' : Nat → Prop} {w w1 : World} (h : Only S w w1) (k : ∀ b, S b → S' b) : Only S' w w1 := ⟨h.os, h.tape, h.output, h.size, fun b hb => h.block b (fun e => hb (k b e))⟩
theorem Only.below {S : Nat → Prop} {B : Nat} {w w' : World} (h : Only S w w') (hS : ∀ b, S b → B ≤ b) : Below B w w' :=
  ⟨h.os, h.tape, h.output, by rw [h.size]; exact Nat.le_refl _, fun b hb => h.block b (fun e => by have := hS b e; omega)⟩
theorem Only.cell {S : Nat → Prop} {w w' : World} (h : Only S w w') {p : Addr} (hp : ¬ S p.block) : w'.cell? p = w.cell? p := World.cell?_of_block (w := w) (h.block p.block hp)
theorem Only.frozen {S : Nat → Prop} {w w' : World} (h : Only S w w') {p : Addr} (hp : ¬ S p.block) : w'.frozen? p = w.frozen? p := World.frozen?_of_block (w := w) (h.block p.block hp)

/-- A text that may be marked. -/
def TxW (w : World) (a : Option Addr) (len : Nat) : Prop := len ≤ 1048576 ∧ (len = 0 ∨ ∃ g, a = some ⟨g, 0, none⟩ ∧ g < w.heap.size ∧ ∀ i, i < len → U8 w g i ∧ w.frozen? ⟨g, i, none⟩ = false)
/-- A list does not lie in that block. -/
def NoB (a : Option Addr) (len b : Nat) : Prop := len = 0 ∨ ∀ p, a = some p → p.block ≠ b
/-- All is as it was but that list. -/
def ButT (a : Option Addr) (len : Nat) (w w' : World) : Prop := (len = 0 ∧ w' = w) ∨ ∃ g, 0 < len ∧ a = some ⟨g, 0, none⟩ ∧ But g w w'
theorem NoB.ne {g len b : Nat} (h : NoB (some ⟨g, 0, none⟩) len b) (hl : 0 < len) : g ≠ b := by
  rcases h with h | h
  · omega
  · exact h _ rfl

theorem TxW.but {w w' : World} {a : Option Addr} {len c : Nat} (h : TxW w a len) (hb : But c w w') (hc : NoB a len c) : TxW w' a len := by
  refine ⟨h.1, ?_⟩
  rcases h.2 with h0 | ⟨g, rfl, hl, hx⟩
  · exact .inl h0
  · by_cases h0 : len = 0
    · exact .inl h0
    · have hne : g ≠ c := hc.ne (by omega)
      refine .inr ⟨g, rfl, by rw [hb.size]; exact hl, fun i hi => ?_⟩
      unfold U8
      rw [hb.cell (p := ⟨g, i, none⟩) hne, hb.frozen (p := ⟨g, i, none⟩) hne]
      exact hx i hi
theorem TxW.set {w : World} {a : Option Addr} {len g i : Nat} {v : Value} (h : TxW w a len) (hc : NoB a len g) : TxW (w.setCell ⟨g, i, none⟩ v) a len := h.but ((But.refl g w).set i v) hc
theorem MarkedW.but {w w' : World} {a : Option Addr} {len c : Nat} {k : Int} (h : MarkedW w a len k) (hb : But c w w') (hc : NoB a len c) : MarkedW w' a len k := by
  rcases h with h0 | ⟨g, rfl, hl, hx⟩
  · exact .inl h0
  · by_cases h0 : len = 0
    · exact .inl h0
    · have hne : g ≠ c := hc.ne (by omega)
      exact .inr ⟨g, rfl, by rw [hb.size]; exact hl, fun i hi => (hb.cell (p := ⟨g, i, none⟩) hne).trans (hx i hi)⟩

theorem markText_any (a : Option Addr) (len cap : Nat) (k : Int) (w : World) (h : TxW w a len) (hk : 0 ≤ k) (hk2 : k ≤ 4194304) :
    Calls Tryz.prog 24 #[.slice a len cap, .int .i64 k] w fun e w' => e = .returned (.int .i64 (k + len)) ∧ MarkedW w' a len k ∧ TxW w' a len ∧ ButT a len w w' := by
  obtain ⟨hl, h⟩ := h
  by_cases h0 : len = 0
  · subst h0
    refine (markW_zero a cap k w).mono ?_
    rintro e w' ⟨rfl, rfl⟩
    exact ⟨by simp, .inl rfl, ⟨by omega, .inl rfl⟩, .inl ⟨rfl, rfl⟩⟩
  · rcases h with h | ⟨g, rfl, hg, hx⟩
    · exact absurd h h0
    · refine (markByteS_own g len cap k w hk hk2 hl (fun i hi => (hx i hi).1) (fun i hi => (hx i hi).2)).mono ?_
      rintro e w' ⟨rfl, hb, hc, hf⟩
      have hg' : g < w'.heap.size := by rw [hb.size]; exact hg
      exact ⟨rfl, .inr ⟨g, rfl, hg', hc⟩, ⟨hl, .inr ⟨g, rfl, hg', fun i hi => ⟨⟨_, hc i hi⟩, hf i hi⟩⟩⟩, .inr ⟨g, by omega, rfl, hb⟩⟩

/-- A row of terms that may be marked. -/
structure MTT (w : World) (g n : Nat) (X : Nat → Option Addr) (L Cp : Nat → Nat) : Prop where
  ex : Ex w g (n * 4)
  wr : Wr w g (n * 4)
  sl : ∀ i, i < n → w.cell? ⟨g, i * 4 + 1, none⟩ = some (.slice (X i) (L i) (Cp i))
  tx : ∀ i, i < n → TxW w (X i) (L i)
  off : ∀ i, i < n → NoB (X i) (L i) g
  dis : ∀ i j, i < n → j < n → i ≠ j → ∀ p, X j = some p → 0 < L j → NoB (X i) (L i) p.block
theorem MTT.set {w : World} {g n i : Nat} {X : Nat → Option Addr} {L Cp : Nat → Nat} (h : MTT w g n X L Cp) (v : Value) (hi : i % 4 ≠ 1) : MTT (w.setCell ⟨g, i, none⟩ v) g n X L Cp := by
  refine ⟨h.ex.set, fun j hj => by rw [World.frozen?_setCell]; exact h.wr j hj, fun j hj => ?_, fun j hj => (h.tx j hj).set (h.off j hj), h.off, h.dis⟩
  rw [cell_set_other (by omega)]
  exact h.sl j hj
theorem MTT.mark {w w' : World} {g n j : Nat} {X : Nat → Option Addr} {L Cp : Nat → Nat} (h : MTT w g n X L Cp) (hj : j < n) (hb : ButT (X j) (L j) w w') (ht : TxW w' (X j) (L j)) : MTT w' g n X L Cp := by
  rcases hb with ⟨_, rfl⟩ | ⟨c, hl, hX, hb⟩
  · exact h
  · have hoj := h.off j hj
    rw [hX] at hoj
    have hg : g ≠ c := fun e => hoj.ne hl e.symm
    have e : ∀ i, w'.cell? ⟨g, i, none⟩ = w.cell? ⟨g, i, none⟩ := fun i => hb.cell (p := ⟨g, i, none⟩) hg
    refine ⟨fun i hi => by rw [e]; exact h.ex i hi, fun i hi => by rw [hb.frozen (p := ⟨g, i, none⟩) hg]; exact h.wr i hi, fun i hi => by rw [e]; exact h.sl i hi, fun i hi => ?_, h.off, h.dis⟩
    by_cases ij : i = j
    · subst ij
      exact ht
    · exact (h.tx i hi).but hb (h.dis i j hi hj ij _ hX hl)

/-- Where the marks of term i begin. -/
def posT (L : Nat → Nat) (k : Int) : Nat → Int
  | 0 => k
  | i + 1 => posT L k i + L i + 3
theorem posT_le (L : Nat → Nat) (k : Int) (i : Nat) : k ≤ posT L k i := by
  induction i with
  | zero => exact Int.le_refl _
  | succ i ih => simp only [posT]; omega

/-- Term i is marked from q on. -/
structure MdT (w : World) (g : Nat) (X : Nat → Option Addr) (L Cp : Nat → Nat) (q : Int) (i : Nat) : Prop where
  c0 : w.cell? ⟨g, i * 4, none⟩ = some (.int .i64 q)
  c1 : w.cell? ⟨g, i * 4 + 1, none⟩ = some (.slice (X i) (L i) (Cp i))
  t : MarkedW w (X i) (L i) (q + 1)
  c2 : w.cell? ⟨g, i * 4 + 2, none⟩ = some (.int .i64 (q + 1 + L i))
  c3 : w.cell? ⟨g, i * 4 + 3, none⟩ = some (.int .i64 (q + 1 + L i + 1))
theorem MdT.but {w w' : World} {g c : Nat} {X : Nat → Option Addr} {L Cp : Nat → Nat} {q : Int} {i : Nat} (h : MdT w g X L Cp q i) (hb : But c w w') (hg : g ≠ c) (hc : NoB (X i) (L i) c) : MdT w' g X L Cp q i := by
  have e : ∀ i, w'.cell? ⟨g, i, none⟩ = w.cell? ⟨g, i, none⟩ := fun i => hb.cell (p := ⟨g, i, none⟩) hg
  exact ⟨(e _).trans h.c0, (e _).trans h.c1, h.t.but hb hc, (e _).trans h.c2, (e _).trans h.c3⟩
theorem MdT.set {w : World} {g o : Nat} {X : Nat → Option Addr} {L Cp : Nat → Nat} {q : Int} {i : Nat} {v : Value} (h : MdT w g X L Cp q i) (ho : i * 4 + 4 ≤ o) (hc : NoB (X i) (L i) g) : MdT (w.setCell ⟨g, o, none⟩ v) g X L Cp q i := by
  refine ⟨?_, ?_, h.t.but ((But.refl g w).set o v) hc, ?_, ?_⟩
  · rw [cell_set_other (by omega)]; exact h.c0
  · rw [cell_set_other (by omega)]; exact h.c1
  · rw [cell_set_other (by omega)]; exact h.c2
  · rw [cell_set_other (by omega)]; exact h.c3
theorem MdT.mark {w w' : World} {g n i j : Nat} {X : Nat → Option Addr} {L Cp : Nat → Nat} {q : Int} (h : MdT w g X L Cp q i) (hM : MTT w g n X L Cp) (hi : i < n) (hj : j < n) (ij : i ≠ j) (hb : ButT (X j) (L j) w w') : MdT w' g X L Cp q i := by
  rcases hb with ⟨_, rfl⟩ | ⟨c, hl, hX, hb⟩
  · exact h
  · have hoj := hM.off j hj
    rw [hX] at hoj
    exact h.but hb (fun e => hoj.ne hl e.symm) (hM.dis i j hi hj ij _ hX hl)
theorem MdT.below {w w' : World} {g : Nat} {X : Nat → Option Addr} {L Cp : Nat → Nat} {q : Int} {i : Nat} (h : MdT w g X L Cp q i) (hg : g < w.heap.size) (hb : Below w.heap.size w w') : MdT w' g X L Cp q i := by
  have e : ∀ i, w'.cell? ⟨g, i, none⟩ = w.cell? ⟨g, i, none⟩ := fun i => hb.cell (p := ⟨g, i, none⟩) hg
  exact ⟨(e _).trans h.c0, (e _).trans h.c1, h.t.below hb, (e _).trans h.c2, (e _).trans h.c3⟩

/-- The blocks of a row of terms and of their texts. -/
def InT (g n : Nat) (X : Nat → Option Addr) (L : Nat → Nat) (b : Nat) : Prop := b = g ∨ ∃ i, i < n ∧ 0 < L i ∧ ∃ p, X i = some p ∧ p.block = b
theorem Only.mark {S : Nat → Prop} {w w1 w2 : World} {a : Option Addr} {len : Nat} (h : Only S w w1) (hb : ButT a len w1 w2) (hS : 0 < len → ∀ p, a = some p → S p.block) : Only S w w2 := by
  rcases hb with ⟨_, rfl⟩ | ⟨c, hl, hX, hb⟩
  · exact h
  · exact h.but hb (hS hl _ hX)

end Go.Proofs.YtoclingolfdfeaaGreatDoor

/- LxR -/
namespace Go.Proofs.YtoclingolfdfeaaGreatDoor
open Go.RowKit Go.Deep
set_option maxRecDepth 100000

/-- Marks up to term q of a row. -/
structure MSt (w : World) (g n : Nat) (X : Nat → Option Addr) (L Cp : Nat → Nat) (k : Int) (q : Nat) (wr : World) : Prop where
  mt : MTT wr g n X L Cp
  md : ∀ i, i < q → MdT wr g X L Cp (posT L k i) i
  only : Only (InT g n X L) w wr
/-- A term is marked. -/
theorem MSt.one {w : World} {g n : Nat} {X : Nat → Option Addr} {L Cp : Nat → Nat} {k : Int} {q : Nat} {wr w2 : World} {m : Int} {o : Nat} (h : MSt w g n X L Cp k q wr) (hq : q < n) (ho : o = q * 4) (hm : m = posT L k q)
    (hmk : MarkedW w2 (X q) (L q) (m + 1)) (htx : TxW w2 (X q) (L q)) (hbt : ButT (X q) (L q) (wr.setCell ⟨g, o, none⟩ (.int .i64 m)) w2) :
    MTT w2 g n X L Cp ∧ MSt w g n X L Cp k (q + 1) ((w2.setCell ⟨g, o + 2, none⟩ (.int .i64 (m + 1 + L q))).setCell ⟨g, o + 3, none⟩ (.int .i64 (m + 1 + L q + 1))) := by
  subst ho
  obtain ⟨v0, e0⟩ := h.mt.ex (q * 4) (by omega)
  have M1 : MTT (wr.setCell ⟨g, q * 4, none⟩ (.int .i64 m)) g n X L Cp := h.mt.set _ (by omega)
  have C1 : (wr.setCell ⟨g, q * 4, none⟩ (.int .i64 m)).cell? ⟨g, q * 4, none⟩ = some (.int .i64 m) := set_same e0
  have D1 : ∀ i, i < q → MdT (wr.setCell ⟨g, q * 4, none⟩ (.int .i64 m)) g X L Cp (posT L k i) i := fun i hi => (h.md i hi).set (by omega) (h.mt.off i (by omega))
  have O1 : Only (InT g n X L) w (wr.setCell ⟨g, q * 4, none⟩ (.int .i64 m)) := h.only.set (.inl rfl)
  have M2 : MTT w2 g n X L Cp := M1.mark hq hbt htx
  have D2 : ∀ i, i < q → MdT w2 g X L Cp (posT L k i) i := fun i hi => (D1 i hi).mark M1 (by omega) hq (by omega) hbt
  have O2 : Only (InT g n X L) w w2 := O1.mark hbt (fun hl p hX => .inr ⟨q, hq, hl, p, hX, rfl⟩)
  have C2 : w2.cell? ⟨g, q * 4, none⟩ = some (.int .i64 m) := by
    rcases hbt with ⟨_, rfl⟩ | ⟨c, hl, hX, hb⟩
    · exact C1
    · have hoj := M1.off q hq
      rw [hX] at hoj
      exact (hb.cell (p := ⟨g, q * 4, none⟩) (fun e => hoj.ne hl e.symm)).trans C1
  obtain ⟨v2, e2⟩ := M2.ex (q * 4 + 2) (by omega)
  obtain ⟨v3, e3⟩ := M2.ex (q * 4 + 3) (by omega)
  have ho := M2.off q hq
  refine ⟨M2, (M2.set _ (by omega)).set _ (by omega), fun i hi => ?_, (O2.set (.inl rfl)).set (.inl rfl)⟩
  by_cases ij : i = q
  · subst ij
    rw [← hm]
    refine ⟨?_, ?_, (hmk.but ((But.refl g _).set _ _) ho).but ((But.refl g _).set _ _) ho, ?_, ?_⟩
    · rw [cell_set_other (by omega), cell_set_other (by omega)]; exact C2
    · rw [cell_set_other (by omega), cell_set_other (by omega)]; exact M2.sl i hq
    · rw [cell_set_other (by omega)]; exact set_same e2
    · exact set_same (u := v3) (by rw [cell_set_other (by omega)]; exact e3)
  · exact ((D2 i (by omega)).set (by omega) (M2.off i (by omega))).set (by omega) (M2.off i (by omega))
theorem MTT.slAt {w : World} {g n : Nat} {X : Nat → Option Addr} {L Cp : Nat → Nat} (h : MTT w g n X L Cp) {i o : Nat} (hi : i < n) (ho : o = i * 4 + 1) : w.cell? ⟨g, o, none⟩ = some (.slice (X i) (L i) (Cp i)) := by
  subst ho
  exact h.sl i hi

set_option maxHeartbeats 4000000 in
theorem markTriples_own (g n cap : Nat) (X : Nat → Option Addr) (L Cp : Nat → Nat) (k : Int) (w : World) (hn : n ≤ 1048576) (hk : 0 ≤ k) (hp : ∀ i, i ≤ 3 * n → posT L k i ≤ 4194000) (hM : MTT w g (3 * n) X L Cp) :
    Calls Tryz.prog 55 #[.slice (some ⟨g, 0, none⟩) n cap, .int .i64 k] w fun e w' => e = .returned (.int .i64 (posT L k (3 * n))) ∧ (∀ i, i < 3 * n → MdT w' g X L Cp (posT L k i) i) ∧ Only (InT g (3 * n) X L) w w' := by
  have HM0 : Hid (MSt w g (3 * n) X L Cp k 0 w) := ⟨hM, fun i hi => absurd hi (Nat.not_lt_zero _), Only.refl _ _⟩
  have HP : Hid (∀ i, i ≤ 3 * n → posT L k i ≤ 4194000) := hp
  clear hM hp
  go_enter Tryz.func55, Tryz.ntmps55
  go_wp2_with fail
  go_loopw [1, 5] (fun a b wr => ∃ (j : Nat) (m : Int), j ≤ n ∧ b = .int .i64 j ∧ a = .int .i64 m ∧ Hid (m = posT L k (3 * j)) ∧ Hid (MSt w g (3 * n) X L Cp k (3 * j) wr))
    (fun _ b _ => n - (intOf b).toNat)
  case atStart => exact ⟨0, k, Nat.zero_le _, rfl, rfl, rfl, HM0⟩
  case round =>
    obtain ⟨j, m, hj, rfl, rfl, HQ, HS0⟩ := hrel
    clear HM0
    have hm0 : 0 ≤ m := by have := posT_le L k (3 * j); rw [HQ.out]; omega
    have hm1 : m ≤ 4194000 := by rw [HQ.out]; exact HP.out (3 * j) (by omega)
    by_cases hlt : j < n
    · have hl0 := (HS0.out.mt.tx (3 * j) (by omega)).1
      have hl1 := (HS0.out.mt.tx (3 * j + 1) (by omega)).1
      have hl2 := (HS0.out.mt.tx (3 * j + 2) (by omega)).1
      have hp1 : posT L k (3 * j + 1) = m + L (3 * j) + 3 := by rw [HQ.out]; rfl
      have hp2 : posT L k (3 * j + 2) = posT L k (3 * j + 1) + L (3 * j + 1) + 3 := rfl
      have hp3 : posT L k (3 * j + 3) = posT L k (3 * j + 2) + L (3 * j + 2) + 3 := rfl
      have hb3 := HP.out (3 * j + 3) (by omega)
      have HP1 : Hid (posT L k (3 * j + 1) = m + L (3 * j) + 3) := hp1
      have HP2 : Hid (posT L k (3 * j + 2) = m + L (3 * j) + 3 + L (3 * j + 1) + 3) := by show _ = _; omega
      have HP3 : Hid (posT L k (3 * j + 3) = m + L (3 * j) + 3 + L (3 * j + 1) + 3 + L (3 * j + 2) + 3) := by show _ = _; omega
      have hbb : m + L (3 * j) + 3 + L (3 * j + 1) + 3 + L (3 * j + 2) + 3 ≤ 4194000 := by omega
      clear hp1 hp2 hp3 hb3
      obtain ⟨v0, e0⟩ := HS0.out.mt.ex (j * 12) (by omega)
      have f0 := HS0.out.mt.wr (j * 12) (by omega)
      have e1 := HS0.out.mt.slAt (i := 3 * j) (o := j * 12 + 1) (by omega) (by omega)
      go_wp2_with fail
      refine (markText_any (X (3 * j)) (L (3 * j)) (Cp (3 * j)) _ _ ((HS0.out.mt.set _ (by omega)).tx (3 * j) (by omega)) (by omega) (by omega)).mono ?_
      rintro e wx0 ⟨rfl, hmk, htx, hbt⟩
      have R := HS0.out.one (q := 3 * j) (o := j * 12) (m := m) (by omega) (by omega) (HQ.out) hmk htx hbt
      have HM0 : Hid (MTT wx0 g (3 * n) X L Cp) := R.1
      have HS1 : Hid (MSt w g (3 * n) X L Cp k (3 * j + 1) ((wx0.setCell ⟨g, j * 12 + 2, none⟩ (.int .i64 (m + 1 + L (3 * j)))).setCell ⟨g, j * 12 + 3, none⟩ (.int .i64 (m + 1 + L (3 * j) + 1)))) := R.2
      clear R hmk htx hbt HS0
      clear e0 f0 e1
      obtain ⟨v2, e2⟩ := HM0.out.ex (j * 12 + 2) (by omega)
      have f2 := HM0.out.wr (j * 12 + 2) (by omega)
      obtain ⟨v3, e3⟩ := HM0.out.ex (j * 12 + 3) (by omega)
      have f3 := HM0.out.wr (j * 12 + 3) (by omega)
      obtain ⟨v4, e4⟩ := HM0.out.ex (j * 12 + 4) (by omega)
      have f4 := HM0.out.wr (j * 12 + 4) (by omega)
      have e5 := HM0.out.slAt (i := 3 * j + 1) (o := j * 12 + 5) (by omega) (by omega)
      go_wp2_with fail
      refine (markText_any (X (3 * j + 1)) (L (3 * j + 1)) (Cp (3 * j + 1)) _ _ ((HS1.out.mt.set _ (by omega)).tx (3 * j + 1) (by omega)) (by omega) (by omega)).mono ?_
      rintro e wx1 ⟨rfl, hmk, htx, hbt⟩
      have R := HS1.out.one (q := 3 * j + 1) (o := j * 12 + 4) (m := (m + 1 + ↑(L (3 * j)) + 1 + 1)) (by omega) (by omega) (by rw [HP1.out]; omega) hmk htx hbt
      have HM1 : Hid (MTT wx1 g (3 * n) X L Cp) := R.1
      have HS2 : Hid (MSt w g (3 * n) X L Cp k (3 * j + 1 + 1) ((wx1.setCell ⟨g, j * 12 + 6, none⟩ (.int .i64 ((m + 1 + ↑(L (3 * j)) + 1 + 1) + 1 + L (3 * j + 1)))).setCell ⟨g, j * 12 + 7, none⟩ (.int .i64 ((m + 1 + ↑(L (3 * j)) + 1 + 1) + 1 + L (3 * j + 1) + 1)))) := R.2
      clear R hmk htx hbt HS1
      clear e2 f2 e3 f3 e4 f4 e5
      obtain ⟨v6, e6⟩ := HM1.out.ex (j * 12 + 6) (by omega)
      have f6 := HM1.out.wr (j * 12 + 6) (by omega)
      obtain ⟨v7, e7⟩ := HM1.out.ex (j * 12 + 7) (by omega)
      have f7 := HM1.out.wr (j * 12 + 7) (by omega)
      obtain ⟨v8, e8⟩ := HM1.out.ex (j * 12 + 8) (by omega)
      have f8 := HM1.out.wr (j * 12 + 8) (by omega)
      have e9 := HM1.out.slAt (i := 3 * j + 2) (o := j * 12 + 9) (by omega) (by omega)
      go_wp2_with fail
      refine (markText_any (X (3 * j + 2)) (L (3 * j + 2)) (Cp (3 * j + 2)) _ _ ((HS2.out.mt.set _ (by omega)).tx (3 * j + 2) (by omega)) (by omega) (by omega)).mono ?_
      rintro e wx2 ⟨rfl, hmk, htx, hbt⟩
      have R := HS2.out.one (q := 3 * j + 2) (o := j * 12 + 8) (m := (m + 1 + ↑(L (3 * j)) + 1 + 1 + 1 + ↑(L (3 * j + 1)) + 1 + 1)) (by omega) (by omega) (by rw [HP2.out]; omega) hmk htx hbt
      have HM2 : Hid (MTT wx2 g (3 * n) X L Cp) := R.1
      have HS3 : Hid (MSt w g (3 * n) X L Cp k (3 * j + 2 + 1) ((wx2.setCell ⟨g, j * 12 + 10, none⟩ (.int .i64 ((m + 1 + ↑(L (3 * j)) + 1 + 1 + 1 + ↑(L (3 * j + 1)) + 1 + 1) + 1 + L (3 * j + 2)))).setCell ⟨g, j * 12 + 11, none⟩ (.int .i64 ((m + 1 + ↑(L (3 * j)) + 1 + 1 + 1 + ↑(L (3 * j + 1)) + 1 + 1) + 1 + L (3 * j + 2) + 1)))) := R.2
      clear R hmk htx hbt HS2
      clear e6 f6 e7 f7 e8 f8 e9
      obtain ⟨v10, e10⟩ := HM2.out.ex (j * 12 + 10) (by omega)
      have f10 := HM2.out.wr (j * 12 + 10) (by omega)
      obtain ⟨v11, e11⟩ := HM2.out.ex (j * 12 + 11) (by omega)
      have f11 := HM2.out.wr (j * 12 + 11) (by omega)
      go_wp2_with fail
      go_roundw
      case rel =>
        refine ⟨j + 1, _, by omega, by go_num, rfl, ?_, ?_⟩
        · show _ = posT L k (3 * j + 3)
          rw [HP3.out]
          omega
        · exact HS3.out
      case measure => simp [intOf]; omega
    · obtain rfl : j = n := by omega
      go_wp2_with fail
      go_ret
      exact ⟨by rw [HQ.out]; rfl, HS0.out.md, HS0.out.only⟩

set_option maxHeartbeats 4000000 in
theorem heldTriples_own (g n cap : Nat) (X : Nat → Option Addr) (L Cp : Nat → Nat) (k : Int) (w : World) (hn : n ≤ 1048576) (hk : 0 ≤ k) (hp : ∀ i, i ≤ 3 * n → posT L k i ≤ 4194000) (hl : ∀ i, i < 3 * n → L i ≤ 1048576) (hM : ∀ i, i < 3 * n → MdT w g X L Cp (posT L k i) i) :
    Calls Tryz.prog 56 #[.slice (some ⟨g, 0, none⟩) n cap, .int .i64 k] w fun e w' => e = .returned (.int .i64 (posT L k (3 * n))) ∧ w' = w := by
  have HM0 : Hid (∀ i, i < 3 * n → MdT w g X L Cp (posT L k i) i) := hM
  have HP : Hid (∀ i, i ≤ 3 * n → posT L k i ≤ 4194000) := hp
  have HL : Hid (∀ i, i < 3 * n → L i ≤ 1048576) := hl
  clear hM hp hl
  go_enter Tryz.func56, Tryz.ntmps56
  go_wp2_with fail
  go_loop [1, 5] (fun a b => ∃ (j : Nat) (m : Int), j ≤ n ∧ b = .int .i64 j ∧ a = .int .i64 m ∧ Hid (m = posT L k (3 * j))) (fun _ b => n - (intOf b).toNat)
  case atStart => exact ⟨0, k, Nat.zero_le _, rfl, rfl, rfl⟩
  case round =>
    obtain ⟨j, m, hj, rfl, rfl, HQ⟩ := hrel
    have hm0 : 0 ≤ m := by have := posT_le L k (3 * j); rw [HQ.out]; omega
    have hm1 : m ≤ 4194000 := by rw [HQ.out]; exact HP.out (3 * j) (by omega)
    by_cases hlt : j < n
    · have hl0 := HL.out (3 * j) (by omega)
      have hl1 := HL.out (3 * j + 1) (by omega)
      have hl2 := HL.out (3 * j + 2) (by omega)
      have hp1 : posT L k (3 * j + 1) = m + L (3 * j) + 3 := by rw [HQ.out]; rfl
      have hp2 : posT L k (3 * j + 2) = posT L k (3 * j + 1) + L (3 * j + 1) + 3 := rfl
      have hp3 : posT L k (3 * j + 3) = posT L k (3 * j + 2) + L (3 * j + 2) + 3 := rfl
      have hb3 := HP.out (3 * j + 3) (by omega)
      have HP3 : Hid (posT L k (3 * j + 3) = m + L (3 * j) + 3 + L (3 * j + 1) + 3 + L (3 * j + 2) + 3) := by show _ = _; omega
      have hbb : m + L (3 * j) + 3 + L (3 * j + 1) + 3 + L (3 * j + 2) + 3 ≤ 4194000 := by omega
      have d0 := HM0.out (3 * j) (by omega)
      have d1 := HM0.out (3 * j + 1) (by omega)
      have d2 := HM0.out (3 * j + 2) (by omega)
      rw [← HQ.out] at d0
      rw [show posT L k (3 * j + 1) = m + 1 + L (3 * j) + 1 + 1 by omega] at d1
      rw [show posT L k (3 * j + 2) = m + 1 + L (3 * j) + 1 + 1 + 1 + L (3 * j + 1) + 1 + 1 by omega] at d2
      clear hp1 hp2 hp3 hb3
      obtain ⟨c0, c1, ht0, c2, c3⟩ := d0
      obtain ⟨c4, c5, ht1, c6, c7⟩ := d1
      obtain ⟨c8, c9, ht2, c10, c11⟩ := d2
      simp only [show 3 * j * 4 = j * 12 by omega] at c0 c1 c2 c3
      simp only [show (3 * j + 1) * 4 = j * 12 + 4 by omega, Nat.add_assoc, Nat.reduceAdd] at c4 c5 c6 c7
      simp only [show (3 * j + 2) * 4 = j * 12 + 8 by omega, Nat.add_assoc, Nat.reduceAdd] at c8 c9 c10 c11
      go_wp2_with fail
      refine (heldW_any (X (3 * j)) (L (3 * j)) (Cp (3 * j)) _ _ ht0 (by omega) (by omega) hl0).mono ?_
      rintro e w2 ⟨rfl, rfl⟩
      clear ht0
      go_wp2_with fail
      refine (heldW_any (X (3 * j + 1)) (L (3 * j + 1)) (Cp (3 * j + 1)) _ _ ht1 (by omega) (by omega) hl1).mono ?_
      rintro e w2 ⟨rfl, rfl⟩
      clear ht1
      go_wp2_with fail
      refine (heldW_any (X (3 * j + 2)) (L (3 * j + 2)) (Cp (3 * j + 2)) _ _ ht2 (by omega) (by omega) hl2).mono ?_
      rintro e w2 ⟨rfl, rfl⟩
      clear ht2
      go_wp2_with fail
      go_round
      case rel =>
        refine ⟨j + 1, _, by omega, by go_num, rfl, ?_⟩
        show _ = posT L k (3 * j + 3)
        rw [HP3.out]
        omega
      case measure => simp [intOf]; omega
    · obtain rfl : j = n := by omega
      go_wp2_with fail
      go_ret
      exact ⟨by rw [HQ.out]; rfl, rfl⟩
theorem markTriples_zero (a : Option Addr) (cap : Nat) (k : Int) (w : World) : Calls Tryz.prog 55 #[.slice a 0 cap, .int .i64 k] w fun e w' => e = .returned (.int .i64 k) ∧ w' = w := by
  go_enter Tryz.func55, Tryz.ntmps55
  go_wp2
  refine wp_loop_rounds 1 ?_
  rw [rounds_succ]
  go_wp2
  go_ret
  exact ⟨rfl, rfl⟩
theorem heldTriples_zero (a : Option Addr) (cap : Nat) (k : Int) (w : World) : Calls Tryz.prog 56 #[.slice a 0 cap, .int .i64 k] w fun e w' => e = .returned (.int .i64 k) ∧ w' = w := by
  go_enter Tryz.func56, Tryz.ntmps56
  go_wp2
  refine wp_loop_rounds 1 ?_
  rw [rounds_succ]
  go_wp2
  go_ret
  exact ⟨rfl, rfl⟩

end Go.Proofs.YtoclingolfdfeaaGreatDoor

/- OpnC -/
namespace Go.Proofs.YtoclingolfdfeaaGreatDoor
open Go.ChangeShapes Go.WideShapes Go.ChangeAt Go.RowKit Go.Joins

set_option maxRecDepth 100000 in
theorem open_code {H : Type} {enc : TypeId × Value → H} {W : World} {b0 : Nat} {v : Value} {d : DataW H} {p : List MemPlace}
    (hv : Value.okWide Tryz.prog W .any b0 22 v) (h : DataW.Trod enc Tryz.prog W 0 (fun _ => true) true 22 v d p) :
    ∃ (a : Option Addr) (len cap : Nat), v = .slice a len cap ∧ len ≤ 9223372036854775807 ∧ Code W a len := by
  obtain ⟨a1, len, cap, rfl⟩ := okWide_slice Tryz.underlying22 hv
  obtain ⟨fuel, hf⟩ := h
  refine ⟨a1, len, cap, rfl, ?_⟩
  rcases open_ints Tryz.underlying22 Tryz.underlying5 Tryz.cells5 hf with ⟨hcs, _⟩ | ⟨x, l, c, zs, hcs, _, hl, hm, hz, _, hcell, hwz⟩
  · simp [Value.cells] at hcs
    obtain ⟨rfl, rfl, rfl⟩ := hcs
    exact ⟨by omega, .inl rfl⟩
  · simp [Value.cells] at hcs
    obtain ⟨rfl, rfl, rfl⟩ := hcs
    simp only [if_true] at hz
    refine ⟨by unfold maxLen at hm; omega, ?_⟩
    by_cases h0 : len = 0
    · exact .inl h0
    right
    obtain ⟨b, off, spot⟩ := x
    have hc0 := hcell 0 (by omega)
    have hspot : spot = none := by simpa [Addr.add] using World.cell?_spot hc0
    subst hspot
    refine ⟨b, off, rfl, by simpa [Addr.add] using cell_lt hc0, fun i hi => ?_⟩
    have h := hcell i (by omega)
    have ea : (⟨b, off, none⟩ : Addr).add i = ⟨b, off + i, none⟩ := by
      by_cases h0 : i = 0 <;> simp [Addr.add, h0]
    rw [ea] at h
    have hil : i < zs.length := by omega
    have hb := bounds_u8 (hwz _ (List.getElem_mem hil))
    refine ⟨zs[i], ?_, hb.1, hb.2⟩
    rw [h, List.getD_eq_getElem?_getD, List.getElem?_eq_getElem hil]
    rfl
end Go.Proofs.YtoclingolfdfeaaGreatDoor

/- RdC -/
namespace Go.Proofs.YtoclingolfdfeaaGreatDoor
open Go.RowKit Go.Deep
set_option maxRecDepth 100000

/-- What a text says, between its signs. -/
def unq : Bool → List Int → List Int
  | _, [] => []
  | true, b :: r => b :: unq false r
  | false, [_] => []
  | false, b :: c :: r => if b = 92 then unq true (c :: r) else b :: unq false (c :: r)
theorem unq_esc (tx : List Int) : unq false (esc tx ++ [34]) = tx := by
  induction tx with
  | nil => rfl
  | cons b tx ih =>
    have e : esc (b :: tx) = (if b = 34 ∨ b = 92 then [92, b] else [b]) ++ esc tx := rfl
    obtain ⟨c, r, hc⟩ : ∃ c r, esc tx ++ [34] = c :: r := by
      cases h : esc tx with
      | nil => exact ⟨34, [], rfl⟩
      | cons c r => exact ⟨c, r ++ [34], rfl⟩
    rw [e]
    split
    · simp only [List.cons_append, List.nil_append]
      rw [unq, if_pos rfl, unq, ih]
    · rename_i h
      simp only [List.cons_append, List.nil_append]
      rw [hc, unq, if_neg (by omega), ← hc, ih]
theorem unq_byt : ∀ (l : List Int) (f : Bool), Byt l → Byt (unq f l)
  | [], f, _ => by cases f <;> exact Byt.nil
  | b :: r, true, h => Byt.cons (h b (List.mem_cons_self ..)) (unq_byt r false fun x hx => h x (List.mem_cons_of_mem _ hx))
  | [_], false, _ => Byt.nil
  | b :: c :: r, false, h => by
    rw [unq]
    split
    · exact unq_byt (c :: r) true fun x hx => h x (List.mem_cons_of_mem _ hx)
    · exact Byt.cons (h b (List.mem_cons_self ..)) (unq_byt (c :: r) false fun x hx => h x (List.mem_cons_of_mem _ hx))
theorem unq_len : ∀ (l : List Int) (f : Bool), (unq f l).length ≤ l.length
  | [], f => by cases f <;> simp [unq]
  | b :: r, true => by have := unq_len r false; simp [unq]; omega
  | [_], false => by simp [unq]
  | b :: c :: r, false => by
    have h1 := unq_len (c :: r) true
    have h2 := unq_len (c :: r) false
    rw [unq]
    split <;> simp at * <;> omega
theorem nums_byt (s : ByteArray) : Byt (numsOf s) := by
  intro x hx
  simp only [numsOf, List.mem_map] at hx
  obtain ⟨b, _, rfl⟩ := hx
  have := b.toNat_lt
  omega

/-- A row of bytes that may not be there yet. -/
def OwnB (w : World) (B : Nat) (v : Value) (bs : List Int) : Prop := w.ownsRow B 5 1 v bs.length (bs.map (Value.int .u8)) ∧ ((v = .slice none 0 0 ∧ bs = []) ∨ ∃ g cap, v = .slice (some ⟨g, 0, none⟩) bs.length cap ∧ Row8 w B g bs.length cap bs)
theorem OwnB.nil (w : World) (B : Nat) : OwnB w B (.slice none 0 0) [] := ⟨World.ownsRow_nil _ _ _ _, .inl ⟨rfl, rfl⟩⟩
theorem OwnB.of {w : World} {B g n cap : Nat} {bs : List Int} (h : Row8 w B g n cap bs) : OwnB w B (.slice (some ⟨g, 0, none⟩) n cap) bs := by
  have e := h.len
  subst e
  exact ⟨h.1, .inr ⟨g, cap, rfl, h⟩⟩
theorem OwnB.below {w w' : World} {B : Nat} {v : Value} {bs : List Int} (h : OwnB w B v bs) (hb : Below w.heap.size w w') : OwnB w' B v bs := by
  rcases h.2 with ⟨rfl, rfl⟩ | ⟨g, cap, rfl, hr⟩
  · exact OwnB.nil _ _
  · exact OwnB.of (hr.below hb)
theorem OwnB.tx {w w0 : World} {v : Value} {bs : List Int} (h : OwnB w w0.heap.size v bs) (hy : Byt bs) (hl : bs.length ≤ 1048576) (hb : Below w0.heap.size w0 w) : TxRes w0 bs (.returned v) w := by
  rcases h.2 with ⟨rfl, rfl⟩ | ⟨g, cap, rfl, hr⟩
  · exact ⟨none, 0, rfl, Nw.nil _ _, hb⟩
  · exact ⟨_, cap, rfl, hr.nw hy hl, hb⟩

set_option maxHeartbeats 1000000 in
theorem unquoted_any (s : ByteArray) (w : World) (h1 : 1 ≤ s.size) (hs : s.size ≤ 1048576) :
    Calls Tryz.prog 143 #[.string s] w fun e w' => TxRes w (unq false ((numsOf s).drop 1)) e w' := by
  have HY : Hid (Byt (unq false ((numsOf s).drop 1))) := unq_byt _ _ fun x hx => nums_byt s x (List.mem_of_mem_drop hx)
  have hL := unq_len ((numsOf s).drop 1) false
  rw [List.length_drop, numsOf_len] at hL
  generalize hE : unq false ((numsOf s).drop 1) = E at *
  have HE : Hid (unq false ((numsOf s).drop 1) = E) := hE
  have HL : Hid (E.length ≤ 1048576) := by show _ ≤ _; omega
  clear hE hL
  go_enter Tryz.func143, Tryz.ntmps143
  go_wp2_with fail
  go_loopw [3, 4] (fun x i wr => ∃ (k : Nat) (p : List Int) (a : Option Addr) (cap : Nat), 1 ≤ k ∧ k ≤ s.size ∧ i = .int .i64 k ∧ x = .slice a p.length cap ∧ p.length ≤ k ∧ Hid (OwnB wr w.heap.size (.slice a p.length cap) p) ∧ p ++ unq false ((numsOf s).drop k) = E ∧ Hid (Below w.heap.size w wr))
    (fun _ i _ => s.size - (intOf i).toNat)
  case atStart => exact ⟨1, [], none, 0, by omega, h1, rfl, rfl, by simp, OwnB.nil _ _, HE.out, Below.refl _ _⟩
  case round =>
    obtain ⟨k, p, a, cap, hk1, hk, rfl, rfl, hp, HO, hH, HB⟩ := hrel
    have HH : Hid (p ++ unq false ((numsOf s).drop k) = E) := hH
    clear hH HE
    by_cases hlt : k < s.size - 1
    · have HD : Hid ((numsOf s).drop k = ((s[k].toNat : Nat) : Int) :: (numsOf s).drop (k + 1)) := nums_drop s k (by omega)
      have HD2 : Hid ((numsOf s).drop (k + 1) = ((s[k + 1].toNat : Nat) : Int) :: (numsOf s).drop (k + 1 + 1)) := nums_drop s (k + 1) (by omega)
      have hlt1 : k < s.size := by omega
      have hlt2 : k + 1 < s.size := by omega
      have hb1 : (k : Int) < (s.size : Int) - 1 := by omega
      obtain ⟨n, hn⟩ : ∃ n, n = p.length := ⟨_, rfl⟩
      have HN : Hid (p.length = n) := hn.symm
      rw [← hn] at HO hp ⊢
      have HRx : ∀ y : Int, Hid ((wr.alloc (.cells #[.int .u8 y] 5)).ownsRow w.heap.size 5 1 (.slice a n cap) n (p.map (Value.int .u8))) := fun y => by
        have := (HO.out.below (bl_a (.cells #[.int .u8 y] 5))).1
        rw [HN.out] at this
        exact this
      have HBx : ∀ y : Int, Hid (Below w.heap.size w (wr.alloc (.cells #[.int .u8 y] 5))) := fun y => bl_alloc HB.out _
      clear hn HO
      generalize hx : ((s[k].toNat : Nat) : Int) = x at *
      by_cases h92 : x = 92
      · subst h92
        generalize hy : ((s[k + 1].toNat : Nat) : Int) = y at *
        go_wp2_with (refine app8 rfl (.tmp 18) (.tmp 22) rfl w.heap.size _ n p rfl (HRx _) ⟨wr.heap.size, 0, none⟩ 1 _ [y] rfl rfl (one_news wr y) (by omega) (n + 1) rfl _ rfl (by omega) (HBx y).out.size ?_; intro g3 cap3 w3 HR3 HG3 HA3 HW3)
        go_roundw
        case rel =>
          refine ⟨k + 2, p ++ [y], some ⟨g3, 0, none⟩, cap3, by omega, by omega, by go_num, ?_, ?_, ?_, ?_, ?_⟩
          · rw [List.length_append, HN.out]; rfl
          · have := HN.out; rw [List.length_append]; simp; omega
          · have := OwnB.of HR3.out; rw [List.length_append, HN.out]; exact this
          · have e := HH.out; rw [HD.out, HD2.out, unq, if_pos rfl, unq] at e; rw [← e]; simp
          · exact (HBx y).out.trans HW3.out
        case measure => simp [intOf]; omega
      · have h92' : (x == 92) = false := by simp [h92]
        go_wp2_with (refine app8 rfl (.tmp 18) (.tmp 22) rfl w.heap.size _ n p rfl (HRx _) ⟨wr.heap.size, 0, none⟩ 1 _ [x] rfl rfl (one_news wr x) (by omega) (n + 1) rfl _ rfl (by omega) (HBx x).out.size ?_; intro g3 cap3 w3 HR3 HG3 HA3 HW3)
        go_roundw
        case rel =>
          refine ⟨k + 1, p ++ [x], some ⟨g3, 0, none⟩, cap3, by omega, by omega, by go_num, ?_, ?_, ?_, ?_, ?_⟩
          · rw [List.length_append, HN.out]; rfl
          · have := HN.out; rw [List.length_append]; simp; omega
          · have := OwnB.of HR3.out; rw [List.length_append, HN.out]; exact this
          · have e := HH.out; rw [HD.out, HD2.out, unq, if_neg h92, ← HD2.out] at e; rw [← e]; simp
          · exact (HBx x).out.trans HW3.out
        case measure => simp [intOf]; omega
    · have e : unq false ((numsOf s).drop k) = [] := by
        by_cases h2 : k < s.size
        · rw [nums_drop s k h2, nums_end s (k + 1) (by omega), unq]
        · rw [nums_end s k h2, unq]
      have e2 := HH.out
      rw [e, List.append_nil] at e2
      subst e2
      have hb1 : ¬ (k : Int) < (s.size : Int) - 1 := by omega
      clear HH e
      go_wp2_with fail
      go_ret
      exact HO.out.tx HY.out HL.out HB.out
end Go.Proofs.YtoclingolfdfeaaGreatDoor

/- RdD -/
namespace Go.Proofs.YtoclingolfdfeaaGreatDoor
open Go.RowKit Go.Deep
set_option maxRecDepth 100000

def numsU (l : List UInt8) : List Int := l.map (fun b => (b.toNat : Int))
theorem numsOf_u (s : ByteArray) : numsOf s = numsU s.data.toList := rfl
theorem numsU_46 (b : UInt8) : (b == 46) = decide ((b.toNat : Int) = 46) := by
  rw [Bool.eq_iff_iff, beq_iff_eq, decide_eq_true_eq]
  constructor
  · rintro rfl; rfl
  · intro h
    apply UInt8.toNat_inj.1
    have : b.toNat = 46 := by omega
    rw [this]
    rfl
theorem index_cut (l : List UInt8) : (Lib.indexByte l 46 = -1 ∧ cutDot (numsU l) = (numsU l, [])) ∨ ∃ i : Nat, Lib.indexByte l 46 = i ∧ i < l.length ∧ cutDot (numsU l) = ((numsU l).take i, (numsU l).drop (i + 1)) := by
  induction l with
  | nil => exact .inl ⟨rfl, rfl⟩
  | cons b l ih =>
    have eN : numsU (b :: l) = (b.toNat : Int) :: numsU l := rfl
    rw [Lib.indexByte, numsU_46, eN, cutDot]
    by_cases hb : (b.toNat : Int) = 46
    · right
      refine ⟨0, by simp [hb], by simp, by simp [hb]⟩
    · rw [if_neg hb]
      rcases ih with ⟨h1, h2⟩ | ⟨i, h1, h2, h3⟩
      · left
        refine ⟨by simp [hb, h1], by rw [h2]⟩
      · right
        refine ⟨i + 1, ?_, by simp; omega, by rw [h3]; rfl⟩
        have hne : ((i : Int) == -1) = false := by simp
        rw [h1]
        simp [hb, hne]
def CutRes (s : ByteArray) (w : World) (e : Ending) (w' : World) : Prop := ∃ a b q, e = .returned (.tuple #[.string a, .string b, .bool q]) ∧ numsOf a = (cutDot (numsOf s)).1 ∧ numsOf b = (cutDot (numsOf s)).2 ∧ Below w.heap.size w w'
theorem cut1_any (s : ByteArray) (w : World) (hs : s.size ≤ 1048576) :
    Calls Tryz.prog 174 #[.string s, .string ⟨#[46]⟩] w (CutRes s w) := by
  have I := Tryz.stringslite_Index_one s 46
  have HC := index_cut s.data.toList
  have hm : (Tryz.prog).follows .mixedOrders = true := by kernel_rfl
  generalize Lib.indexByte s.data.toList 46 = ix at *
  rcases HC with ⟨rfl, h2⟩ | ⟨i, rfl, h2, h3⟩
  · have HC : Hid (cutDot (numsOf s) = (numsOf s, [])) := h2
    clear h2
    go_enter Tryz.func174, Tryz.ntmps174
    go_wp2_with (first | (go_at_call 178; refine (I _).mono ?_; rintro e w1 ⟨rfl, rfl⟩))
    refine bodyPost_ret (v := .tuple #[.string s, .string ⟨#[]⟩, .bool false]) (by simp [results, Tryz.results174, go_sem]) rfl ?_
    refine ⟨s, ⟨#[]⟩, false, rfl, ?_, ?_, Below.refl _ _⟩
    · rw [HC.out]
    · rw [HC.out]; rfl
  · have HC : Hid (cutDot (numsOf s) = ((numsOf s).take i, (numsOf s).drop (i + 1))) := h3
    have hi : i < s.size := by simpa using h2
    clear h2 h3
    go_enter Tryz.func174, Tryz.ntmps174
    go_wp2_with (first | (go_at_call 178; refine (I _).mono ?_; rintro e w1 ⟨rfl, rfl⟩))
    go_quiet (fail)
    all_goals go_wp2_with fail
    refine bodyPost_ret (v := .tuple #[.string (s.extract 0 i), .string (s.extract (i + 1) s.size), .bool true]) (by simp [results, Tryz.results174, go_sem]) rfl ?_
    refine ⟨_, _, true, rfl, ?_, ?_, below_drewN (Below.refl _ _) _⟩
    · rw [HC.out, nums_extract]; simp
    · rw [HC.out, nums_extract, List.take_of_length_le]
      rw [List.length_drop, numsOf_len]
      omega
theorem cut_any (s : ByteArray) (w : World) (hs : s.size ≤ 1048576) :
    Calls Tryz.prog 165 #[.string s, .string ⟨#[46]⟩] w (CutRes s w) := by
  go_enter Tryz.func165, Tryz.ntmps165
  go_wp2_with fail
  refine (cut1_any s _ hs).mono ?_
  rintro e w1 ⟨a, b, q, rfl, h1, h2, h3⟩
  have H1 : Hid (numsOf a = (cutDot (numsOf s)).1) := h1
  have H2 : Hid (numsOf b = (cutDot (numsOf s)).2) := h2
  have H3 : Hid (Below w.heap.size w w1) := h3
  clear h1 h2 h3
  go_wp2_with fail
  refine bodyPost_ret (v := .tuple #[.string a, .string b, .bool q]) (by simp [results, Tryz.results165, go_sem]) rfl ?_
  exact ⟨a, b, q, rfl, H1.out, H2.out, H3.out⟩

/-- The library's errors lie where they should. -/
def Errs (w : World) : Prop := 4 < w.heap.size ∧ 5 < w.heap.size ∧ (∃ t p, w.cell? ⟨4, 0, none⟩ = some (.iface t p)) ∧ ∃ t p, w.cell? ⟨5, 0, none⟩ = some (.iface t p)
theorem Errs.below {w w' : World} (h : Errs w) (hb : Below w.heap.size w w') : Errs w' := by
  obtain ⟨h1, h2, ⟨t, p, h3⟩, t', p', h4⟩ := h
  exact ⟨Nat.lt_of_lt_of_le h1 hb.size, Nat.lt_of_lt_of_le h2 hb.size, ⟨t, p, (hb.cell (p := ⟨4, 0, none⟩) h1).trans h3⟩, t', p', (hb.cell (p := ⟨5, 0, none⟩) h2).trans h4⟩
/-- What Atoi answers: a number and no error, or an error. -/
def AtoiRes (s : ByteArray) (w : World) (e : Ending) (w' : World) : Prop :=
  (∃ v, Lib.atoiAll s.data.toList = .ok v ∧ e = .returned (.tuple #[.int .i64 v, .nilIface]) ∧ Below w.heap.size w w') ∨ (∃ v t p, (∀ u, Lib.atoiAll s.data.toList ≠ .ok u) ∧ e = .returned (.tuple #[.int .i64 v, .iface t p]) ∧ Below w.heap.size w w')
theorem atoi_any (s : ByteArray) (w : World) (hs : s.size ≤ 1048576) (hE : Errs w) : Calls Tryz.prog 166 #[.string s] w (AtoiRes s w) := by
  obtain ⟨_, _, ⟨t1, p1, h3⟩, t2, p2, h4⟩ := hE
  cases h : Lib.atoiAll s.data.toList with
  | ok v =>
    refine (Tryz.strconv_Atoi_ok s (by omega) v h w).mono ?_
    rintro e w' ⟨rfl, rfl | ⟨t, rfl⟩⟩
    · exact .inl ⟨v, h, rfl, Below.refl _ _⟩
    · exact .inl ⟨v, h, rfl, bytesWorld_below _ _ _⟩
  | «syntax» =>
    refine (Tryz.strconv_Atoi_syntax s (by omega) h _ w h3 (.inr ⟨t1, p1, rfl⟩)).mono ?_
    rintro e w' ⟨N, rfl, _, _, hb⟩
    exact .inr ⟨_, _, _, fun u => by rw [h]; simp, rfl, hb⟩
  | range =>
    refine (Tryz.strconv_Atoi_range s (by omega) h _ w h4 (.inr ⟨t2, p2, rfl⟩)).mono ?_
    rintro e w' ⟨N, rfl, _, _, hb⟩
    exact .inr ⟨_, _, _, fun u => by rw [h]; simp, rfl, hb⟩

theorem parse_dig : ∀ (l : List UInt8) (acc : Nat), (∀ x ∈ numsU l, 48 ≤ x ∧ x ≤ 57) → acc * 10 ^ l.length + valL (numsU l) ≤ 9000000000000000000 → Lib.parseUint10 acc l = .ok (acc * 10 ^ l.length + valL (numsU l))
  | [], acc, _, _ => by simp [Lib.parseUint10, numsU, valL]
  | c :: r, acc, hd, hb => by
    have hc := hd (c.toNat : Int) (List.mem_cons_self ..)
    have e : acc * 10 ^ (c :: r).length + valL (numsU (c :: r)) = (acc * 10 + (c.toNat - 48)) * 10 ^ r.length + valL (numsU r) := by
      have e1 : valL (numsU (c :: r)) = (c.toNat - 48) * 10 ^ r.length + valL (numsU r) := by
        have := valL_append [(c.toNat : Int)] (numsU r)
        have e2 : numsU (c :: r) = [(c.toNat : Int)] ++ numsU r := rfl
        rw [e2, this]
        have e3 : valL [(c.toNat : Int)] = c.toNat - 48 := by simp [valL]; omega
        have e4 : (numsU r).length = r.length := by simp [numsU]
        rw [e3, e4]
      rw [e1, List.length_cons, Nat.pow_succ, Nat.add_mul, Nat.mul_assoc, Nat.mul_comm 10]
      omega
    rw [e] at hb ⊢
    have hp : 1 ≤ 10 ^ r.length := Nat.pow_pos (by omega)
    have hle : acc * 10 + (c.toNat - 48) ≤ (acc * 10 + (c.toNat - 48)) * 10 ^ r.length := Nat.le_mul_of_pos_right _ hp
    rw [Lib.parseUint10, if_pos (by omega), if_neg (by omega), if_neg (by omega), parse_dig r _ (fun x hx => hd x (List.mem_cons_of_mem _ hx)) hb]
theorem atoi_digits {l : List UInt8} {D : List Int} (hl : numsU l = D) (h0 : D ≠ []) (hd : ∀ x ∈ D, 48 ≤ x ∧ x ≤ 57) (hb : valL D ≤ 9000000000000000000) : Lib.atoiAll l = .ok (valL D : Nat) := by
  subst hl
  cases l with
  | nil => exact absurd rfl h0
  | cons c r =>
    have hc := hd (c.toNat : Int) (List.mem_cons_self ..)
    have hp := parse_dig (c :: r) 0 hd (by simpa using hb)
    have hn : ¬ (c.toNat = 43 ∨ c.toNat = 45) := by omega
    have hn2 : ¬ c.toNat = 45 := by omega
    have e : Lib.parseMag (c :: r) = .ok (valL (numsU (c :: r))) := by
      unfold Lib.parseMag
      rw [if_neg (by simp), hp]
      simp
    simp only [Lib.atoiAll]
    rw [if_neg hn, e]
    simp [hn2]
    omega
theorem atoi_minus {l : List UInt8} {D : List Int} (hl : numsU l = 45 :: D) (h0 : D ≠ []) (hd : ∀ x ∈ D, 48 ≤ x ∧ x ≤ 57) (hb : valL D ≤ 9000000000000000000) : Lib.atoiAll l = .ok (-(valL D : Nat)) := by
  cases l with
  | nil => simp [numsU] at hl
  | cons c r =>
    have e0 : (c.toNat : Int) = 45 ∧ numsU r = D := by simpa [numsU] using hl
    obtain ⟨hc, rfl⟩ := e0
    have hc : c.toNat = 45 := by omega
    have hr : r ≠ [] := fun e => h0 (by rw [e]; rfl)
    have hp := parse_dig r 0 hd (by simpa using hb)
    have e : Lib.parseMag r = .ok (valL (numsU r)) := by
      unfold Lib.parseMag
      rw [if_neg hr, hp]
      simp
    unfold Lib.atoiAll
    simp only [hc, or_true, if_true, e]
    simp
    omega
end Go.Proofs.YtoclingolfdfeaaGreatDoor
