/- Texts put together: TbM -/
import Derived.Test.YtganfiajhokkmaaGreatDoorMk06
import Derived.Test.YtganfiajhokkmaaGreatDoorMk13
/- TbM -/
namespace Go.Proofs.YtganfiajhokkmaaGreatDoor
open Go.RowKit Go.Deep
set_option maxRecDepth 100000

/-- There lies a number. -/
def N64 (w : World) (b j : Nat) : Prop := ∃ v, w.cell? ⟨b, j, none⟩ = some (.int .i64 v)
/-- There lies a truth. -/
def Bo (w : World) (b j : Nat) : Prop := ∃ v, w.cell? ⟨b, j, none⟩ = some (.bool v)
/-- Bytes, numbers, truths, lists stay such, and what may be written may be. -/
structure KB (w w' : World) : Prop where
  u : ∀ b j, U8 w b j → U8 w' b j
  i : ∀ b j, N64 w b j → N64 w' b j
  o : ∀ b j, Bo w b j → Bo w' b j
  s : ∀ b j a l c, w.cell? ⟨b, j, none⟩ = some (.slice a l c) → w'.cell? ⟨b, j, none⟩ = some (.slice a l c)
  f : ∀ p, w'.frozen? p = w.frozen? p
theorem KB.refl (w : World) : KB w w := ⟨fun _ _ h => h, fun _ _ h => h, fun _ _ h => h, fun _ _ _ _ _ h => h, fun _ => rfl⟩
theorem KB.trans {w w' w'' : World} (h : KB w w') (k : KB w' w'') : KB w w'' := ⟨fun b j q => k.u b j (h.u b j q), fun b j q => k.i b j (h.i b j q), fun b j q => k.o b j (h.o b j q), fun b j a l c q => k.s b j a l c (h.s b j a l c q), fun p => (k.f p).trans (h.f p)⟩
theorem KB.set {w : World} {g i : Nat} {n : Int} (h : N64 w g i) : KB w (w.setCell ⟨g, i, none⟩ (.int .i64 n)) := by
  obtain ⟨v, hv⟩ := h
  refine ⟨fun b j hu => ?_, fun b j hu => ?_, fun b j hu => ?_, fun b j a l c hu => ?_, fun p => World.frozen?_setCell _ _ _ _⟩
  · by_cases e : b = g ∧ j = i
    · obtain ⟨rfl, rfl⟩ := e
      obtain ⟨u, hu⟩ := hu
      rw [hv] at hu
      cases hu
    · unfold U8
      rw [cell_set_other (by omega)]
      exact hu
  · by_cases e : b = g ∧ j = i
    · obtain ⟨rfl, rfl⟩ := e
      exact ⟨_, set_same hv⟩
    · unfold N64
      rw [cell_set_other (by omega)]
      exact hu
  · by_cases e : b = g ∧ j = i
    · obtain ⟨rfl, rfl⟩ := e
      obtain ⟨u, hu⟩ := hu
      rw [hv] at hu
      cases hu
    · unfold Bo
      rw [cell_set_other (by omega)]
      exact hu
  · by_cases e : b = g ∧ j = i
    · obtain ⟨rfl, rfl⟩ := e
      rw [hv] at hu
      cases hu
    · rw [cell_set_other (by omega)]
      exact hu
theorem KB.setb {w : World} {g i : Nat} {n : Int} (h : U8 w g i) : KB w (w.setCell ⟨g, i, none⟩ (.int .u8 n)) := by
  obtain ⟨v, hv⟩ := h
  refine ⟨fun b j hu => ?_, fun b j hu => ?_, fun b j hu => ?_, fun b j a l c hu => ?_, fun p => World.frozen?_setCell _ _ _ _⟩
  · by_cases e : b = g ∧ j = i
    · obtain ⟨rfl, rfl⟩ := e
      exact ⟨_, set_same hv⟩
    · unfold U8
      rw [cell_set_other (by omega)]
      exact hu
  · by_cases e : b = g ∧ j = i
    · obtain ⟨rfl, rfl⟩ := e
      obtain ⟨u, hu⟩ := hu
      rw [hv] at hu
      cases hu
    · unfold N64
      rw [cell_set_other (by omega)]
      exact hu
  · by_cases e : b = g ∧ j = i
    · obtain ⟨rfl, rfl⟩ := e
      obtain ⟨u, hu⟩ := hu
      rw [hv] at hu
      cases hu
    · unfold Bo
      rw [cell_set_other (by omega)]
      exact hu
  · by_cases e : b = g ∧ j = i
    · obtain ⟨rfl, rfl⟩ := e
      rw [hv] at hu
      cases hu
    · rw [cell_set_other (by omega)]
      exact hu
theorem KB.seto {w : World} {g i : Nat} {n : Bool} (h : Bo w g i) : KB w (w.setCell ⟨g, i, none⟩ (.bool n)) := by
  obtain ⟨v, hv⟩ := h
  refine ⟨fun b j hu => ?_, fun b j hu => ?_, fun b j hu => ?_, fun b j a l c hu => ?_, fun p => World.frozen?_setCell _ _ _ _⟩
  · by_cases e : b = g ∧ j = i
    · obtain ⟨rfl, rfl⟩ := e
      obtain ⟨u, hu⟩ := hu
      rw [hv] at hu
      cases hu
    · unfold U8
      rw [cell_set_other (by omega)]
      exact hu
  · by_cases e : b = g ∧ j = i
    · obtain ⟨rfl, rfl⟩ := e
      obtain ⟨u, hu⟩ := hu
      rw [hv] at hu
      cases hu
    · unfold N64
      rw [cell_set_other (by omega)]
      exact hu
  · by_cases e : b = g ∧ j = i
    · obtain ⟨rfl, rfl⟩ := e
      exact ⟨_, set_same hv⟩
    · unfold Bo
      rw [cell_set_other (by omega)]
      exact hu
  · by_cases e : b = g ∧ j = i
    · obtain ⟨rfl, rfl⟩ := e
      rw [hv] at hu
      cases hu
    · rw [cell_set_other (by omega)]
      exact hu
theorem Mid.tr {B C : Nat} {w w1 w2 : World} (h : Mid B C w w1) (k : Mid B C w1 w2) : Mid B C w w2 :=
  ⟨k.os.trans h.os, k.tape.trans h.tape, k.output.trans h.output, k.size.trans h.size, fun b hb => (k.block b hb).trans (h.block b hb)⟩

/-- A text that may be marked, in the blocks from B on and below C. -/
def TxM (B C : Nat) (w : World) (a : Option Addr) (len : Nat) : Prop := len ≤ 1048576 ∧ (len = 0 ∨ ∃ g, a = some ⟨g, 0, none⟩ ∧ B ≤ g ∧ g < C ∧ ∀ i, i < len → U8 w g i ∧ w.frozen? ⟨g, i, none⟩ = false)
theorem TxM.kb {B C : Nat} {w w' : World} {a : Option Addr} {len : Nat} (h : TxM B C w a len) (k : KB w w') : TxM B C w' a len := by
  refine ⟨h.1, ?_⟩
  rcases h.2 with h | ⟨g, ha, hB, hC, hx⟩
  · exact .inl h
  · exact .inr ⟨g, ha, hB, hC, fun i hi => ⟨k.u _ _ (hx i hi).1, (k.f _).trans (hx i hi).2⟩⟩
theorem markText_b (B C : Nat) (a : Option Addr) (len cap : Nat) (k : Int) (w : World) (h : TxM B C w a len) (hk : 0 ≤ k) (hk2 : k ≤ 4611686018427387904) :
    Calls Tryz.prog 11 #[.slice a len cap, .int .i64 k] w fun e w' => e = .returned (.int .i64 (k + len)) ∧ KB w w' ∧ Mid B C w w' := by
  obtain ⟨hlen, h⟩ := h
  by_cases h0 : len = 0
  · subst h0
    clear h
    go_enter Tryz.func11, Tryz.ntmps11
    go_wp2
    refine wp_loop_rounds 1 ?_
    rw [rounds_succ]
    go_wp2
    go_ret
    exact ⟨by simp, KB.refl _, Mid.refl _ _ _⟩
  rcases h with h | ⟨g, rfl, hB, hC, hx⟩
  · exact absurd h h0
  have HX : Hid (∀ i, i < len → U8 w g i ∧ w.frozen? ⟨g, i, none⟩ = false) := hx
  clear hx
  go_enter Tryz.func11, Tryz.ntmps11
  go_wp2_with fail
  go_loopw [1, 5] (fun a b wr => ∃ j : Nat, j ≤ len ∧ a = .int .i64 (k + j) ∧ b = .int .i64 j ∧ Hid (Mid B C w wr) ∧ Hid (KB w wr))
    (fun _ b _ => len - (intOf b).toNat)
  case atStart => exact ⟨0, Nat.zero_le _, by simp, rfl, Mid.refl _ _ _, KB.refl _⟩
  case round =>
    obtain ⟨j, hj, rfl, rfl, HB, HU⟩ := hrel
    by_cases hlt : j < len
    · have hu := HU.out.u g j (HX.out j hlt).1
      have HV : Hid (U8 wr g j) := hu
      obtain ⟨v, hv⟩ := hu
      have hfv := (HU.out.f ⟨g, j, none⟩).trans (HX.out j hlt).2
      go_wp2
      go_roundw
      case rel => exact ⟨j + 1, by omega, by go_num, by go_num, HB.out.set hB hC, HU.out.trans (KB.setb HV.out)⟩
      case measure => simp [intOf]; omega
    · obtain rfl : j = len := by omega
      go_wp2
      go_ret
      exact ⟨rfl, HU.out, HB.out⟩

/-- Texts that may be marked. -/
def TsM (B C : Nat) (w : World) (a : Option Addr) (n : Nat) (X : Nat → SL) : Prop := n = 0 ∨ ∃ g, a = some ⟨g, 0, none⟩ ∧ ∀ i, i < n → w.cell? ⟨g, i, none⟩ = some (.slice (X i).a (X i).len (X i).cap) ∧ TxM B C w (X i).a (X i).len
theorem TsM.kb {B C : Nat} {w w' : World} {a : Option Addr} {n : Nat} {X : Nat → SL} (h : TsM B C w a n X) (k : KB w w') : TsM B C w' a n X := by
  rcases h with h | ⟨g, ha, hx⟩
  · exact .inl h
  · exact .inr ⟨g, ha, fun i hi => ⟨k.s _ _ _ _ _ (hx i hi).1, (hx i hi).2.kb k⟩⟩
set_option maxHeartbeats 1000000 in
theorem markByteSS_b (B C : Nat) (a : Option Addr) (n cap : Nat) (X : Nat → SL) (k : Int) (w : World) (hn : n ≤ 1048576) (hk : 0 ≤ k) (hk2 : k ≤ 1048576) (hM : TsM B C w a n X) :
    Calls Tryz.prog 28 #[.slice a n cap, .int .i64 k] w fun e w' => (∃ q : Int, e = .returned (.int .i64 q) ∧ 0 ≤ q ∧ q ≤ 1099512676352) ∧ KB w w' ∧ Mid B C w w' := by
  by_cases h0 : n = 0
  · subst h0
    clear hM
    go_enter Tryz.func28, Tryz.ntmps28
    go_wp2
    refine wp_loop_rounds 1 ?_
    rw [rounds_succ]
    go_wp2
    go_ret
    exact ⟨⟨k, rfl, hk, by omega⟩, KB.refl _, Mid.refl _ _ _⟩
  have HT : Hid (TsM B C w a n X) := hM
  rcases hM with h | ⟨g, rfl, _⟩
  · exact absurd h h0
  have HX : Hid (∀ wr, KB w wr → ∀ i, i < n → wr.cell? ⟨g, i, none⟩ = some (.slice (X i).a (X i).len (X i).cap) ∧ TxM B C wr (X i).a (X i).len) := fun wr hk i hi => by
    rcases HT.out.kb hk with h | ⟨g', e, hx⟩
    · exact absurd h h0
    · cases e
      exact hx i hi
  clear HT
  go_enter Tryz.func28, Tryz.ntmps28
  go_wp2_with fail
  go_loopw [1, 5] (fun a b wr => ∃ (j : Nat) (m : Int), j ≤ n ∧ b = .int .i64 j ∧ a = .int .i64 m ∧ 0 ≤ m ∧ m ≤ 1048576 + j * 1048576 ∧ Hid (KB w wr) ∧ Hid (Mid B C w wr))
    (fun _ b _ => n - (intOf b).toNat)
  case atStart => exact ⟨0, k, Nat.zero_le _, rfl, rfl, hk, by omega, KB.refl _, Mid.refl _ _ _⟩
  case round =>
    obtain ⟨j, m, hj, rfl, rfl, hm0, hm1, HK, HD⟩ := hrel
    by_cases hlt : j < n
    · obtain ⟨e1, hr⟩ := HX.out _ HK.out j hlt
      have hlen := hr.1
      go_wp2_with fail
      refine (markText_b B C (X j).a (X j).len (X j).cap m _ hr (by omega) (by omega)).mono ?_
      rintro e w2 ⟨rfl, hk2', hd2⟩
      have HK2 : Hid (KB w w2) := HK.out.trans hk2'
      have HD2 : Hid (Mid B C w w2) := HD.out.tr hd2
      clear e1 hr hk2' hd2 HK HD
      go_wp2_with fail
      go_roundw
      case rel => exact ⟨j + 1, _, by omega, by go_num, rfl, by omega, by omega, HK2, HD2⟩
      case measure => simp [intOf]; omega
    · obtain rfl : j = n := by omega
      go_wp2_with fail
      go_ret
      exact ⟨⟨m, rfl, hm0, by omega⟩, HK.out, HD.out⟩

/-- Cells that may be marked. -/
def CsM (B C : Nat) (w : World) (a : Option Addr) (n : Nat) (X : Nat → CB) : Prop := n ≤ 1048576 ∧ (n = 0 ∨ ∃ g, a = some ⟨g, 0, none⟩ ∧ B ≤ g ∧ g < C ∧
  ∀ i, i < n → (Bo w g (i * 5) ∧ N64 w g (i * 5 + 1) ∧ w.cell? ⟨g, i * 5 + 2, none⟩ = some (.slice (X i).t.t.a (X i).t.t.len (X i).t.t.cap) ∧ N64 w g (i * 5 + 3) ∧ N64 w g (i * 5 + 4)) ∧ (w.frozen? ⟨g, i * 5, none⟩ = false ∧ w.frozen? ⟨g, i * 5 + 1, none⟩ = false ∧ w.frozen? ⟨g, i * 5 + 3, none⟩ = false ∧ w.frozen? ⟨g, i * 5 + 4, none⟩ = false) ∧ TxM B C w (X i).t.t.a (X i).t.t.len)
theorem CsM.kb {B C : Nat} {w w' : World} {a : Option Addr} {n : Nat} {X : Nat → CB} (h : CsM B C w a n X) (k : KB w w') : CsM B C w' a n X := by
  refine ⟨h.1, ?_⟩
  rcases h.2 with h | ⟨g, ha, hB, hC, hx⟩
  · exact .inl h
  · refine .inr ⟨g, ha, hB, hC, fun i hi => ?_⟩
    obtain ⟨⟨h0, h1, h2, h3, h4⟩, ⟨f0, f1, f3, f4⟩, ht⟩ := hx i hi
    exact ⟨⟨k.o _ _ h0, k.i _ _ h1, k.s _ _ _ _ _ h2, k.i _ _ h3, k.i _ _ h4⟩, ⟨(k.f _).trans f0, (k.f _).trans f1, (k.f _).trans f3, (k.f _).trans f4⟩, ht.kb k⟩

set_option maxHeartbeats 4000000 in
theorem markCellS_b (B C : Nat) (a : Option Addr) (n cap : Nat) (X : Nat → CB) (k : Int) (w : World) (hk : 0 ≤ k) (hk2 : k ≤ 2305843009213693952) (hM : CsM B C w a n X) :
    Calls Tryz.prog 49 #[.slice a n cap, .int .i64 k] w fun e w' => (∃ q : Int, e = .returned (.int .i64 q) ∧ 0 ≤ q ∧ q ≤ k + 1099515822080) ∧ KB w w' ∧ Mid B C w w' := by
  have hn := hM.1
  by_cases h0 : n = 0
  · subst h0
    clear hM
    go_enter Tryz.func49, Tryz.ntmps49
    go_wp2
    refine wp_loop_rounds 1 ?_
    rw [rounds_succ]
    go_wp2
    go_ret
    exact ⟨⟨k, rfl, hk, by omega⟩, KB.refl _, Mid.refl _ _ _⟩
  have HT : Hid (CsM B C w a n X) := hM
  rcases hM.2 with h | ⟨g, rfl, hB, hC, _⟩
  · exact absurd h h0
  have HX : Hid (∀ wr, KB w wr → ∀ i, i < n → (Bo wr g (i * 5) ∧ N64 wr g (i * 5 + 1) ∧ wr.cell? ⟨g, i * 5 + 2, none⟩ = some (.slice (X i).t.t.a (X i).t.t.len (X i).t.t.cap) ∧ N64 wr g (i * 5 + 3) ∧ N64 wr g (i * 5 + 4)) ∧ (wr.frozen? ⟨g, i * 5, none⟩ = false ∧ wr.frozen? ⟨g, i * 5 + 1, none⟩ = false ∧ wr.frozen? ⟨g, i * 5 + 3, none⟩ = false ∧ wr.frozen? ⟨g, i * 5 + 4, none⟩ = false) ∧ TxM B C wr (X i).t.t.a (X i).t.t.len) := fun wr hk i hi => by
    rcases (HT.out.kb hk).2 with h | ⟨g', e, _, _, hx⟩
    · exact absurd h h0
    · cases e
      exact hx i hi
  clear HT hM
  go_enter Tryz.func49, Tryz.ntmps49
  go_wp2_with fail
  go_loopw [1, 5] (fun a b wr => ∃ (j : Nat) (m : Int), j ≤ n ∧ b = .int .i64 j ∧ a = .int .i64 m ∧ 0 ≤ m ∧ m ≤ k + j * 1048580 ∧ Hid (KB w wr) ∧ Hid (Mid B C w wr))
    (fun _ b _ => n - (intOf b).toNat)
  case atStart => exact ⟨0, k, Nat.zero_le _, rfl, rfl, hk, by omega, KB.refl _, Mid.refl _ _ _⟩
  case round =>
    obtain ⟨j, m, hj, rfl, rfl, hm0, hm1, HK, HD⟩ := hrel
    by_cases hlt : j < n
    · obtain ⟨⟨h0', h1, h2, _⟩, ⟨f0, f1, _⟩, ht⟩ := HX.out _ HK.out j hlt
      have hlen := ht.1
      have HK1 := fun (b : Bool) (m' : Int) => (show Hid (KB w ((wr.setCell ⟨g, j * 5, none⟩ (.bool b)).setCell ⟨g, j * 5 + 1, none⟩ (.int .i64 m'))) from (HK.out.trans (KB.seto h0')).trans (KB.set ((KB.seto h0').i _ _ h1)))
      have HD1 := fun (b : Bool) (m' : Int) => (show Hid (Mid B C w ((wr.setCell ⟨g, j * 5, none⟩ (.bool b)).setCell ⟨g, j * 5 + 1, none⟩ (.int .i64 m'))) from (HD.out.set hB hC).set hB hC)
      obtain ⟨v0, h0'⟩ := h0'
      obtain ⟨v1, h1⟩ := h1
      clear ht
      go_wp2_with fail
      refine (markText_b B C (X j).t.t.a (X j).t.t.len (X j).t.t.cap _ _ (HX.out _ (HK1 _ _).out j hlt).2.2 ?_ ?_).mono ?_
      · omega
      · omega
      rintro e w2 ⟨rfl, hk2', hd2⟩
      have HK2 : Hid (KB w w2) := (HK1 _ _).out.trans hk2'
      have HD2 : Hid (Mid B C w w2) := (HD1 _ _).out.tr hd2
      clear h0' h1 h2 f0 f1 HK1 HD1 hk2' hd2 HK HD
      obtain ⟨⟨_, _, _, h3, h4⟩, ⟨_, _, f3, f4⟩, _⟩ := HX.out _ HK2.out j hlt
      have HK4 := fun m' m'' => (show Hid (KB w ((w2.setCell ⟨g, j * 5 + 3, none⟩ (.int .i64 m')).setCell ⟨g, j * 5 + 4, none⟩ (.int .i64 m''))) from (HK2.out.trans (KB.set h3)).trans (KB.set ((KB.set h3).i _ _ h4)))
      obtain ⟨v3, h3⟩ := h3
      obtain ⟨v4, h4⟩ := h4
      go_wp2_with fail
      go_roundw
      case rel => exact ⟨j + 1, _, by omega, by go_num, rfl, by omega, by omega, HK4 _ _, (HD2.out.set hB hC).set hB hC⟩
      case measure => simp [intOf]; omega
    · obtain rfl : j = n := by omega
      go_wp2_with fail
      go_ret
      exact ⟨⟨m, rfl, hm0, by omega⟩, HK.out, HD.out⟩

/-- Solutions that may be marked. -/
def SsM (B C : Nat) (w : World) (a : Option Addr) (n : Nat) (X : Nat → SO) : Prop := n = 0 ∨ ∃ g, a = some ⟨g, 0, none⟩ ∧ ∀ i, i < n → w.cell? ⟨g, i, none⟩ = some (.slice (X i).a (X i).n (X i).cap) ∧ CsM B C w (X i).a (X i).n (X i).cel
theorem SsM.kb {B C : Nat} {w w' : World} {a : Option Addr} {n : Nat} {X : Nat → SO} (h : SsM B C w a n X) (k : KB w w') : SsM B C w' a n X := by
  rcases h with h | ⟨g, ha, hx⟩
  · exact .inl h
  · exact .inr ⟨g, ha, fun i hi => ⟨k.s _ _ _ _ _ (hx i hi).1, (hx i hi).2.kb k⟩⟩
set_option maxHeartbeats 1000000 in
theorem markSolS_b (B C : Nat) (a : Option Addr) (n cap : Nat) (X : Nat → SO) (k : Int) (w : World) (hn : n ≤ 1048576) (hk : 0 ≤ k) (hk2 : k ≤ 1099512676352) (hM : SsM B C w a n X) :
    Calls Tryz.prog 29 #[.slice a n cap, .int .i64 k] w fun e w' => (∃ q : Int, e = .returned (.int .i64 q) ∧ 0 ≤ q) ∧ KB w w' ∧ Mid B C w w' := by
  by_cases h0 : n = 0
  · subst h0
    clear hM
    go_enter Tryz.func29, Tryz.ntmps29
    go_wp2
    refine wp_loop_rounds 1 ?_
    rw [rounds_succ]
    go_wp2
    go_ret
    exact ⟨⟨k, rfl, hk⟩, KB.refl _, Mid.refl _ _ _⟩
  have HT : Hid (SsM B C w a n X) := hM
  rcases hM with h | ⟨g, rfl, _⟩
  · exact absurd h h0
  have HX : Hid (∀ wr, KB w wr → ∀ i, i < n → wr.cell? ⟨g, i, none⟩ = some (.slice (X i).a (X i).n (X i).cap) ∧ CsM B C wr (X i).a (X i).n (X i).cel) := fun wr hk i hi => by
    rcases HT.out.kb hk with h | ⟨g', e, hx⟩
    · exact absurd h h0
    · cases e
      exact hx i hi
  clear HT
  go_enter Tryz.func29, Tryz.ntmps29
  go_wp2_with fail
  go_loopw [1, 5] (fun a b wr => ∃ (j : Nat) (m : Int), j ≤ n ∧ b = .int .i64 j ∧ a = .int .i64 m ∧ 0 ≤ m ∧ m ≤ 1099512676352 + j * 1099515822080 ∧ Hid (KB w wr) ∧ Hid (Mid B C w wr))
    (fun _ b _ => n - (intOf b).toNat)
  case atStart => exact ⟨0, k, Nat.zero_le _, rfl, rfl, hk, by omega, KB.refl _, Mid.refl _ _ _⟩
  case round =>
    obtain ⟨j, m, hj, rfl, rfl, hm0, hm1, HK, HD⟩ := hrel
    by_cases hlt : j < n
    · obtain ⟨e1, hr⟩ := HX.out _ HK.out j hlt
      go_wp2_with fail
      refine (markCellS_b B C (X j).a (X j).n (X j).cap (X j).cel m _ (by omega) (by omega) hr).mono ?_
      rintro e w2 ⟨⟨q, rfl, hq0, hq1⟩, hk2', hd2⟩
      have HK2 : Hid (KB w w2) := HK.out.trans hk2'
      have HD2 : Hid (Mid B C w w2) := HD.out.tr hd2
      clear e1 hr hk2' hd2 HK HD
      go_wp2_with fail
      go_roundw
      case rel => exact ⟨j + 1, _, by omega, by go_num, rfl, by omega, by omega, HK2, HD2⟩
      case measure => simp [intOf]; omega
    · obtain rfl : j = n := by omega
      go_wp2_with fail
      go_ret
      exact ⟨⟨m, rfl, hm0⟩, HK.out, HD.out⟩

set_option maxHeartbeats 1000000 in
theorem markTable_b (B C : Nat) (y : TL) (w : World) (hn : y.vn ≤ 1048576) (hm : y.rn ≤ 1048576) (hT : ∀ o, TsM B C (w.alloc o) y.va y.vn y.var) (hR : ∀ o, SsM B C (w.alloc o) y.ra y.rn y.row) :
    Calls Tryz.prog 10 #[.agg #[.slice y.va y.vn y.vc, .slice y.ra y.rn y.rc], .int .i64 1] w fun e w' => ∃ (q : Int) (o : Obj), e = .returned (.int .i64 q) ∧ 0 ≤ q ∧ Mid B C (w.alloc o) w' := by
  have HT : Hid (∀ o, TsM B C (w.alloc o) y.va y.vn y.var) := hT
  have HR : Hid (∀ o, SsM B C (w.alloc o) y.ra y.rn y.row) := hR
  clear hT hR
  go_enter Tryz.func10, Tryz.ntmps10
  go_wp2_with fail
  refine (markByteSS_b B C y.va y.vn y.vc y.var 1 _ hn (by omega) (by omega) (HT.out _)).mono ?_
  rintro e w1 ⟨⟨q, rfl, hq0, hq1⟩, hk1, hd1⟩
  have HD1 : Hid (Mid B C (w.alloc (.cells #[.slice y.va y.vn y.vc, .slice y.ra y.rn y.rc] 31)) w1) := hd1
  have c1 : w1.cell? ⟨w.heap.size, 1, none⟩ = some (.slice y.ra y.rn y.rc) := hk1.s _ _ _ _ _ (by simp [go_sem])
  have c0 : w.heap.size < w1.heap.size := by rw [hd1.size]; simp
  have hS := (HR.out (.cells #[.slice y.va y.vn y.vc, .slice y.ra y.rn y.rc] 31)).kb hk1
  clear hk1 hd1
  go_wp2_with fail
  refine (markSolS_b B C y.ra y.rn y.rc y.row q _ hm hq0 hq1 hS).mono ?_
  rintro e w2 ⟨⟨q', rfl, hq0'⟩, hk2, hd2⟩
  have HD2 : Hid (Mid B C w1 w2) := hd2
  clear hk2 hd2 hS
  go_wp2_with fail
  go_ret
  exact ⟨q', _, rfl, hq0', HD1.out.tr HD2.out⟩

/-- Copies may be marked. -/
theorem SL.own.marks {B : Nat} {w w' : World} {x : SL} (h : x.own B w) (hb : Below w.heap.size w w') : TxM B w.heap.size w' x.a x.len := by
  obtain ⟨h1, h2⟩ := h
  refine ⟨h1.1.2.1, ?_⟩
  rcases h2 with h2 | ⟨g, ha, hB, hlt, hf⟩
  · exact .inl h2
  rcases h1.1.2.2.2 with h3 | ⟨b, off, ha', _, hc⟩
  · exact .inl h3
  rw [ha] at ha'
  cases ha'
  exact .inr ⟨g, ha, hB, hlt, fun i hi => ⟨⟨_, (hb.cell (p := ⟨g, i, none⟩) hlt).trans (by have := hc i hi; rwa [Nat.zero_add] at this)⟩, (hb.frozen (p := ⟨g, i, none⟩) hlt).trans (hf i hi)⟩⟩
theorem SO.own.marks {B : Nat} {w w' : World} {x : SO} (h : x.own B w) (hb : Below w.heap.size w w') : CsM B w.heap.size w' x.a x.n x.cel := by
  obtain ⟨h1, h2, g, ha, hF⟩ := h
  refine ⟨h1.2.2, ?_⟩
  by_cases h0 : x.n = 0
  · exact .inl h0
  rcases h1.1 with h3 | ⟨b, off, ha', hBb, hlt, hc⟩
  · exact .inl h3
  rw [ha] at ha'
  cases ha'
  rcases hF with hF | ⟨_, _, hF⟩
  · exact absurd hF (by omega)
  have cc : ∀ i, i < x.n → ∀ c u, ((x.cel i).cells)[c]? = some u → w'.cell? ⟨g, i * 5 + c, none⟩ = some u := fun i hi c u hu => (hb.cell (p := ⟨g, i * 5 + c, none⟩) hlt).trans (by have := hc i hi c u hu; rwa [Nat.zero_add] at this)
  have ff : ∀ j, j < x.n * 5 → w'.frozen? ⟨g, j, none⟩ = false := fun j hj => (hb.frozen (p := ⟨g, j, none⟩) hlt).trans (hF j hj)
  refine .inr ⟨g, ha, hBb, hlt, fun i hi => ⟨⟨⟨_, cc i hi 0 _ rfl⟩, ⟨_, cc i hi 1 _ rfl⟩, cc i hi 2 _ rfl, ⟨_, cc i hi 3 _ rfl⟩, ⟨_, cc i hi 4 _ rfl⟩⟩, ⟨ff _ (by omega), ff _ (by omega), ff _ (by omega), ff _ (by omega)⟩, ?_⟩⟩
  exact SL.own.marks (x := (x.cel i).t.sl) ⟨(h1.2.1 i hi).1, h2 i hi⟩ hb
theorem TL.own.marks1 {B : Nat} {w w' : World} {x : TL} (h : x.own B w) (hb : Below w.heap.size w w') : TsM B w.heap.size w' x.va x.vn x.var := by
  obtain ⟨h1, h2, _, ⟨g, ha⟩, _⟩ := h
  rcases h1.1 with h3 | ⟨b, off, ha', _, hlt, hc⟩
  · exact .inl h3
  rw [ha] at ha'
  cases ha'
  exact .inr ⟨g, ha, fun i hi => ⟨(hb.cell (p := ⟨g, i, none⟩) hlt).trans (by have := hc i hi 0 _ rfl; simpa using this), (h2 i hi).marks hb⟩⟩
theorem TL.own.marks2 {B : Nat} {w w' : World} {x : TL} (h : x.own B w) (hb : Below w.heap.size w w') : SsM B w.heap.size w' x.ra x.rn x.row := by
  obtain ⟨h1, _, h2, _, ⟨g, ha⟩⟩ := h
  rcases h1.2.2.2.1 with h3 | ⟨b, off, ha', _, hlt, hc⟩
  · exact .inl h3
  rw [ha] at ha'
  cases ha'
  exact .inr ⟨g, ha, fun i hi => ⟨(hb.cell (p := ⟨g, i, none⟩) hlt).trans (by have := hc i hi 0 _ rfl; simpa using this), (h2 i hi).marks hb⟩⟩
end Go.Proofs.YtganfiajhokkmaaGreatDoor
