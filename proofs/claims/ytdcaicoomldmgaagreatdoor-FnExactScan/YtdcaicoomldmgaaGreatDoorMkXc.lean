/- Texts put together: DvStxD DvStxE DvStxF -/
import Derived.Test.YtdcaicoomldmgaaGreatDoorMkWb
import Derived.Test.YtdcaicoomldmgaaGreatDoorMkXb
import Derived.Test.YtdcaicoomldmgaaGreatDoorMk44
import Derived.Lib.QuietBelow
import Derived.Test.YtdcaicoomldmgaaGreatDoorMk42
/- DvStxD -/
namespace Go.Proofs.YtdcaicoomldmgaaGreatDoor
open Go.RowKit Go.Deep
set_option maxRecDepth 100000

/-- There lies a number. -/
def I64 (w : World) (b j : Nat) : Prop := ∃ v, w.cell? ⟨b, j, none⟩ = some (.int .i64 v)
/-- Bytes, numbers, lists stay such, and what may be written may be. -/
structure K3 (w w' : World) : Prop where
  u : ∀ b j, U8 w b j → U8 w' b j
  i : ∀ b j, I64 w b j → I64 w' b j
  s : ∀ b j a l c, w.cell? ⟨b, j, none⟩ = some (.slice a l c) → w'.cell? ⟨b, j, none⟩ = some (.slice a l c)
  f : ∀ p, w'.frozen? p = w.frozen? p
theorem K3.refl (w : World) : K3 w w := ⟨fun _ _ h => h, fun _ _ h => h, fun _ _ _ _ _ h => h, fun _ => rfl⟩
theorem K3.trans {w w' w'' : World} (h : K3 w w') (k : K3 w' w'') : K3 w w'' := ⟨fun b j q => k.u b j (h.u b j q), fun b j q => k.i b j (h.i b j q), fun b j a l c q => k.s b j a l c (h.s b j a l c q), fun p => (k.f p).trans (h.f p)⟩
theorem K3.set {w : World} {g i : Nat} {n : Int} (h : I64 w g i) : K3 w (w.setCell ⟨g, i, none⟩ (.int .i64 n)) := by
  obtain ⟨v, hv⟩ := h
  refine ⟨fun b j hu => ?_, fun b j hu => ?_, fun b j a l c hu => ?_, fun p => World.frozen?_setCell _ _ _ _⟩
  · by_cases e : b = g ∧ j = i
    · obtain ⟨rfl, rfl⟩ := e
      obtain ⟨u, hu⟩ := hu
      rw [hv] at hu
      cases hu
    · unfold U8
      rw [cell_set_other (by omega)]
      exact hu
  · by_cases e : b = g ∧ j = i
    · obtain ⟨rfl, rfl⟩ := e
      exact ⟨_, set_same hv⟩
    · unfold I64
      rw [cell_set_other (by omega)]
      exact hu
  · by_cases e : b = g ∧ j = i
    · obtain ⟨rfl, rfl⟩ := e
      rw [hv] at hu
      cases hu
    · rw [cell_set_other (by omega)]
      exact hu
theorem K3.setb {w : World} {g i : Nat} {n : Int} (h : U8 w g i) : K3 w (w.setCell ⟨g, i, none⟩ (.int .u8 n)) := by
  obtain ⟨v, hv⟩ := h
  refine ⟨fun b j hu => ?_, fun b j hu => ?_, fun b j a l c hu => ?_, fun p => World.frozen?_setCell _ _ _ _⟩
  · by_cases e : b = g ∧ j = i
    · obtain ⟨rfl, rfl⟩ := e
      exact ⟨_, set_same hv⟩
    · unfold U8
      rw [cell_set_other (by omega)]
      exact hu
  · by_cases e : b = g ∧ j = i
    · obtain ⟨rfl, rfl⟩ := e
      obtain ⟨u, hu⟩ := hu
      rw [hv] at hu
      cases hu
    · unfold I64
      rw [cell_set_other (by omega)]
      exact hu
  · by_cases e : b = g ∧ j = i
    · obtain ⟨rfl, rfl⟩ := e
      rw [hv] at hu
      cases hu
    · rw [cell_set_other (by omega)]
      exact hu
theorem Mid.trans' {B C : Nat} {w w1 w2 : World} (h : Mid B C w w1) (k : Mid B C w1 w2) : Mid B C w w2 :=
  ⟨k.os.trans h.os, k.tape.trans h.tape, k.output.trans h.output, k.size.trans h.size, fun b hb => (k.block b hb).trans (h.block b hb)⟩

/-- A text that may be marked, in the blocks from B on and below C. -/
def TxK (B C : Nat) (w : World) (a : Option Addr) (len : Nat) : Prop := len ≤ 1048576 ∧ (len = 0 ∨ ∃ g, a = some ⟨g, 0, none⟩ ∧ B ≤ g ∧ g < C ∧ ∀ i, i < len → U8 w g i ∧ w.frozen? ⟨g, i, none⟩ = false)
theorem TxK.k3 {B C : Nat} {w w' : World} {a : Option Addr} {len : Nat} (h : TxK B C w a len) (k : K3 w w') : TxK B C w' a len := by
  refine ⟨h.1, ?_⟩
  rcases h.2 with h | ⟨g, ha, hB, hC, hx⟩
  · exact .inl h
  · exact .inr ⟨g, ha, hB, hC, fun i hi => ⟨k.u _ _ (hx i hi).1, (k.f _).trans (hx i hi).2⟩⟩
theorem markText_k (B C : Nat) (a : Option Addr) (len cap : Nat) (k : Int) (w : World) (h : TxK B C w a len) (hk : 0 ≤ k) (hk2 : k ≤ 1152921504606846976) :
    Calls Tryz.prog 89 #[.slice a len cap, .int .i64 k] w fun e w' => e = .returned (.int .i64 (k + len)) ∧ K3 w w' ∧ Mid B C w w' := by
  obtain ⟨hlen, h⟩ := h
  by_cases h0 : len = 0
  · subst h0
    refine (markW_zero a cap k w).mono ?_
    rintro e w' ⟨rfl, rfl⟩
    exact ⟨by simp, K3.refl _, Mid.refl _ _ _⟩
  rcases h with h | ⟨g, rfl, hB, hC, hx⟩
  · exact absurd h h0
  have HX : Hid (∀ i, i < len → U8 w g i ∧ w.frozen? ⟨g, i, none⟩ = false) := hx
  clear hx
  go_enter Tryz.func89, Tryz.ntmps89
  go_wp2_with fail
  go_loopw [1, 5] (fun a b wr => ∃ j : Nat, j ≤ len ∧ a = .int .i64 (k + j) ∧ b = .int .i64 j ∧ Hid (Mid B C w wr) ∧ Hid (K3 w wr))
    (fun _ b _ => len - (intOf b).toNat)
  case atStart => exact ⟨0, Nat.zero_le _, by simp, rfl, Mid.refl _ _ _, K3.refl _⟩
  case round =>
    obtain ⟨j, hj, rfl, rfl, HB, HU⟩ := hrel
    by_cases hlt : j < len
    · have hu := HU.out.u g j (HX.out j hlt).1
      have HV : Hid (U8 wr g j) := hu
      obtain ⟨v, hv⟩ := hu
      have hfv := (HU.out.f ⟨g, j, none⟩).trans (HX.out j hlt).2
      go_wp2
      go_roundw
      case rel => exact ⟨j + 1, by omega, by go_num, by go_num, HB.out.set hB hC, HU.out.trans (K3.setb HV.out)⟩
      case measure => simp [intOf]; omega
    · obtain rfl : j = len := by omega
      go_wp2
      go_ret
      exact ⟨rfl, HU.out, HB.out⟩

/-- A row of terms that may be marked. -/
def TsK (B C : Nat) (w : World) (a : Option Addr) (n : Nat) (X : Nat → Option Addr) (L Cp : Nat → Nat) : Prop := n = 0 ∨ ∃ g, a = some ⟨g, 0, none⟩ ∧ B ≤ g ∧ g < C ∧
  ∀ i, i < n → (I64 w g (i * 4) ∧ w.cell? ⟨g, i * 4 + 1, none⟩ = some (.slice (X i) (L i) (Cp i)) ∧ I64 w g (i * 4 + 2) ∧ I64 w g (i * 4 + 3)) ∧ (w.frozen? ⟨g, i * 4, none⟩ = false ∧ w.frozen? ⟨g, i * 4 + 2, none⟩ = false ∧ w.frozen? ⟨g, i * 4 + 3, none⟩ = false) ∧ TxK B C w (X i) (L i)
theorem TsK.k3 {B C : Nat} {w w' : World} {a : Option Addr} {n : Nat} {X : Nat → Option Addr} {L Cp : Nat → Nat} (h : TsK B C w a n X L Cp) (k : K3 w w') : TsK B C w' a n X L Cp := by
  rcases h with h | ⟨g, ha, hB, hC, hx⟩
  · exact .inl h
  · refine .inr ⟨g, ha, hB, hC, fun i hi => ?_⟩
    obtain ⟨⟨h1, h2, h3, h4⟩, ⟨f1, f2, f3⟩, ht⟩ := hx i hi
    exact ⟨⟨k.i _ _ h1, k.s _ _ _ _ _ h2, k.i _ _ h3, k.i _ _ h4⟩, ⟨(k.f _).trans f1, (k.f _).trans f2, (k.f _).trans f3⟩, ht.k3 k⟩

set_option maxHeartbeats 2000000 in
theorem markTermS_k (B C : Nat) (a : Option Addr) (n cap : Nat) (X : Nat → Option Addr) (L Cp : Nat → Nat) (k : Int) (w : World) (hn : n ≤ 1048576) (hk : 0 ≤ k) (hk2 : k ≤ 4194304) (hM : TsK B C w a n X L Cp) :
    Calls Tryz.prog 46 #[.slice a n cap, .int .i64 k] w fun e w' => (∃ q : Int, e = .returned (.int .i64 q) ∧ 0 ≤ q ∧ q ≤ 1099520000000) ∧ K3 w w' ∧ Mid B C w w' := by
  by_cases h0 : n = 0
  · subst h0
    refine (markTermS_zero a cap k w).mono ?_
    rintro e w' ⟨rfl, rfl⟩
    exact ⟨⟨k, rfl, hk, by omega⟩, K3.refl _, Mid.refl _ _ _⟩
  have HT : Hid (TsK B C w a n X L Cp) := hM
  rcases hM with h | ⟨g, rfl, hB, hC, _⟩
  · exact absurd h h0
  have HX : Hid (∀ wr, K3 w wr → ∀ i, i < n → (I64 wr g (i * 4) ∧ wr.cell? ⟨g, i * 4 + 1, none⟩ = some (.slice (X i) (L i) (Cp i)) ∧ I64 wr g (i * 4 + 2) ∧ I64 wr g (i * 4 + 3)) ∧ (wr.frozen? ⟨g, i * 4, none⟩ = false ∧ wr.frozen? ⟨g, i * 4 + 2, none⟩ = false ∧ wr.frozen? ⟨g, i * 4 + 3, none⟩ = false) ∧ TxK B C wr (X i) (L i)) := fun wr hk i hi => by
    rcases HT.out.k3 hk with h | ⟨g', e, _, _, hx⟩
    · exact absurd h h0
    · cases e
      exact hx i hi
  clear HT
  go_enter Tryz.func46, Tryz.ntmps46
  go_wp2_with fail
  go_loopw [1, 5] (fun a b wr => ∃ (j : Nat) (m : Int), j ≤ n ∧ b = .int .i64 j ∧ a = .int .i64 m ∧ 0 ≤ m ∧ m ≤ 4194304 + j * 1048579 ∧ Hid (K3 w wr) ∧ Hid (Mid B C w wr))
    (fun _ b _ => n - (intOf b).toNat)
  case atStart => exact ⟨0, k, Nat.zero_le _, rfl, rfl, hk, by omega, K3.refl _, Mid.refl _ _ _⟩
  case round =>
    obtain ⟨j, m, hj, rfl, rfl, hm0, hm1, HK, HD⟩ := hrel
    by_cases hlt : j < n
    · obtain ⟨⟨h1, h2, _⟩, ⟨f1, _⟩, ht⟩ := HX.out _ HK.out j hlt
      have hlen := ht.1
      have HK1 : Hid (K3 w (wr.setCell ⟨g, j * 4, none⟩ (.int .i64 m))) := HK.out.trans (K3.set h1)
      have HD1 : Hid (Mid B C w (wr.setCell ⟨g, j * 4, none⟩ (.int .i64 m))) := HD.out.set hB hC
      obtain ⟨v1, h1⟩ := h1
      clear ht
      have hT := (HX.out _ HK1.out j hlt).2.2
      go_wp2_with fail
      refine (markText_k B C (X j) (L j) (Cp j) (m + 1) _ hT (by omega) (by omega)).mono ?_
      rintro e w2 ⟨rfl, hk2', hd2⟩
      have HK2 : Hid (K3 w w2) := HK1.out.trans hk2'
      have HD2 : Hid (Mid B C w w2) := HD1.out.trans' hd2
      clear h1 h2 f1 hT HK1 HD1 hk2' hd2 HK HD
      obtain ⟨⟨_, _, h3, h4⟩, ⟨_, f3, f4⟩, _⟩ := HX.out _ HK2.out j hlt
      have HK3 := fun m' => (show Hid (K3 w (w2.setCell ⟨g, j * 4 + 2, none⟩ (.int .i64 m'))) from HK2.out.trans (K3.set h3))
      have HK4 := fun m' m'' => (show Hid (K3 w ((w2.setCell ⟨g, j * 4 + 2, none⟩ (.int .i64 m')).setCell ⟨g, j * 4 + 3, none⟩ (.int .i64 m''))) from (HK3 m').out.trans (K3.set (HX.out _ (HK3 m').out j hlt).1.2.2.2))
      obtain ⟨v3, h3⟩ := h3
      obtain ⟨v4, h4⟩ := h4
      go_wp2_with fail
      go_roundw
      case rel => exact ⟨j + 1, _, by omega, by go_num, rfl, by omega, by omega, HK4 _ _, (HD2.out.set hB hC).set hB hC⟩
      case measure => simp [intOf]; omega
    · obtain rfl : j = n := by omega
      go_wp2_with fail
      go_ret
      exact ⟨⟨m, rfl, hm0, by omega⟩, HK.out, HD.out⟩

/-- Rows of numbers that may be marked. -/
def RsK (B C : Nat) (w : World) (a : Option Addr) (n : Nat) : Prop := n ≤ 1048576 ∧ (n = 0 ∨ ∃ g, a = some ⟨g, 0, none⟩ ∧ B ≤ g ∧ g < C ∧ ∀ j, j < n * 3 → I64 w g j ∧ w.frozen? ⟨g, j, none⟩ = false)
theorem RsK.k3 {B C : Nat} {w w' : World} {a : Option Addr} {n : Nat} (h : RsK B C w a n) (k : K3 w w') : RsK B C w' a n := by
  refine ⟨h.1, ?_⟩
  rcases h.2 with h | ⟨g, ha, hB, hC, hx⟩
  · exact .inl h
  · exact .inr ⟨g, ha, hB, hC, fun i hi => ⟨k.i _ _ (hx i hi).1, (k.f _).trans (hx i hi).2⟩⟩
set_option maxHeartbeats 1000000 in
theorem markRowS_k (B C : Nat) (a : Option Addr) (n cap : Nat) (k : Int) (w : World) (h : RsK B C w a n) (hk : 0 ≤ k) (hk2 : k ≤ 1152921504606846976) :
    Calls Tryz.prog 29 #[.slice a n cap, .int .i64 k] w fun e w' => e = .returned (.int .i64 (k + 3 * (n : Int))) ∧ K3 w w' ∧ Mid B C w w' := by
  obtain ⟨hl, h⟩ := h
  by_cases h0 : n = 0
  · subst h0
    refine (markRowS_zero a cap k w).mono ?_
    rintro e w' ⟨rfl, rfl⟩
    exact ⟨by simp, K3.refl _, Mid.refl _ _ _⟩
  rcases h with h | ⟨g, rfl, hB, hC, hx⟩
  · exact absurd h h0
  have HX : Hid (∀ j, j < n * 3 → I64 w g j ∧ w.frozen? ⟨g, j, none⟩ = false) := hx
  clear hx
  go_enter Tryz.func29, Tryz.ntmps29
  go_wp2_with fail
  go_loopw [1, 5] (fun a b wr => ∃ j : Nat, j ≤ n ∧ b = .int .i64 j ∧ a = .int .i64 (k + 3 * j) ∧ Hid (K3 w wr) ∧ Hid (Mid B C w wr))
    (fun _ b _ => n - (intOf b).toNat)
  case atStart => exact ⟨0, Nat.zero_le _, rfl, by simp, K3.refl _, Mid.refl _ _ _⟩
  case round =>
    obtain ⟨j, hj, rfl, rfl, HK, HD⟩ := hrel
    by_cases hlt : j < n
    · have i0 := HK.out.i g (j * 3) (HX.out (j * 3) (by omega)).1
      have i1 := HK.out.i g (j * 3 + 1) (HX.out (j * 3 + 1) (by omega)).1
      have i2 := HK.out.i g (j * 3 + 2) (HX.out (j * 3 + 2) (by omega)).1
      have f0 := (HK.out.f ⟨g, j * 3, none⟩).trans (HX.out (j * 3) (by omega)).2
      have f1 := (HK.out.f ⟨g, j * 3 + 1, none⟩).trans (HX.out (j * 3 + 1) (by omega)).2
      have f2 := (HK.out.f ⟨g, j * 3 + 2, none⟩).trans (HX.out (j * 3 + 2) (by omega)).2
      have HK2 := fun a b c => (show Hid (K3 w (((wr.setCell ⟨g, j * 3, none⟩ (.int .i64 a)).setCell ⟨g, j * 3 + 1, none⟩ (.int .i64 b)).setCell ⟨g, j * 3 + 2, none⟩ (.int .i64 c))) from
        ((HK.out.trans (K3.set i0)).trans (K3.set ((K3.set i0).i _ _ i1))).trans (K3.set ((K3.set ((K3.set i0).i _ _ i1)).i _ _ ((K3.set i0).i _ _ i2))))
      obtain ⟨v0, i0⟩ := i0
      obtain ⟨v1, i1⟩ := i1
      obtain ⟨v2, i2⟩ := i2
      go_wp2_with fail
      go_roundw
      case rel => exact ⟨j + 1, by omega, by go_num, by go_num, HK2 _ _ _, ((HD.out.set hB hC).set hB hC).set hB hC⟩
      case measure => simp [intOf]; omega
    · obtain rfl : j = n := by omega
      go_wp2_with fail
      go_ret
      exact ⟨rfl, HK.out, HD.out⟩

/-- A row of rows that may be marked. -/
def SsK (B C : Nat) (w : World) (a : Option Addr) (n : Nat) (X : Nat → Option Addr) (L Cp : Nat → Nat) : Prop := n = 0 ∨ ∃ g, a = some ⟨g, 0, none⟩ ∧ g < C ∧ ∀ i, i < n → w.cell? ⟨g, i, none⟩ = some (.slice (X i) (L i) (Cp i)) ∧ RsK B C w (X i) (L i)
theorem SsK.k3 {B C : Nat} {w w' : World} {a : Option Addr} {n : Nat} {X : Nat → Option Addr} {L Cp : Nat → Nat} (h : SsK B C w a n X L Cp) (k : K3 w w') : SsK B C w' a n X L Cp := by
  rcases h with h | ⟨g, ha, hC, hx⟩
  · exact .inl h
  · exact .inr ⟨g, ha, hC, fun i hi => ⟨k.s _ _ _ _ _ (hx i hi).1, (hx i hi).2.k3 k⟩⟩
set_option maxHeartbeats 1000000 in
theorem markRowSS_k (B C : Nat) (a : Option Addr) (n cap : Nat) (X : Nat → Option Addr) (L Cp : Nat → Nat) (k : Int) (w : World) (hn : n ≤ 1048576) (hk : 0 ≤ k) (hk2 : k ≤ 1099520000000) (hM : SsK B C w a n X L Cp) :
    Calls Tryz.prog 47 #[.slice a n cap, .int .i64 k] w fun e w' => (∃ q : Int, e = .returned (.int .i64 q) ∧ 0 ≤ q ∧ q ≤ 4400000000000) ∧ K3 w w' ∧ Mid B C w w' := by
  by_cases h0 : n = 0
  · subst h0
    refine (markRowSS_zero a cap k w).mono ?_
    rintro e w' ⟨rfl, rfl⟩
    exact ⟨⟨k, rfl, hk, by omega⟩, K3.refl _, Mid.refl _ _ _⟩
  have HT : Hid (SsK B C w a n X L Cp) := hM
  rcases hM with h | ⟨g, rfl, _, _⟩
  · exact absurd h h0
  have HX : Hid (∀ wr, K3 w wr → ∀ i, i < n → wr.cell? ⟨g, i, none⟩ = some (.slice (X i) (L i) (Cp i)) ∧ RsK B C wr (X i) (L i)) := fun wr hk i hi => by
    rcases HT.out.k3 hk with h | ⟨g', e, _, hx⟩
    · exact absurd h h0
    · cases e
      exact hx i hi
  clear HT
  go_enter Tryz.func47, Tryz.ntmps47
  go_wp2_with fail
  go_loopw [1, 5] (fun a b wr => ∃ (j : Nat) (m : Int), j ≤ n ∧ b = .int .i64 j ∧ a = .int .i64 m ∧ 0 ≤ m ∧ m ≤ 1099520000000 + j * 3145728 ∧ Hid (K3 w wr) ∧ Hid (Mid B C w wr))
    (fun _ b _ => n - (intOf b).toNat)
  case atStart => exact ⟨0, k, Nat.zero_le _, rfl, rfl, hk, by omega, K3.refl _, Mid.refl _ _ _⟩
  case round =>
    obtain ⟨j, m, hj, rfl, rfl, hm0, hm1, HK, HD⟩ := hrel
    by_cases hlt : j < n
    · obtain ⟨e1, hr⟩ := HX.out _ HK.out j hlt
      have hlen := hr.1
      go_wp2_with fail
      refine (markRowS_k B C (X j) (L j) (Cp j) m _ hr (by omega) (by omega)).mono ?_
      rintro e w2 ⟨rfl, hk2', hd2⟩
      have HK2 : Hid (K3 w w2) := HK.out.trans hk2'
      have HD2 : Hid (Mid B C w w2) := HD.out.trans' hd2
      clear e1 hr hk2' hd2 HK HD
      go_wp2_with fail
      go_roundw
      case rel => exact ⟨j + 1, _, by omega, by go_num, rfl, by omega, by omega, HK2, HD2⟩
      case measure => simp [intOf]; omega
    · obtain rfl : j = n := by omega
      go_wp2_with fail
      go_ret
      exact ⟨⟨m, rfl, hm0, by omega⟩, HK.out, HD.out⟩

set_option maxHeartbeats 1000000 in
theorem markStore_k (B C : Nat) (aT aR : Option Addr) (n m capT capR : Nat) (X Y : Nat → Option Addr) (L Cp L' Cp' : Nat → Nat) (w : World) (hn : n ≤ 1048576) (hm : m ≤ 1048576) (hT : ∀ o, TsK B C (w.alloc o) aT n X L Cp) (hR : ∀ o, SsK B C (w.alloc o) aR m Y L' Cp') :
    Calls Tryz.prog 14 #[.agg #[.slice aT n capT, .slice aR m capR], .int .i64 1] w fun e w' => ∃ (q : Int) (o : Obj), e = .returned (.int .i64 q) ∧ 0 ≤ q ∧ q ≤ 4400000000000 ∧ K3 (w.alloc o) w' ∧ Mid B C (w.alloc o) w' := by
  have HT : Hid (∀ o, TsK B C (w.alloc o) aT n X L Cp) := hT
  have HR : Hid (∀ o, SsK B C (w.alloc o) aR m Y L' Cp') := hR
  clear hT hR
  go_enter Tryz.func14, Tryz.ntmps14
  go_wp2_with fail
  refine (markTermS_k B C aT n capT X L Cp 1 _ hn (by omega) (by omega) (HT.out _)).mono ?_
  rintro e w1 ⟨⟨q, rfl, hq0, hq1⟩, hk1, hd1⟩
  have HK1 : Hid (K3 (w.alloc (.cells #[.slice aT n capT, .slice aR m capR] 29)) w1) := hk1
  have HD1 : Hid (Mid B C (w.alloc (.cells #[.slice aT n capT, .slice aR m capR] 29)) w1) := hd1
  have c1 : w1.cell? ⟨w.heap.size, 1, none⟩ = some (.slice aR m capR) := hk1.s _ _ _ _ _ (by simp [go_sem])
  have c0 : w.heap.size < w1.heap.size := by rw [hd1.size]; simp
  have hS := (HR.out (.cells #[.slice aT n capT, .slice aR m capR] 29)).k3 hk1
  clear hk1 hd1
  go_wp2_with fail
  refine (markRowSS_k B C aR m capR Y L' Cp' q _ hm hq0 hq1 hS).mono ?_
  rintro e w2 ⟨⟨q', rfl, hq0', hq1'⟩, hk2, hd2⟩
  have HK2 : Hid (K3 w1 w2) := hk2
  have HD2 : Hid (Mid B C w1 w2) := hd2
  clear hk2 hd2 hS
  go_wp2_with fail
  go_ret
  exact ⟨q', _, rfl, hq0', hq1', HK1.out.trans HK2.out, HD1.out.trans' HD2.out⟩

/-- Numbers that may be marked. -/
def IsK (B C : Nat) (w : World) (a : Option Addr) (n : Nat) : Prop := n = 0 ∨ ∃ g, a = some ⟨g, 0, none⟩ ∧ B ≤ g ∧ g < C ∧ ∀ j, j < n → I64 w g j ∧ w.frozen? ⟨g, j, none⟩ = false
theorem IsK.k3 {B C : Nat} {w w' : World} {a : Option Addr} {n : Nat} (h : IsK B C w a n) (k : K3 w w') : IsK B C w' a n := by
  rcases h with h | ⟨g, ha, hB, hC, hx⟩
  · exact .inl h
  · exact .inr ⟨g, ha, hB, hC, fun i hi => ⟨k.i _ _ (hx i hi).1, (k.f _).trans (hx i hi).2⟩⟩
theorem markIntS_k (B C : Nat) (a : Option Addr) (n cap : Nat) (k : Int) (w : World) (hn : n ≤ 1048576) (h : IsK B C w a n) (hk : 0 ≤ k) (hk2 : k ≤ 4400000000000) :
    Calls Tryz.prog 28 #[.slice a n cap, .int .i64 k] w fun e w' => e = .returned (.int .i64 (k + n)) ∧ K3 w w' ∧ Mid B C w w' := by
  by_cases h0 : n = 0
  · subst h0
    go_enter Tryz.func28, Tryz.ntmps28
    go_wp2
    refine wp_loop_rounds 1 ?_
    rw [rounds_succ]
    go_wp2
    go_ret
    exact ⟨by simp, K3.refl _, Mid.refl _ _ _⟩
  rcases h with h | ⟨g, rfl, hB, hC, hx⟩
  · exact absurd h h0
  have HX : Hid (∀ j, j < n → I64 w g j ∧ w.frozen? ⟨g, j, none⟩ = false) := hx
  clear hx
  go_enter Tryz.func28, Tryz.ntmps28
  go_wp2_with fail
  go_loopw [1, 5] (fun a b wr => ∃ j : Nat, j ≤ n ∧ b = .int .i64 j ∧ a = .int .i64 (k + j) ∧ Hid (K3 w wr) ∧ Hid (Mid B C w wr))
    (fun _ b _ => n - (intOf b).toNat)
  case atStart => exact ⟨0, Nat.zero_le _, rfl, by simp, K3.refl _, Mid.refl _ _ _⟩
  case round =>
    obtain ⟨j, hj, rfl, rfl, HK, HD⟩ := hrel
    by_cases hlt : j < n
    · have i0 := HK.out.i g j (HX.out j hlt).1
      have f0 := (HK.out.f ⟨g, j, none⟩).trans (HX.out j hlt).2
      have HK2 := fun a => (show Hid (K3 w (wr.setCell ⟨g, j, none⟩ (.int .i64 a))) from HK.out.trans (K3.set i0))
      obtain ⟨v0, i0⟩ := i0
      go_wp2_with fail
      go_roundw
      case rel => exact ⟨j + 1, by omega, by go_num, by go_num, HK2 _, HD.out.set hB hC⟩
      case measure => simp [intOf]; omega
    · obtain rfl : j = n := by omega
      go_wp2_with fail
      go_ret
      exact ⟨rfl, HK.out, HD.out⟩

/-- What may be marked stays so where nothing below C changes; and in a wider bound. -/
theorem TxK.below {B C C' : Nat} {w w' : World} {a : Option Addr} {len : Nat} (h : TxK B C w a len) (hb : Below C w w') (hC : C ≤ C') : TxK B C' w' a len := by
  refine ⟨h.1, ?_⟩
  rcases h.2 with h | ⟨g, ha, h1, h2, hx⟩
  · exact .inl h
  · refine .inr ⟨g, ha, h1, by omega, fun i hi => ?_⟩
    unfold U8
    rw [hb.cell (p := ⟨g, i, none⟩) h2, hb.frozen (p := ⟨g, i, none⟩) h2]
    exact hx i hi
theorem TsK.below {B C C' : Nat} {w w' : World} {a : Option Addr} {n : Nat} {X : Nat → Option Addr} {L Cp : Nat → Nat} (h : TsK B C w a n X L Cp) (hb : Below C w w') (hC : C ≤ C') : TsK B C' w' a n X L Cp := by
  rcases h with h | ⟨g, ha, h1, h2, hx⟩
  · exact .inl h
  · refine .inr ⟨g, ha, h1, by omega, fun i hi => ?_⟩
    have e : ∀ j, w'.cell? ⟨g, j, none⟩ = w.cell? ⟨g, j, none⟩ := fun j => hb.cell (p := ⟨g, j, none⟩) h2
    have f : ∀ j, w'.frozen? ⟨g, j, none⟩ = w.frozen? ⟨g, j, none⟩ := fun j => hb.frozen (p := ⟨g, j, none⟩) h2
    unfold I64
    simp only [e, f]
    exact ⟨(hx i hi).1, (hx i hi).2.1, (hx i hi).2.2.below hb hC⟩
theorem RsK.below {B C C' : Nat} {w w' : World} {a : Option Addr} {n : Nat} (h : RsK B C w a n) (hb : Below C w w') (hC : C ≤ C') : RsK B C' w' a n := by
  refine ⟨h.1, ?_⟩
  rcases h.2 with h | ⟨g, ha, h1, h2, hx⟩
  · exact .inl h
  · refine .inr ⟨g, ha, h1, by omega, fun i hi => ?_⟩
    unfold I64
    rw [hb.cell (p := ⟨g, i, none⟩) h2, hb.frozen (p := ⟨g, i, none⟩) h2]
    exact hx i hi
theorem SsK.below {B C C' : Nat} {w w' : World} {a : Option Addr} {n : Nat} {X : Nat → Option Addr} {L Cp : Nat → Nat} (h : SsK B C w a n X L Cp) (hb : Below C w w') (hC : C ≤ C') : SsK B C' w' a n X L Cp := by
  rcases h with h | ⟨g, ha, h2, hx⟩
  · exact .inl h
  · exact .inr ⟨g, ha, by omega, fun i hi => ⟨(hb.cell (p := ⟨g, i, none⟩) h2).trans (hx i hi).1, (hx i hi).2.below hb hC⟩⟩
end Go.Proofs.YtdcaicoomldmgaaGreatDoor

/- DvStxE -/
namespace Go.Proofs.YtdcaicoomldmgaaGreatDoor
open Go.RowKit Go.Deep
set_option maxRecDepth 100000

theorem Tryz.info3 : (Tryz.prog.info? 3).map (fun i => (i.zero, i.size, i.bytes)) = some (some (.int .i64 0), 1, 8) := by kernel_rfl
theorem run_make_ints (n : Nat) (hn : n ≤ 1048576) (w : World) :
    (Instr.makeSlice 56 (.int .i64 (n : Int)) (.int .i64 (n : Int))).run Tryz.prog w = .ok (.slice (some ⟨w.heap.size, 0, none⟩) n n) (w.alloc (.cells (madeCells #[.int .i64 0] (n * 1)) 3)) := by
  obtain ⟨i, hi, hzz⟩ := Option.map_eq_some_iff.1 Tryz.info3
  simp only [Prod.mk.injEq] at hzz
  obtain ⟨hz, hs, hb⟩ := hzz
  have hr := run_make (P := Tryz.prog) w 56 3 i _ Tryz.underlying56 hi hz .i64 .i64 n n (by omega) (Int.le_refl _) (by rw [hb]; omega) (by omega)
  simp only [Int.toNat_natCast, hs, Value.cells] at hr
  exact hr
theorem rep_flat (n : Nat) : (List.replicate n (0 : Int)).flatMap (fun x => [Value.int .i64 x]) = List.replicate n (Value.int .i64 0) := by
  induction n with
  | zero => rfl
  | succ n ih => rw [List.replicate_succ, List.flatMap_cons, ih]; rfl
theorem made_ints (w : World) (n j : Nat) (hj : j < n) : (w.alloc (.cells (madeCells #[.int .i64 0] (n * 1)) 3)).cell? ⟨w.heap.size, j, none⟩ = some (.int .i64 0) := by
  have h := made_list (fun x : Int => [Value.int .i64 x]) 1 (fun _ => rfl) 0 #[.int .i64 0] rfl n (by omega)
  refine (World.news_of_block (w := w.alloc (.cells (madeCells #[.int .i64 0] (n * 1)) 3)) (Go.heap_alloc_new _ _) j (.int .i64 0) ?_) |> fun e => by rw [addr_add, Nat.zero_add] at e; exact e
  rw [h]
  rw [rep_flat]
  rw [List.getElem?_replicate, if_pos hj]

/-- Keys of the call's own. -/
structure KO (w : World) (g : Nat) (ks : List Int) : Prop where
  lt : g < w.heap.size
  at_ : ∀ i, i < ks.length → w.cell? ⟨g, i, none⟩ = some (.int .i64 (ks[i]?.getD 0))
  fr : ∀ i, i < ks.length → w.frozen? ⟨g, i, none⟩ = false
theorem KO.below {w w' : World} {g : Nat} {ks : List Int} (h : KO w g ks) (hb : Below w.heap.size w w') : KO w' g ks :=
  ⟨Nat.lt_of_lt_of_le h.lt hb.size, fun i hi => (hb.cell (p := ⟨g, i, none⟩) h.lt).trans (h.at_ i hi), fun i hi => (hb.frozen (p := ⟨g, i, none⟩) h.lt).trans (h.fr i hi)⟩
/-- Keys that came in. -/
def KIn (w : World) (a : Option Addr) (ks : List Int) : Prop := ks.length = 0 ∨ ∃ b off, a = some ⟨b, off, none⟩ ∧ b < w.heap.size ∧ Ints w b off ks
theorem KIn.below {w w' : World} {a : Option Addr} {ks : List Int} (h : KIn w a ks) (hb : Below w.heap.size w w') : KIn w' a ks := by
  rcases h with h | ⟨b, off, e, hl, hc⟩
  · exact .inl h
  · exact .inr ⟨b, off, e, Nat.lt_of_lt_of_le hl hb.size, fun j hj => (hb.cell (p := ⟨b, off + j, none⟩) hl).trans (hc j hj)⟩
theorem KO.kin {w : World} {g : Nat} {ks : List Int} (h : KO w g ks) : KIn w (some ⟨g, 0, none⟩) ks := .inr ⟨g, 0, rfl, h.lt, fun j hj => by rw [Nat.zero_add]; exact h.at_ j hj⟩

set_option maxHeartbeats 2000000 in
theorem toIntS_any (a : Option Addr) (cap : Nat) (ks : List Int) (w : World) (hn : ks.length ≤ 1048576) (hI : KIn w a ks) :
    Calls Tryz.prog 24 #[.slice a ks.length cap] w fun e w' => e = .returned (.slice (some ⟨w.heap.size, 0, none⟩) ks.length ks.length) ∧ KO w' w.heap.size ks ∧ Below w.heap.size w w' := by
  obtain ⟨n, hnn⟩ : ∃ n, n = ks.length := ⟨_, rfl⟩
  have HN : Hid (n = ks.length) := hnn
  rw [← hnn] at hn ⊢
  have hmk := run_make_ints n hn
  by_cases hn0 : n = 0
  · subst hn0
    have hmk0 : ∀ w, (Instr.makeSlice 56 (.int .i64 0) (.int .i64 0)).run Tryz.prog w = .ok (.slice (some ⟨w.heap.size, 0, none⟩) 0 0) (w.alloc (.cells (madeCells #[.int .i64 0] 0) 3)) := fun w => by simpa using hmk w
    clear hmk hI hnn hn
    go_enter Tryz.func24, Tryz.ntmps24
    go_wp2
    refine wp_loop_rounds 1 ?_
    rw [rounds_succ]
    go_wp2
    go_ret
    exact ⟨rfl, ⟨by simp, fun i hi => by rw [← HN.out] at hi; omega, fun i hi => by rw [← HN.out] at hi; omega⟩, bl_a _⟩
  · obtain ⟨b, off, rfl, hlt, hc⟩ := hI.resolve_left (by omega)
    have HC : Hid (Ints w b off ks) := hc
    have HMD : Hid (∀ j, j < n → (w.alloc (.cells (madeCells #[.int .i64 0] (n * 1)) 3)).cell? ⟨w.heap.size, j, none⟩ = some (.int .i64 0)) := fun j hj => made_ints w n j hj
    have HMF : Hid (∀ j, (w.alloc (.cells (madeCells #[.int .i64 0] (n * 1)) 3)).frozen? ⟨w.heap.size, j, none⟩ = false) := fun j => by simp [go_sem]
    clear hI hc hnn
    go_enter Tryz.func24, Tryz.ntmps24
    go_wp2
    go_loopw [4] (fun i wr => ∃ (k : Nat), k ≤ n ∧ i = .int .i64 k ∧ Hid (∀ j, j < k → wr.cell? ⟨w.heap.size, j, none⟩ = some (.int .i64 (ks[j]?.getD 0))) ∧ Hid (∀ j, j < n → I64 wr w.heap.size j) ∧ Hid (∀ j, j < n → wr.frozen? ⟨w.heap.size, j, none⟩ = false) ∧ Hid (w.heap.size < wr.heap.size) ∧ Hid (Below w.heap.size w wr))
      (fun i _ => n - (intOf i).toNat)
    case atStart => exact ⟨0, Nat.zero_le _, rfl, fun j hj => absurd hj (Nat.not_lt_zero _), fun j hj => ⟨_, by have := HMD.out j hj; rw [Nat.mul_one] at this; exact this⟩, fun j _ => by have := HMF.out j; rw [Nat.mul_one] at this; exact this, (show w.heap.size < _ by simp), bl_a _⟩
    case round =>
      obtain ⟨k, hk, rfl, HA, HE, HF, HL, HB⟩ := hrel
      by_cases hlk : k < n
      · have hlkz : (k : Int) < (n : Int) := by omega
        have x0 : wr.cell? ⟨b, off + k, none⟩ = some (.int .i64 (ks[k]?.getD 0)) := (HB.out.cell (p := ⟨b, off + k, none⟩) hlt).trans (HC.out k (by rw [← HN.out]; exact hlk))
        obtain ⟨v, hv⟩ := HE.out k hlk
        have f0 := HF.out k hlk
        clear hmk
        go_wp2_with fail
        go_roundw
        case rel =>
          refine ⟨k + 1, by omega, by go_num, fun j hj => ?_, fun j hj => ?_, fun j hj => by rw [World.frozen?_setCell]; exact HF.out j hj, (show w.heap.size < _ by simp; exact HL.out), HB.out.setCell (p := ⟨w.heap.size, k, none⟩) (Nat.le_refl _) _⟩
          · by_cases e : j = k
            · subst e
              exact set_same hv
            · rw [set_other (by omega)]
              exact HA.out j (by omega)
          · by_cases e : j = k
            · subst e
              exact ⟨_, set_same hv⟩
            · unfold I64
              rw [set_other (by omega)]
              exact HE.out j hj
        case measure => simp [intOf]; omega
      · obtain rfl : k = n := by omega
        have hlkz : ¬ (k : Int) < (k : Int) := by omega
        clear hmk
        go_wp2
        go_ret
        exact ⟨rfl, ⟨HL.out, fun i hi => HA.out i (by rw [HN.out]; exact hi), fun i hi => HF.out i (by rw [HN.out]; exact hi)⟩, HB.out⟩

set_option maxHeartbeats 2000000 in
theorem eqIntS_same (a a' : Option Addr) (cap cap' : Nat) (ks : List Int) (w : World) (hn : ks.length ≤ 1048576) (h : KIn w a ks) (h' : KIn w a' ks) :
    Calls Tryz.prog 27 #[.slice a ks.length cap, .slice a' ks.length cap'] w fun e w' => e = .returned (.bool true) ∧ Below w.heap.size w w' := by
  obtain ⟨n, hnn⟩ : ∃ n, n = ks.length := ⟨_, rfl⟩
  have HN : Hid (n = ks.length) := hnn
  rw [← hnn] at hn ⊢
  by_cases hn0 : n = 0
  · subst hn0
    clear h h' hnn hn HN
    go_enter Tryz.func27, Tryz.ntmps27
    go_wp2
    refine wp_loop_rounds 1 ?_
    rw [rounds_succ]
    go_wp2
    go_ret
    exact ⟨rfl, Below.refl _ _⟩
  · obtain ⟨b, off, rfl, hlt, hc⟩ := h.resolve_left (by omega)
    obtain ⟨b', off', rfl, hlt', hc'⟩ := h'.resolve_left (by omega)
    have HC : Hid (Ints w b off ks) := hc
    have HC' : Hid (Ints w b' off' ks) := hc'
    clear h h' hc hc' hnn
    go_enter Tryz.func27, Tryz.ntmps27
    go_wp2
    go_loopw [5] (fun i wr => ∃ (k : Nat), k ≤ n ∧ i = .int .i64 k ∧ Hid (Below w.heap.size w wr)) (fun i _ => n - (intOf i).toNat)
    case atStart => exact ⟨0, Nat.zero_le _, rfl, Below.refl _ _⟩
    case round =>
      obtain ⟨k, hk, rfl, HB⟩ := hrel
      by_cases hlk : k < n
      · have hlkz : (k : Int) < (n : Int) := by omega
        have x0 := fun d os => ((bl_trans HB.out (bl_regrown (w := wr) d os)).cell (p := ⟨b, off + k, none⟩) hlt).trans (HC.out k (by rw [← HN.out]; exact hlk))
        have x1 := fun d os => ((bl_trans HB.out (bl_regrown (w := wr) d os)).cell (p := ⟨b', off' + k, none⟩) hlt').trans (HC'.out k (by rw [← HN.out]; exact hlk))
        generalize ks[k]?.getD 0 = z at x0 x1
        go_wp2_with fail
        refine wp_region_quiet_below (by kernel_rfl) (by kernel_rfl) ?_
        quiet_step (fail)
        quiet_step (fail)
        quiet_step (fail)
        quiet_step (fail)
        quiet_step (fail)
        quiet_step (fail)
        quiet_step (fail)
        quiet_step (fail)
        quiet_step (fail)
        refine wpQuiet_nil ?_
        intro _ hw'
        obtain ⟨⟨dq, osq⟩, hw''⟩ := hw'
        subst hw''
        go_wp2_with fail
        go_roundw
        case rel => exact ⟨k + 1, by omega, by go_num, bl_trans HB.out (bl_regrown (w := wr) dq osq)⟩
        case measure => simp [intOf]; omega
      · obtain rfl : k = n := by omega
        have hlkz : ¬ (k : Int) < (k : Int) := by omega
        go_wp2
        go_ret
        exact ⟨rfl, HB.out⟩
end Go.Proofs.YtdcaicoomldmgaaGreatDoor

/- DvStxF -/
namespace Go.Proofs.YtdcaicoomldmgaaGreatDoor
open Go.RowKit Go.Deep
set_option maxRecDepth 100000

/-- A struct of two fields at the head of block b. -/
def Bx2 (w : World) (b : Nat) (v0 v1 : Value) : Prop := w.cell? ⟨b, 0, none⟩ = some v0 ∧ w.cell? ⟨b, 1, none⟩ = some v1 ∧ b < w.heap.size
theorem Bx2.below {w w' : World} {b : Nat} {v0 v1 : Value} (h : Bx2 w b v0 v1) (hb : Below w.heap.size w w') : Bx2 w' b v0 v1 :=
  ⟨(hb.cell (p := ⟨b, 0, none⟩) h.2.2).trans h.1, (hb.cell (p := ⟨b, 1, none⟩) h.2.2).trans h.2.1, Nat.lt_of_lt_of_le h.2.2 hb.size⟩
theorem Bx2.new (w : World) (v0 v1 : Value) (t : TypeId) : Bx2 (w.alloc (.cells #[v0, v1] t)) w.heap.size v0 v1 := by
  refine ⟨?_, ?_, by simp⟩ <;> simp [go_sem]

/-- What a scan tells. -/
def ScanAns (tb : List TB) (rs : List (List (Int × Int × Int))) (order : Int) (ks : List Int) (L : List (Int × Int × Int)) : Prop :=
  (Good tb rs ∧ 0 ≤ order ∧ order ≤ 5 ∧ ks.length ≤ 3 ∧ ∃ l, rs[order.toNat]? = some l ∧ L = scanL order.toNat ks l) ∨ (¬ (Good tb rs ∧ 0 ≤ order ∧ order ≤ 5 ∧ ks.length ≤ 3) ∧ L = [])
theorem ScanAns.unique {tb : List TB} {rs : List (List (Int × Int × Int))} {order : Int} {ks : List Int} {L L' : List (Int × Int × Int)} (h : ScanAns tb rs order ks L) (h' : ScanAns tb rs order ks L') : L = L' := by
  rcases h with ⟨g, h1, h2, h3, l, hl, rfl⟩ | ⟨hn, rfl⟩
  · rcases h' with ⟨_, _, _, _, l', hl', rfl⟩ | ⟨hn, _⟩
    · rw [hl] at hl'
      cases hl'
      rfl
    · exact absurd ⟨g, h1, h2, h3⟩ hn
  · rcases h' with ⟨g, h1, h2, h3, _⟩ | ⟨_, rfl⟩
    · exact absurd ⟨g, h1, h2, h3⟩ hn
    · rfl
theorem ScanAns.td {tb tb' : List TB} {rs : List (List (Int × Int × Int))} {order : Int} {ks : List Int} {L : List (Int × Int × Int)} (hg : Good tb' rs ↔ Good tb rs) (h : ScanAns tb' rs order ks L) : ScanAns tb rs order ks L := by
  unfold ScanAns at h ⊢
  rw [hg] at h
  exact h
/-- What the two functions answer. -/
def ScRes (w : World) (P : List (Int × Int × Int) → Prop) (e : Ending) (w' : World) : Prop := ∃ a cap L, e = .returned (.slice a (List.length L) cap) ∧ P L ∧ OwnRR w' w.heap.size (.slice a L.length cap) L ∧ L.length ≤ 1048576 ∧ Below w.heap.size w w'
theorem ScRes.nil {w w' : World} {P : List (Int × Int × Int) → Prop} (h : P []) (hb : Below w.heap.size w w') : ScRes w P (.returned (.slice none 0 0)) w' := ⟨none, 0, [], rfl, h, OwnRR.nil _ _, by simp, hb⟩
theorem ScRes.of {w w1 w' : World} {P : List (Int × Int × Int) → Prop} {L : List (Int × Int × Int)} {e : Ending} (h : ScanRes w1 L e w') (hP : P L) (hl : L.length ≤ 1048576) (hb : Below w.heap.size w w1) : ScRes w P e w' := by
  obtain ⟨a, cap, rfl, ho, hb2⟩ := h
  exact ⟨a, cap, L, rfl, hP, ho.base hb.size, hl, bl_trans hb hb2⟩
theorem scanL_len (o : Nat) (ks : List Int) (l : List (Int × Int × Int)) : (scanL o ks l).length ≤ l.length := List.length_filter_le _ _

set_option maxHeartbeats 4000000 in
theorem implScan_any (aT aR : Option Addr) (capT capR : Nat) (tb : List TB) (rbs : List RB) (order : Int) (pk : Option Addr) (capK : Nat) (ks : List Int) (w : World) (h : SArg w aT tb aR rbs) (hcap : ∀ x ∈ rbs, x.l.length ≤ x.cap) (hkn : ks.length ≤ 1048576) (hI : KIn w pk ks) (ht : Tab w) :
    Calls Tryz.prog 25 #[.agg #[.slice aT tb.length capT, .slice aR rbs.length capR], .int .i64 order, .slice pk ks.length capK] w (ScRes w (ScanAns tb (rbs.map RB.l) order ks)) := by
  have hO := fun o => implStoreOk_any aT aR capT capR tb rbs (w.alloc o) (h.below (bl_a o)) (ht.below (bl_a o))
  have HS : Hid (SArg w aT tb aR rbs) := h
  have HC : Hid (∀ x ∈ rbs, x.l.length ≤ x.cap) := hcap
  have HI : Hid (KIn w pk ks) := hI
  obtain ⟨P, hP⟩ : ∃ P, P = ScanAns tb (rbs.map RB.l) order ks := ⟨_, rfl⟩
  have HP : Hid (P = ScanAns tb (rbs.map RB.l) order ks) := hP
  obtain ⟨nT, hnT⟩ : ∃ nT, nT = tb.length := ⟨_, rfl⟩
  obtain ⟨nR, hnR⟩ : ∃ nR, nR = rbs.length := ⟨_, rfl⟩
  obtain ⟨k, hk⟩ : ∃ k, k = ks.length := ⟨_, rfl⟩
  have HNR : Hid (nR = rbs.length) := hnR
  have HK : Hid (k = ks.length) := hk
  rw [← hP, ← hnT, ← hnR, ← hk]
  rw [← hnT, ← hnR] at hO
  rw [← hk] at hkn
  clear h hcap hI ht hP hnT hnR hk
  go_enter Tryz.func25, Tryz.ntmps25
  go_wp2_with fail
  refine (hO _).mono ?_
  rintro e w1 ⟨q, rfl, hq, hb1⟩
  have HQ : Hid (q = true ↔ Good tb (rbs.map RB.l)) := hq
  have HBX : Hid (Bx2 w1 w.heap.size (.slice aT nT capT) (.slice aR nR capR)) := (Bx2.new w _ _ 29).below hb1
  have HB1 : Hid (Below w.heap.size w w1) := bl_trans (bl_a _) hb1
  clear hO hq hb1
  cases q
  · have hno : P [] := by
      rw [HP.out]
      exact .inr ⟨fun g => (by have := HQ.out.2 g.1; cases this), rfl⟩
    have HNO : Hid (P []) := hno
    clear hno
    go_wp2_with fail
    go_ret
    exact ScRes.nil HNO.out HB1.out
  · by_cases hin : 0 ≤ order ∧ order ≤ 5
    · obtain ⟨hin0, hin5⟩ := hin
      have hW : ∀ W, Calls Tryz.prog 62 #[.int .i64 order, .int .i64 0, .int .i64 5] W fun e w' => e = .returned (.bool true) ∧ w' = W := fun W => by
        have := within_any order 0 5 W
        rw [decide_eq_true hin0, decide_eq_true hin5] at this
        exact this
      by_cases hk3 : k ≤ 3
      · obtain ⟨o, ho, ho6⟩ : ∃ o : Nat, order = o ∧ o < 6 := ⟨order.toNat, by omega, by omega⟩
        subst ho
        have hk3z : ¬ (k : Int) > 3 := by omega
        have hg : Good tb (rbs.map RB.l) := HQ.out.1 (by simp)
        have h6 : rbs.length = 6 := by have := hg.six; simpa using this
        obtain ⟨x, hx⟩ : ∃ x, rbs[o]? = some x := ⟨_, List.getElem?_eq_getElem (by omega)⟩
        have hxm := List.mem_of_getElem? hx
        have hS1 := HS.out.below HB1.out
        have hrow := hg.row o x.l (by rw [List.getElem?_map, hx]; rfl)
        have hSC := scan_any o x.a x.cap x.l pk capK ks w1 ho6 (hS1.hold x hxm).2 (HC.out x hxm) (by rw [← HK.out]; exact hk3) (hS1.hold x hxm).1 (by
          rcases HI.out.below HB1.out with e | e
          · exact .inl e
          · exact .inr e) hrow.asc
        rw [← HK.out] at hSC
        obtain ⟨bR, oR, ea, hbR, hcR⟩ := hS1.srow.resolve_left (fun e => by rw [e] at h6; simp at h6)
        have hc := hcR o x hx
        subst ea
        have hPL : P (scanL o ks x.l) := by
          rw [HP.out]
          exact .inl ⟨hg, by omega, by omega, by rw [← HK.out]; exact hk3, x.l, by rw [List.getElem?_map]; simp [hx], by simp⟩
        have HPL : Hid (P (scanL o ks x.l)) := hPL
        have HLN : Hid ((scanL o ks x.l).length ≤ 1048576) := Nat.le_trans (scanL_len _ _ _) (hS1.hold x hxm).2
        have hn6 : nR = 6 := by rw [HNR.out]; exact h6
        subst hn6
        have hoz : (o : Int) < 6 := by omega
        obtain ⟨c0, c1, c2⟩ := id HBX.out
        clear hg hS1 hrow hcR hPL h6 hx hxm hin0 hin5
        generalize x.l.length = m at *
        go_wp2_with (first | (go_at_call 62; refine (hW _).mono ?_; rintro e w2 ⟨rfl, rfl⟩))
        refine hSC.mono ?_
        intro e w3 hr
        have hr' := ScRes.of (P := P) hr HPL.out HLN.out HB1.out
        clear hr hSC
        obtain ⟨a', c', L', rfl, hres⟩ := hr'
        have HRES : Hid (P L' ∧ OwnRR w3 w.heap.size (.slice a' L'.length c') L' ∧ L'.length ≤ 1048576 ∧ Below w.heap.size w w3) := hres
        clear hres
        go_wp2_with fail
        go_ret
        exact ⟨a', c', L', rfl, HRES.out⟩
      · have hk3z : (k : Int) > 3 := by omega
        have HNO : Hid (P []) := by
          show P []
          rw [HP.out]
          exact .inr ⟨fun g => hk3 (by rw [HK.out]; exact g.2.2.2), rfl⟩
        go_wp2_with (first | (go_at_call 62; refine (hW _).mono ?_; rintro e w2 ⟨rfl, rfl⟩))
        go_ret
        exact ScRes.nil HNO.out HB1.out
    · have hW : ∀ W, Calls Tryz.prog 62 #[.int .i64 order, .int .i64 0, .int .i64 5] W fun e w' => e = .returned (.bool false) ∧ w' = W := fun W => by
        have h := within_any order 0 5 W
        have e : (decide (0 ≤ order) && decide (order ≤ 5)) = false := by
          by_cases h0 : 0 ≤ order
          · have : ¬ order ≤ 5 := fun h5 => hin ⟨h0, h5⟩
            simp [this]
          · simp [h0]
        rw [e] at h
        exact h
      have HNO : Hid (P []) := by
        show P []
        rw [HP.out]
        exact .inr ⟨fun g => hin ⟨g.2.1, g.2.2.1⟩, rfl⟩
      clear hin
      go_wp2_with (first | (go_at_call 62; refine (hW _).mono ?_; rintro e w2 ⟨rfl, rfl⟩))
      go_ret
      exact ScRes.nil HNO.out HB1.out

set_option maxHeartbeats 4000000 in
theorem specScan_any (aT aR : Option Addr) (capT capR : Nat) (tb : List TB) (rbs : List RB) (order : Int) (pk : Option Addr) (capK : Nat) (ks : List Int) (w : World) (h : SArg w aT tb aR rbs) (hkn : ks.length ≤ 1048576) (hI : KIn w pk ks) :
    Calls Tryz.prog 23 #[.agg #[.slice aT tb.length capT, .slice aR rbs.length capR], .int .i64 order, .slice pk ks.length capK] w (ScRes w (ScanAns tb (rbs.map RB.l) order ks)) := by
  have hO := fun o => specStoreOk_any aT aR capT capR tb rbs (w.alloc o) (h.below (bl_a o))
  have HS : Hid (SArg w aT tb aR rbs) := h
  have HI : Hid (KIn w pk ks) := hI
  obtain ⟨P, hP⟩ : ∃ P, P = ScanAns tb (rbs.map RB.l) order ks := ⟨_, rfl⟩
  have HP : Hid (P = ScanAns tb (rbs.map RB.l) order ks) := hP
  obtain ⟨nT, hnT⟩ : ∃ nT, nT = tb.length := ⟨_, rfl⟩
  obtain ⟨nR, hnR⟩ : ∃ nR, nR = rbs.length := ⟨_, rfl⟩
  obtain ⟨k, hk⟩ : ∃ k, k = ks.length := ⟨_, rfl⟩
  have HNR : Hid (nR = rbs.length) := hnR
  have HK : Hid (k = ks.length) := hk
  rw [← hP, ← hnT, ← hnR, ← hk]
  rw [← hnT, ← hnR] at hO
  rw [← hk] at hkn
  clear h hI hP hnT hnR hk
  go_enter Tryz.func23, Tryz.ntmps23
  go_wp2_with fail
  refine (hO _).mono ?_
  rintro e w1 ⟨q, rfl, hq, hb1⟩
  have HQ : Hid (q = true ↔ Good tb (rbs.map RB.l)) := hq
  have HBX : Hid (Bx2 w1 w.heap.size (.slice aT nT capT) (.slice aR nR capR)) := (Bx2.new w _ _ 29).below hb1
  have HB1 : Hid (Below w.heap.size w w1) := bl_trans (bl_a _) hb1
  clear hO hq hb1
  cases q
  · have HNO : Hid (P []) := by
      show P []
      rw [HP.out]
      exact .inr ⟨fun g => (by have := HQ.out.2 g.1; cases this), rfl⟩
    go_wp2_with fail
    go_ret
    exact ScRes.nil HNO.out HB1.out
  · by_cases hin0 : order < 0
    · have HNO : Hid (P []) := by
        show P []
        rw [HP.out]
        exact .inr ⟨fun g => by omega, rfl⟩
      go_wp2_with fail
      go_ret
      exact ScRes.nil HNO.out HB1.out
    · by_cases hin5 : order > 5
      · have HNO : Hid (P []) := by
          show P []
          rw [HP.out]
          exact .inr ⟨fun g => by omega, rfl⟩
        go_wp2_with fail
        go_ret
        exact ScRes.nil HNO.out HB1.out
      · by_cases hk3 : k ≤ 3
        · obtain ⟨o, ho, ho6⟩ : ∃ o : Nat, order = o ∧ o < 6 := ⟨order.toNat, by omega, by omega⟩
          subst ho
          have hk3z : ¬ (k : Int) > 3 := by omega
          have hg : Good tb (rbs.map RB.l) := HQ.out.1 (by simp)
          have h6 : rbs.length = 6 := by have := hg.six; simpa using this
          obtain ⟨x, hx⟩ : ∃ x, rbs[o]? = some x := ⟨_, List.getElem?_eq_getElem (by omega)⟩
          have hxm := List.mem_of_getElem? hx
          have hS1 := HS.out.below HB1.out
          have hSC := l3scan_any w.heap.size o aR capR rbs x pk capK ks w1 ho6 hx (hS1.hold x hxm).2 (by rw [← HK.out]; exact hk3) HBX.out.2.2 (by rw [← HNR.out]; exact HBX.out.2.1) hS1.srow (hS1.hold x hxm).1 (by
            rcases HI.out.below HB1.out with e | e
            · exact .inl e
            · exact .inr e)
          rw [← HK.out] at hSC
          have hPL : P (scanL o ks x.l) := by
            rw [HP.out]
            exact .inl ⟨hg, by omega, by omega, by rw [← HK.out]; exact hk3, x.l, by rw [List.getElem?_map]; simp [hx], by simp⟩
          have HPL : Hid (P (scanL o ks x.l)) := hPL
          have HLN : Hid ((scanL o ks x.l).length ≤ 1048576) := Nat.le_trans (scanL_len _ _ _) (hS1.hold x hxm).2
          clear hg hS1 hPL h6 hx hxm
          go_wp2_with fail
          refine hSC.mono ?_
          intro e w3 hr
          have hr' := ScRes.of (P := P) hr HPL.out HLN.out HB1.out
          clear hr hSC
          obtain ⟨a', c', L', rfl, hres⟩ := hr'
          have HRES : Hid (P L' ∧ OwnRR w3 w.heap.size (.slice a' L'.length c') L' ∧ L'.length ≤ 1048576 ∧ Below w.heap.size w w3) := hres
          clear hres
          go_wp2_with fail
          go_ret
          exact ⟨a', c', L', rfl, HRES.out⟩
        · have hk3z : (k : Int) > 3 := by omega
          have HNO : Hid (P []) := by
            show P []
            rw [HP.out]
            exact .inr ⟨fun g => hk3 (by rw [HK.out]; exact g.2.2.2), rfl⟩
          go_wp2_with fail
          go_ret
          exact ScRes.nil HNO.out HB1.out
end Go.Proofs.YtdcaicoomldmgaaGreatDoor
