/- Texts put together: DvGtxD DvStwA DvStwB -/
import Derived.Test.YtdcaicoomldmgaaGreatDoorMk12
import Derived.Test.YtdcaicoomldmgaaGreatDoorMk07
/- DvGtxD -/
namespace Go.Proofs.YtdcaicoomldmgaaGreatDoor
open Go.RowKit Go.Deep
set_option maxRecDepth 100000

/-- There lies a byte. -/
def U8 (w : World) (b j : Nat) : Prop := ∃ v, w.cell? ⟨b, j, none⟩ = some (.int .u8 v)
/-- Bytes stay bytes, and what may be written may be. -/
structure U8K (w w' : World) : Prop where
  u : ∀ b j, U8 w b j → U8 w' b j
  f : ∀ p, w'.frozen? p = w.frozen? p
theorem U8K.refl (w : World) : U8K w w := ⟨fun _ _ h => h, fun _ => rfl⟩
theorem U8K.trans {w w' w'' : World} (h : U8K w w') (k : U8K w' w'') : U8K w w'' := ⟨fun b j q => k.u b j (h.u b j q), fun p => (k.f p).trans (h.f p)⟩
theorem cell_set_other {w : World} {g i b j : Nat} {v : Value} (h : b ≠ g ∨ j ≠ i) : (w.setCell ⟨g, i, none⟩ v).cell? ⟨b, j, none⟩ = w.cell? ⟨b, j, none⟩ := by
  by_cases hb : b = g
  · subst hb
    exact set_other (h.resolve_left (fun k => k rfl))
  · exact World.cell?_of_block (Below.heap_setCell _ _ _ _ (by exact hb))

/-- markByteS on a text of the call's own, wherever the marks have come to. -/
theorem markByteS_keep (g len cap : Nat) (k : Int) (w : World) (hk : 0 ≤ k) (hk2 : k ≤ 1152921504606846976) (hlen : len ≤ 1048576)
    (hc : ∀ i, i < len → U8 w g i) (hf : ∀ i, i < len → w.frozen? ⟨g, i, none⟩ = false) :
    Calls Tryz.prog 89 #[.slice (some ⟨g, 0, none⟩) len cap, .int .i64 k] w fun e w' => e = .returned (.int .i64 (k + len)) ∧ But g w w' ∧ U8K w w' := by
  have HC0 : Hid (∀ i, i < len → U8 w g i) := hc
  have HF0 : Hid (∀ i, i < len → w.frozen? ⟨g, i, none⟩ = false) := hf
  clear hc hf
  go_enter Tryz.func89, Tryz.ntmps89
  go_wp2_with fail
  go_loopw [1, 5] (fun a b wr => ∃ j : Nat, j ≤ len ∧ a = .int .i64 (k + j) ∧ b = .int .i64 j ∧ Hid (But g w wr) ∧ Hid (U8K w wr))
    (fun _ b _ => len - (intOf b).toNat)
  case atStart => exact ⟨0, Nat.zero_le _, by simp, rfl, But.refl _ _, U8K.refl _⟩
  case round =>
    obtain ⟨j, hj, rfl, rfl, HB, HU⟩ := hrel
    by_cases hlt : j < len
    · obtain ⟨v, hv⟩ := HU.out.u g j (HC0.out j hlt)
      have hfv := (HU.out.f ⟨g, j, none⟩).trans (HF0.out j hlt)
      go_wp2
      go_roundw
      case rel =>
        refine ⟨j + 1, by omega, by go_num, by go_num, HB.out.set _ _, HU.out.trans ⟨fun b i hu => ?_, fun p => by rw [World.frozen?_setCell]⟩⟩
        by_cases e : b = g ∧ i = j
        · obtain ⟨rfl, rfl⟩ := e
          exact ⟨_, set_same hv⟩
        · obtain ⟨u, hu⟩ := hu
          refine ⟨u, ?_⟩
          rw [cell_set_other (by omega)]
          exact hu
      case measure => simp [intOf]; omega
    · obtain rfl : j = len := by omega
      go_wp2
      go_ret
      exact ⟨rfl, HB.out, HU.out⟩

/-- What lies below B or from C on is as it was. -/
structure Mid (B C : Nat) (w w' : World) : Prop where
  os : w'.os = w.os
  tape : w'.tape = w.tape
  output : w'.output = w.output
  size : w'.heap.size = w.heap.size
  block : ∀ b, b < B ∨ C ≤ b → w'.heap[b]? = w.heap[b]?
theorem Mid.refl (B C : Nat) (w : World) : Mid B C w w := ⟨rfl, rfl, rfl, rfl, fun _ _ => rfl⟩
theorem Mid.but {B C g : Nat} {w w1 w2 : World} (h : Mid B C w w1) (k : But g w1 w2) (hB : B ≤ g) (hC : g < C) : Mid B C w w2 :=
  ⟨k.os.trans h.os, k.tape.trans h.tape, k.output.trans h.output, k.size.trans h.size, fun b hb => (k.block b (by omega)).trans (h.block b hb)⟩
theorem Mid.below {B C : Nat} {w w' : World} (h : Mid B C w w') : Below B w w' := ⟨h.os, h.tape, h.output, by rw [h.size]; exact Nat.le_refl _, fun b hb => h.block b (.inl hb)⟩

/-- A row of triples that may be marked. -/
structure Mk (w : World) (B C g n : Nat) (A1 A2 A3 l1 l2 l3 : Nat → Nat) : Prop where
  ex : Ex w g (n * 12)
  wr : Wr w g (n * 12)
  s1 : ∀ i, i < n → w.cell? ⟨g, i * 12 + 1, none⟩ = some (.slice (some ⟨A1 i, 0, none⟩) (l1 i) (l1 i))
  s2 : ∀ i, i < n → w.cell? ⟨g, i * 12 + 5, none⟩ = some (.slice (some ⟨A2 i, 0, none⟩) (l2 i) (l2 i))
  s3 : ∀ i, i < n → w.cell? ⟨g, i * 12 + 9, none⟩ = some (.slice (some ⟨A3 i, 0, none⟩) (l3 i) (l3 i))
  t1 : ∀ i, i < n → ∀ j, j < l1 i → U8 w (A1 i) j ∧ w.frozen? ⟨A1 i, j, none⟩ = false
  t2 : ∀ i, i < n → ∀ j, j < l2 i → U8 w (A2 i) j ∧ w.frozen? ⟨A2 i, j, none⟩ = false
  t3 : ∀ i, i < n → ∀ j, j < l3 i → U8 w (A3 i) j ∧ w.frozen? ⟨A3 i, j, none⟩ = false
  b1 : ∀ i, i < n → g < A1 i ∧ A1 i < C ∧ l1 i ≤ 1048576
  b2 : ∀ i, i < n → g < A2 i ∧ A2 i < C ∧ l2 i ≤ 1048576
  b3 : ∀ i, i < n → g < A3 i ∧ A3 i < C ∧ l3 i ≤ 1048576
  bg : B ≤ g ∧ g < C
theorem Mk.set {w : World} {B C g n i : Nat} {A1 A2 A3 l1 l2 l3 : Nat → Nat} (h : Mk w B C g n A1 A2 A3 l1 l2 l3) (v : Value) (hi : i % 4 ≠ 1) : Mk (w.setCell ⟨g, i, none⟩ v) B C g n A1 A2 A3 l1 l2 l3 := by
  refine ⟨h.ex.set, fun j hj => by rw [World.frozen?_setCell]; exact h.wr j hj, fun j hj => ?_, fun j hj => ?_, fun j hj => ?_, fun j hj q hq => ?_, fun j hj q hq => ?_, fun j hj q hq => ?_, h.b1, h.b2, h.b3, h.bg⟩
  · rw [cell_set_other (by omega)]; exact h.s1 j hj
  · rw [cell_set_other (by omega)]; exact h.s2 j hj
  · rw [cell_set_other (by omega)]; exact h.s3 j hj
  · unfold U8; rw [cell_set_other (by have := h.b1 j hj; omega), World.frozen?_setCell]; exact h.t1 j hj q hq
  · unfold U8; rw [cell_set_other (by have := h.b2 j hj; omega), World.frozen?_setCell]; exact h.t2 j hj q hq
  · unfold U8; rw [cell_set_other (by have := h.b3 j hj; omega), World.frozen?_setCell]; exact h.t3 j hj q hq
theorem Mk.mark {w w' : World} {B C g n c : Nat} {A1 A2 A3 l1 l2 l3 : Nat → Nat} (h : Mk w B C g n A1 A2 A3 l1 l2 l3) (hb : But c w w') (hu : U8K w w') (hc : g < c) : Mk w' B C g n A1 A2 A3 l1 l2 l3 := by
  have hg : g ≠ c := by omega
  have e : ∀ i, w'.cell? ⟨g, i, none⟩ = w.cell? ⟨g, i, none⟩ := fun i => hb.cell (p := ⟨g, i, none⟩) hg
  refine ⟨fun j hj => by rw [e]; exact h.ex j hj, fun j hj => by rw [hu.f]; exact h.wr j hj, fun j hj => by rw [e]; exact h.s1 j hj, fun j hj => by rw [e]; exact h.s2 j hj, fun j hj => by rw [e]; exact h.s3 j hj, fun j hj q hq => ?_, fun j hj q hq => ?_, fun j hj q hq => ?_, h.b1, h.b2, h.b3, h.bg⟩
  · rw [hu.f]; exact ⟨hu.u _ _ (h.t1 j hj q hq).1, (h.t1 j hj q hq).2⟩
  · rw [hu.f]; exact ⟨hu.u _ _ (h.t2 j hj q hq).1, (h.t2 j hj q hq).2⟩
  · rw [hu.f]; exact ⟨hu.u _ _ (h.t3 j hj q hq).1, (h.t3 j hj q hq).2⟩
theorem Mid.set {B C g i : Nat} {w w1 : World} {v : Value} (h : Mid B C w w1) (hB : B ≤ g) (hC : g < C) : Mid B C w (w1.setCell ⟨g, i, none⟩ v) := h.but ((But.refl g w1).set i v) hB hC

set_option maxHeartbeats 2000000 in
theorem markTripleS_any (B C g n cap : Nat) (A1 A2 A3 l1 l2 l3 : Nat → Nat) (k : Int) (w : World) (hn : n ≤ 1048576) (hk : 0 ≤ k) (hk2 : k ≤ 4194304) (hM : Mk w B C g n A1 A2 A3 l1 l2 l3) :
    Calls Tryz.prog 45 #[.slice (some ⟨g, 0, none⟩) n cap, .int .i64 k] w fun e w' => (∃ q : Int, e = .returned (.int .i64 q) ∧ 0 ≤ q) ∧ Mid B C w w' := by
  have HM0 : Hid (Mk w B C g n A1 A2 A3 l1 l2 l3) := hM
  have hBg := hM.bg.1
  have hgC := hM.bg.2
  clear hM
  go_enter Tryz.func45, Tryz.ntmps45
  go_wp2_with fail
  go_loopw [1, 5] (fun a b wr => ∃ (j : Nat) (m : Int), j ≤ n ∧ b = .int .i64 j ∧ a = .int .i64 m ∧ 0 ≤ m ∧ m ≤ 4194304 + j * 3145737 ∧ Hid (Mk wr B C g n A1 A2 A3 l1 l2 l3) ∧ Hid (Mid B C w wr))
    (fun _ b _ => n - (intOf b).toNat)
  case atStart => exact ⟨0, k, Nat.zero_le _, rfl, rfl, hk, by omega, HM0, Mid.refl _ _ _⟩
  case round =>
    obtain ⟨j, m, hj, rfl, rfl, hm0, hm1, HM, HD⟩ := hrel
    clear HM0
    by_cases hlt : j < n
    · obtain ⟨p1, q1, r1⟩ := HM.out.b1 j hlt
      obtain ⟨p2, q2, r2⟩ := HM.out.b2 j hlt
      obtain ⟨p3, q3, r3⟩ := HM.out.b3 j hlt
      obtain ⟨v0, e0⟩ := HM.out.ex (j * 12) (by omega)
      have f0 := HM.out.wr (j * 12) (by omega)
      have e1 := HM.out.s1 j hlt
      have HM1 : Hid (Mk (wr.setCell ⟨g, j * 12, none⟩ (.int .i64 m)) B C g n A1 A2 A3 l1 l2 l3) := HM.out.set _ (by omega)
      have HD1 : Hid (Mid B C w (wr.setCell ⟨g, j * 12, none⟩ (.int .i64 m))) := HD.out.set hBg hgC
      go_wp2_with fail
      refine (markByteS_keep (A1 j) (l1 j) (l1 j) (m + 1) _ (by omega) (by omega) r1 (fun i hi => (HM1.out.t1 j hlt i hi).1) (fun i hi => (HM1.out.t1 j hlt i hi).2)).mono ?_
      rintro e w2 ⟨rfl, hb2, hu2⟩
      have HM2 : Hid (Mk w2 B C g n A1 A2 A3 l1 l2 l3) := HM1.out.mark hb2 hu2 p1
      have HD2 : Hid (Mid B C w w2) := HD1.out.but hb2 (by omega) q1
      clear e0 f0 e1 HM1 HD1 hb2 hu2 HM HD
      obtain ⟨v2, e2⟩ := HM2.out.ex (j * 12 + 2) (by omega)
      obtain ⟨v3, e3⟩ := HM2.out.ex (j * 12 + 3) (by omega)
      obtain ⟨v4, e4⟩ := HM2.out.ex (j * 12 + 4) (by omega)
      have f2 := HM2.out.wr (j * 12 + 2) (by omega)
      have f3 := HM2.out.wr (j * 12 + 3) (by omega)
      have f4 := HM2.out.wr (j * 12 + 4) (by omega)
      have e5 := HM2.out.s2 j hlt
      have HM3 := fun (a b c : Value) => (show Hid (Mk (((w2.setCell ⟨g, j * 12 + 2, none⟩ a).setCell ⟨g, j * 12 + 3, none⟩ b).setCell ⟨g, j * 12 + 4, none⟩ c) B C g n A1 A2 A3 l1 l2 l3) from ((HM2.out.set a (by omega)).set b (by omega)).set c (by omega))
      have HD3 := fun (a b c : Value) => (show Hid (Mid B C w (((w2.setCell ⟨g, j * 12 + 2, none⟩ a).setCell ⟨g, j * 12 + 3, none⟩ b).setCell ⟨g, j * 12 + 4, none⟩ c)) from ((HD2.out.set hBg hgC).set hBg hgC).set hBg hgC)
      go_wp2_with fail
      refine (markByteS_keep (A2 j) (l2 j) (l2 j) _ _ ?_ ?_ r2 (fun i hi => ((HM3 _ _ _).out.t2 j hlt i hi).1) (fun i hi => ((HM3 _ _ _).out.t2 j hlt i hi).2)).mono ?_
      · omega
      · omega
      rintro e w3 ⟨rfl, hb3, hu3⟩
      have HM4 : Hid (Mk w3 B C g n A1 A2 A3 l1 l2 l3) := (HM3 _ _ _).out.mark hb3 hu3 p2
      have HD4 : Hid (Mid B C w w3) := (HD3 _ _ _).out.but hb3 (by omega) q2
      clear e2 e3 e4 f2 f3 f4 e5 HM3 HD3 hb3 hu3 HM2 HD2
      obtain ⟨v6, e6⟩ := HM4.out.ex (j * 12 + 6) (by omega)
      obtain ⟨v7, e7⟩ := HM4.out.ex (j * 12 + 7) (by omega)
      obtain ⟨v8, e8⟩ := HM4.out.ex (j * 12 + 8) (by omega)
      have f6 := HM4.out.wr (j * 12 + 6) (by omega)
      have f7 := HM4.out.wr (j * 12 + 7) (by omega)
      have f8 := HM4.out.wr (j * 12 + 8) (by omega)
      have e9 := HM4.out.s3 j hlt
      have HM5 := fun (a b c : Value) => (show Hid (Mk (((w3.setCell ⟨g, j * 12 + 6, none⟩ a).setCell ⟨g, j * 12 + 7, none⟩ b).setCell ⟨g, j * 12 + 8, none⟩ c) B C g n A1 A2 A3 l1 l2 l3) from ((HM4.out.set a (by omega)).set b (by omega)).set c (by omega))
      have HD5 := fun (a b c : Value) => (show Hid (Mid B C w (((w3.setCell ⟨g, j * 12 + 6, none⟩ a).setCell ⟨g, j * 12 + 7, none⟩ b).setCell ⟨g, j * 12 + 8, none⟩ c)) from ((HD4.out.set hBg hgC).set hBg hgC).set hBg hgC)
      go_wp2_with fail
      refine (markByteS_keep (A3 j) (l3 j) (l3 j) _ _ ?_ ?_ r3 (fun i hi => ((HM5 _ _ _).out.t3 j hlt i hi).1) (fun i hi => ((HM5 _ _ _).out.t3 j hlt i hi).2)).mono ?_
      · omega
      · omega
      rintro e w4 ⟨rfl, hb4, hu4⟩
      have HM6 : Hid (Mk w4 B C g n A1 A2 A3 l1 l2 l3) := (HM5 _ _ _).out.mark hb4 hu4 p3
      have HD6 : Hid (Mid B C w w4) := (HD5 _ _ _).out.but hb4 (by omega) q3
      clear e6 e7 e8 f6 f7 f8 e9 HM5 HD5 hb4 hu4 HM4 HD4
      obtain ⟨va, ea⟩ := HM6.out.ex (j * 12 + 10) (by omega)
      obtain ⟨vb, eb⟩ := HM6.out.ex (j * 12 + 11) (by omega)
      have fa := HM6.out.wr (j * 12 + 10) (by omega)
      have fb := HM6.out.wr (j * 12 + 11) (by omega)
      go_wp2_with fail
      go_roundw
      case rel =>
        refine ⟨j + 1, _, by omega, by go_num, rfl, by omega, by omega, (HM6.out.set _ (by omega)).set _ (by omega), (HD6.out.set hBg hgC).set hBg hgC⟩
      case measure => simp [intOf]; omega
    · obtain rfl : j = n := by omega
      go_wp2_with fail
      go_ret
      exact ⟨⟨m, rfl, hm0⟩, HD.out⟩

theorem markGraph_any (B C g n cap : Nat) (A1 A2 A3 l1 l2 l3 : Nat → Nat) (k : Int) (w : World) (hn : n ≤ 1048576) (hk : 0 ≤ k) (hk2 : k ≤ 4194304) (hM : ∀ o, Mk (w.alloc o) B C g n A1 A2 A3 l1 l2 l3) :
    Calls Tryz.prog 13 #[.agg #[.slice (some ⟨g, 0, none⟩) n cap], .int .i64 k] w fun e w' => ∃ (q : Int) (o : Obj), e = .returned (.int .i64 q) ∧ 0 ≤ q ∧ Mid B C (w.alloc o) w' := by
  go_enter Tryz.func13, Tryz.ntmps13
  go_wp2_with fail
  refine (markTripleS_any B C g n cap A1 A2 A3 l1 l2 l3 k _ hn hk hk2 (hM _)).mono ?_
  rintro e w1 ⟨⟨q, rfl, hq⟩, hD⟩
  have HD : Hid (Mid B C (w.alloc (.cells #[.slice (some ⟨g, 0, none⟩) n cap] 34)) w1) := hD
  clear hD hM
  go_wp2_with fail
  go_ret
  exact ⟨q, _, rfl, hq, HD.out⟩
end Go.Proofs.YtdcaicoomldmgaaGreatDoor

/- DvStwA -/
namespace Go.Proofs.YtdcaicoomldmgaaGreatDoor
open Go.RowKit Go.Deep
set_option maxRecDepth 100000

/-- A text that is marked from k on. -/
def MarkedW (w : World) (a : Option Addr) (len : Nat) (k : Int) : Prop := len = 0 ∨ ∃ g, a = some ⟨g, 0, none⟩ ∧ g < w.heap.size ∧ ∀ i, i < len → w.cell? ⟨g, i, none⟩ = some (.int .u8 ((k + (i : Nat)) % 256))
theorem MarkedW.below {w w' : World} {a : Option Addr} {len : Nat} {k : Int} (h : MarkedW w a len k) (hb : Below w.heap.size w w') : MarkedW w' a len k := by
  rcases h with h | ⟨g, ha, hl, hc⟩
  · exact .inl h
  · exact .inr ⟨g, ha, Nat.lt_of_lt_of_le hl hb.size, fun i hi => (hb.cell (p := ⟨g, i, none⟩) hl).trans (hc i hi)⟩
theorem markW_zero (a : Option Addr) (cap : Nat) (k : Int) (w : World) : Calls Tryz.prog 89 #[.slice a 0 cap, .int .i64 k] w fun e w' => e = .returned (.int .i64 k) ∧ w' = w := by
  go_enter Tryz.func89, Tryz.ntmps89
  go_wp2
  refine wp_loop_rounds 1 ?_
  rw [rounds_succ]
  go_wp2
  go_ret
  exact ⟨rfl, rfl⟩
theorem heldW_any (a : Option Addr) (len cap : Nat) (k : Int) (w : World) (h : MarkedW w a len k) (hk : 0 ≤ k) (hk2 : k ≤ 4194304) (hlen : len ≤ 1048576) :
    Calls Tryz.prog 90 #[.slice a len cap, .int .i64 k] w fun e w' => e = .returned (.int .i64 (k + len)) ∧ w' = w := by
  rcases h with rfl | ⟨g, rfl, hl, hc⟩
  · go_enter Tryz.func90, Tryz.ntmps90
    go_wp2
    refine wp_loop_rounds 1 ?_
    rw [rounds_succ]
    go_wp2
    go_ret
    exact ⟨by simp, rfl⟩
  · go_enter Tryz.func90, Tryz.ntmps90
    go_wp2
    go_loop [1, 5] (fun q i => ∃ j : Nat, j ≤ len ∧ i = .int .i64 j ∧ q = .int .i64 (k + j)) (fun _ i => len - (intOf i).toNat)
    case atStart => exact ⟨0, Nat.zero_le _, rfl, by simp⟩
    case round =>
      obtain ⟨j, hj, rfl, rfl⟩ := hrel
      by_cases hlt : j < len
      · have hx := hc j hlt
        have hw : IntKind.u8.wrap (k + (j : Int)) = (k + (j : Int)) % 256 := by rw [IntKind.wrap_u8]
        clear hc
        go_wp2
        go_round
        case rel => exact ⟨j + 1, by omega, by go_num, by go_num⟩
        case measure => simp [intOf]; omega
      · obtain rfl : j = len := by omega
        go_wp2
        go_ret
        exact ⟨rfl, rfl⟩

/-- All blocks that are not told are as they were. -/
structure Only (S : Nat → Prop) (w w' : World) : Prop where
  os : w'.os = w.os
  tape : w'.tape = w.tape
  output : w'.output = w.output
  size : w'.heap.size = w.heap.size
  block : ∀ b, ¬ S b → w'.heap[b]? = w.heap[b]?
theorem Only.refl (S : Nat → Prop) (w : World) : Only S w w := ⟨rfl, rfl, rfl, rfl, fun _ _ => rfl⟩
theorem Only.but {S : Nat → Prop} {g : Nat} {w w1 w2 : World} (h : Only S w w1) (k : But g w1 w2) (hg : S g) : Only S w w2 :=
  ⟨k.os.trans h.os, k.tape.trans h.tape, k.output.trans h.output, k.size.trans h.size, fun b hb => (k.block b (fun e => hb (e ▸ hg))).trans (h.block b hb)⟩
theorem Only.set {S : Nat → Prop} {g i : Nat} {w w1 : World} {v : Value} (h : Only S w w1) (hg : S g) : Only S w (w1.setCell ⟨g, i, none⟩ v) := h.but ((But.refl g w1).set i v) hg
theorem Only.trans {S : Nat → Prop} {w w1 w2 : World} (h : Only S w w1) (k : Only S w1 w2) : Only S w w2 :=
  ⟨k.os.trans h.os, k.tape.trans h.tape, k.output.trans h.output, k.size.trans h.size, fun b hb => (k.block b hb).trans (h.block b hb)⟩
theorem Only.imp {S S' : Nat → Prop} {w w1 : World} (h : Only S w w1) (k : ∀ b, S b → S' b) : Only S' w w1 := ⟨h.os, h.tape, h.output, h.size, fun b hb => h.block b (fun e => hb (k b e))⟩
theorem Only.below {S : Nat → Prop} {B : Nat} {w w' : World} (h : Only S w w') (hS : ∀ b, S b → B ≤ b) : Below B w w' :=
  ⟨h.os, h.tape, h.output, by rw [h.size]; exact Nat.le_refl _, fun b hb => h.block b (fun e => by have := hS b e; omega)⟩
theorem Only.cell {S : Nat → Prop} {w w' : World} (h : Only S w w') {p : Addr} (hp : ¬ S p.block) : w'.cell? p = w.cell? p := World.cell?_of_block (w := w) (h.block p.block hp)
theorem Only.frozen {S : Nat → Prop} {w w' : World} (h : Only S w w') {p : Addr} (hp : ¬ S p.block) : w'.frozen? p = w.frozen? p := World.frozen?_of_block (w := w) (h.block p.block hp)

/-- A text that may be marked. -/
def TxW (w : World) (a : Option Addr) (len : Nat) : Prop := len ≤ 1048576 ∧ (len = 0 ∨ ∃ g, a = some ⟨g, 0, none⟩ ∧ g < w.heap.size ∧ ∀ i, i < len → U8 w g i ∧ w.frozen? ⟨g, i, none⟩ = false)
/-- A list does not lie in that block. -/
def NoB (a : Option Addr) (len b : Nat) : Prop := len = 0 ∨ ∀ p, a = some p → p.block ≠ b
/-- All is as it was but that list. -/
def ButT (a : Option Addr) (len : Nat) (w w' : World) : Prop := (len = 0 ∧ w' = w) ∨ ∃ g, 0 < len ∧ a = some ⟨g, 0, none⟩ ∧ But g w w'
theorem NoB.ne {g len b : Nat} (h : NoB (some ⟨g, 0, none⟩) len b) (hl : 0 < len) : g ≠ b := by
  rcases h with h | h
  · omega
  · exact h _ rfl

theorem TxW.but {w w' : World} {a : Option Addr} {len c : Nat} (h : TxW w a len) (hb : But c w w') (hc : NoB a len c) : TxW w' a len := by
  refine ⟨h.1, ?_⟩
  rcases h.2 with h0 | ⟨g, rfl, hl, hx⟩
  · exact .inl h0
  · by_cases h0 : len = 0
    · exact .inl h0
    · have hne : g ≠ c := hc.ne (by omega)
      refine .inr ⟨g, rfl, by rw [hb.size]; exact hl, fun i hi => ?_⟩
      unfold U8
      rw [hb.cell (p := ⟨g, i, none⟩) hne, hb.frozen (p := ⟨g, i, none⟩) hne]
      exact hx i hi
theorem TxW.set {w : World} {a : Option Addr} {len g i : Nat} {v : Value} (h : TxW w a len) (hc : NoB a len g) : TxW (w.setCell ⟨g, i, none⟩ v) a len := h.but ((But.refl g w).set i v) hc
theorem MarkedW.but {w w' : World} {a : Option Addr} {len c : Nat} {k : Int} (h : MarkedW w a len k) (hb : But c w w') (hc : NoB a len c) : MarkedW w' a len k := by
  rcases h with h0 | ⟨g, rfl, hl, hx⟩
  · exact .inl h0
  · by_cases h0 : len = 0
    · exact .inl h0
    · have hne : g ≠ c := hc.ne (by omega)
      exact .inr ⟨g, rfl, by rw [hb.size]; exact hl, fun i hi => (hb.cell (p := ⟨g, i, none⟩) hne).trans (hx i hi)⟩

theorem markText_any (a : Option Addr) (len cap : Nat) (k : Int) (w : World) (h : TxW w a len) (hk : 0 ≤ k) (hk2 : k ≤ 4194304) :
    Calls Tryz.prog 89 #[.slice a len cap, .int .i64 k] w fun e w' => e = .returned (.int .i64 (k + len)) ∧ MarkedW w' a len k ∧ TxW w' a len ∧ ButT a len w w' := by
  obtain ⟨hl, h⟩ := h
  by_cases h0 : len = 0
  · subst h0
    refine (markW_zero a cap k w).mono ?_
    rintro e w' ⟨rfl, rfl⟩
    exact ⟨by simp, .inl rfl, ⟨by omega, .inl rfl⟩, .inl ⟨rfl, rfl⟩⟩
  · rcases h with h | ⟨g, rfl, hg, hx⟩
    · exact absurd h h0
    · refine (markByteS_own g len cap k w hk hk2 hl (fun i hi => (hx i hi).1) (fun i hi => (hx i hi).2)).mono ?_
      rintro e w' ⟨rfl, hb, hc, hf⟩
      have hg' : g < w'.heap.size := by rw [hb.size]; exact hg
      exact ⟨rfl, .inr ⟨g, rfl, hg', hc⟩, ⟨hl, .inr ⟨g, rfl, hg', fun i hi => ⟨⟨_, hc i hi⟩, hf i hi⟩⟩⟩, .inr ⟨g, by omega, rfl, hb⟩⟩

/-- A row of terms that may be marked. -/
structure MT (w : World) (g n : Nat) (X : Nat → Option Addr) (L Cp : Nat → Nat) : Prop where
  ex : Ex w g (n * 4)
  wr : Wr w g (n * 4)
  sl : ∀ i, i < n → w.cell? ⟨g, i * 4 + 1, none⟩ = some (.slice (X i) (L i) (Cp i))
  tx : ∀ i, i < n → TxW w (X i) (L i)
  off : ∀ i, i < n → NoB (X i) (L i) g
  dis : ∀ i j, i < n → j < n → i ≠ j → ∀ p, X j = some p → 0 < L j → NoB (X i) (L i) p.block
theorem MT.set {w : World} {g n i : Nat} {X : Nat → Option Addr} {L Cp : Nat → Nat} (h : MT w g n X L Cp) (v : Value) (hi : i % 4 ≠ 1) : MT (w.setCell ⟨g, i, none⟩ v) g n X L Cp := by
  refine ⟨h.ex.set, fun j hj => by rw [World.frozen?_setCell]; exact h.wr j hj, fun j hj => ?_, fun j hj => (h.tx j hj).set (h.off j hj), h.off, h.dis⟩
  rw [cell_set_other (by omega)]
  exact h.sl j hj
theorem MT.mark {w w' : World} {g n j : Nat} {X : Nat → Option Addr} {L Cp : Nat → Nat} (h : MT w g n X L Cp) (hj : j < n) (hb : ButT (X j) (L j) w w') (ht : TxW w' (X j) (L j)) : MT w' g n X L Cp := by
  rcases hb with ⟨_, rfl⟩ | ⟨c, hl, hX, hb⟩
  · exact h
  · have hoj := h.off j hj
    rw [hX] at hoj
    have hg : g ≠ c := fun e => hoj.ne hl e.symm
    have e : ∀ i, w'.cell? ⟨g, i, none⟩ = w.cell? ⟨g, i, none⟩ := fun i => hb.cell (p := ⟨g, i, none⟩) hg
    refine ⟨fun i hi => by rw [e]; exact h.ex i hi, fun i hi => by rw [hb.frozen (p := ⟨g, i, none⟩) hg]; exact h.wr i hi, fun i hi => by rw [e]; exact h.sl i hi, fun i hi => ?_, h.off, h.dis⟩
    by_cases ij : i = j
    · subst ij
      exact ht
    · exact (h.tx i hi).but hb (h.dis i j hi hj ij _ hX hl)

/-- Where the marks of term i begin. -/
def posT (L : Nat → Nat) (k : Int) : Nat → Int
  | 0 => k
  | i + 1 => posT L k i + L i + 3
theorem posT_le (L : Nat → Nat) (k : Int) (i : Nat) : k ≤ posT L k i := by
  induction i with
  | zero => exact Int.le_refl _
  | succ i ih => simp only [posT]; omega

/-- Term i is marked from q on. -/
structure MdT (w : World) (g : Nat) (X : Nat → Option Addr) (L Cp : Nat → Nat) (q : Int) (i : Nat) : Prop where
  c0 : w.cell? ⟨g, i * 4, none⟩ = some (.int .i64 q)
  c1 : w.cell? ⟨g, i * 4 + 1, none⟩ = some (.slice (X i) (L i) (Cp i))
  t : MarkedW w (X i) (L i) (q + 1)
  c2 : w.cell? ⟨g, i * 4 + 2, none⟩ = some (.int .i64 (q + 1 + L i))
  c3 : w.cell? ⟨g, i * 4 + 3, none⟩ = some (.int .i64 (q + 1 + L i + 1))
theorem MdT.but {w w' : World} {g c : Nat} {X : Nat → Option Addr} {L Cp : Nat → Nat} {q : Int} {i : Nat} (h : MdT w g X L Cp q i) (hb : But c w w') (hg : g ≠ c) (hc : NoB (X i) (L i) c) : MdT w' g X L Cp q i := by
  have e : ∀ i, w'.cell? ⟨g, i, none⟩ = w.cell? ⟨g, i, none⟩ := fun i => hb.cell (p := ⟨g, i, none⟩) hg
  exact ⟨(e _).trans h.c0, (e _).trans h.c1, h.t.but hb hc, (e _).trans h.c2, (e _).trans h.c3⟩
theorem MdT.set {w : World} {g o : Nat} {X : Nat → Option Addr} {L Cp : Nat → Nat} {q : Int} {i : Nat} {v : Value} (h : MdT w g X L Cp q i) (ho : i * 4 + 4 ≤ o) (hc : NoB (X i) (L i) g) : MdT (w.setCell ⟨g, o, none⟩ v) g X L Cp q i := by
  refine ⟨?_, ?_, h.t.but ((But.refl g w).set o v) hc, ?_, ?_⟩
  · rw [cell_set_other (by omega)]; exact h.c0
  · rw [cell_set_other (by omega)]; exact h.c1
  · rw [cell_set_other (by omega)]; exact h.c2
  · rw [cell_set_other (by omega)]; exact h.c3
theorem MdT.mark {w w' : World} {g n i j : Nat} {X : Nat → Option Addr} {L Cp : Nat → Nat} {q : Int} (h : MdT w g X L Cp q i) (hM : MT w g n X L Cp) (hi : i < n) (hj : j < n) (ij : i ≠ j) (hb : ButT (X j) (L j) w w') : MdT w' g X L Cp q i := by
  rcases hb with ⟨_, rfl⟩ | ⟨c, hl, hX, hb⟩
  · exact h
  · have hoj := hM.off j hj
    rw [hX] at hoj
    exact h.but hb (fun e => hoj.ne hl e.symm) (hM.dis i j hi hj ij _ hX hl)
theorem MdT.below {w w' : World} {g : Nat} {X : Nat → Option Addr} {L Cp : Nat → Nat} {q : Int} {i : Nat} (h : MdT w g X L Cp q i) (hg : g < w.heap.size) (hb : Below w.heap.size w w') : MdT w' g X L Cp q i := by
  have e : ∀ i, w'.cell? ⟨g, i, none⟩ = w.cell? ⟨g, i, none⟩ := fun i => hb.cell (p := ⟨g, i, none⟩) hg
  exact ⟨(e _).trans h.c0, (e _).trans h.c1, h.t.below hb, (e _).trans h.c2, (e _).trans h.c3⟩

/-- The blocks of a row of terms and of their texts. -/
def InT (g n : Nat) (X : Nat → Option Addr) (L : Nat → Nat) (b : Nat) : Prop := b = g ∨ ∃ i, i < n ∧ 0 < L i ∧ ∃ p, X i = some p ∧ p.block = b
theorem Only.mark {S : Nat → Prop} {w w1 w2 : World} {a : Option Addr} {len : Nat} (h : Only S w w1) (hb : ButT a len w1 w2) (hS : 0 < len → ∀ p, a = some p → S p.block) : Only S w w2 := by
  rcases hb with ⟨_, rfl⟩ | ⟨c, hl, hX, hb⟩
  · exact h
  · exact h.but hb (hS hl _ hX)

set_option maxHeartbeats 2000000 in
theorem markTermS_any (g n cap : Nat) (X : Nat → Option Addr) (L Cp : Nat → Nat) (k : Int) (w : World) (hn : n ≤ 1048576) (hk : 0 ≤ k) (hp : ∀ i, i ≤ n → posT L k i ≤ 4194000) (hM : MT w g n X L Cp) :
    Calls Tryz.prog 46 #[.slice (some ⟨g, 0, none⟩) n cap, .int .i64 k] w fun e w' => e = .returned (.int .i64 (posT L k n)) ∧ (∀ i, i < n → MdT w' g X L Cp (posT L k i) i) ∧ Only (InT g n X L) w w' := by
  have HM0 : Hid (MT w g n X L Cp) := hM
  have HP : Hid (∀ i, i ≤ n → posT L k i ≤ 4194000) := hp
  clear hM hp
  go_enter Tryz.func46, Tryz.ntmps46
  go_wp2_with fail
  go_loopw [1, 5] (fun a b wr => ∃ (j : Nat) (m : Int), j ≤ n ∧ b = .int .i64 j ∧ a = .int .i64 m ∧ Hid (m = posT L k j) ∧ Hid (MT wr g n X L Cp) ∧ Hid (∀ i, i < j → MdT wr g X L Cp (posT L k i) i) ∧ Hid (Only (InT g n X L) w wr))
    (fun _ b _ => n - (intOf b).toNat)
  case atStart => exact ⟨0, k, Nat.zero_le _, rfl, rfl, rfl, HM0, fun i hi => absurd hi (Nat.not_lt_zero _), Only.refl _ _⟩
  case round =>
    obtain ⟨j, m, hj, rfl, rfl, HQ, HM, HD, HO⟩ := hrel
    clear HM0
    have hm0 : 0 ≤ m := by have := posT_le L k j; rw [HQ.out]; omega
    have hm1 : m ≤ 4194000 := by rw [HQ.out]; exact HP.out j hj
    by_cases hlt : j < n
    · have hlen := (HM.out.tx j hlt).1
      obtain ⟨v0, e0⟩ := HM.out.ex (j * 4) (by omega)
      have f0 := HM.out.wr (j * 4) (by omega)
      have e1 := HM.out.sl j hlt
      have HM1 : Hid (MT (wr.setCell ⟨g, j * 4, none⟩ (.int .i64 m)) g n X L Cp) := HM.out.set _ (by omega)
      have HC1 : Hid ((wr.setCell ⟨g, j * 4, none⟩ (.int .i64 m)).cell? ⟨g, j * 4, none⟩ = some (.int .i64 m)) := set_same e0
      have HD1 : Hid (∀ i, i < j → MdT (wr.setCell ⟨g, j * 4, none⟩ (.int .i64 m)) g X L Cp (posT L k i) i) := fun i hi => (HD.out i hi).set (by omega) (HM.out.off i (by omega))
      have HO1 : Hid (Only (InT g n X L) w (wr.setCell ⟨g, j * 4, none⟩ (.int .i64 m))) := HO.out.set (.inl rfl)
      go_wp2_with fail
      refine (markText_any (X j) (L j) (Cp j) (m + 1) _ (HM1.out.tx j hlt) (by omega) (by omega)).mono ?_
      rintro e w2 ⟨rfl, hmk, htx, hbt⟩
      have HM2 : Hid (MT w2 g n X L Cp) := HM1.out.mark hlt hbt htx
      have HD2 : Hid (∀ i, i < j → MdT w2 g X L Cp (posT L k i) i) := fun i hi => (HD1.out i hi).mark HM1.out (by omega) hlt (by omega) hbt
      have HO2 : Hid (Only (InT g n X L) w w2) := HO1.out.mark hbt (fun hl p hX => .inr ⟨j, hlt, hl, p, hX, rfl⟩)
      have HK2 : Hid (MarkedW w2 (X j) (L j) (m + 1)) := hmk
      have HC2 : Hid (w2.cell? ⟨g, j * 4, none⟩ = some (.int .i64 m)) := by
        rcases hbt with ⟨_, rfl⟩ | ⟨c, hl, hX, hb⟩
        · exact HC1.out
        · have hoj := HM1.out.off j hlt
          rw [hX] at hoj
          exact (hb.cell (p := ⟨g, j * 4, none⟩) (fun e => hoj.ne hl e.symm)).trans HC1.out
      clear e0 f0 e1 HM1 HC1 HD1 HO1 hmk htx hbt HM HD HO
      obtain ⟨v2, e2⟩ := HM2.out.ex (j * 4 + 2) (by omega)
      obtain ⟨v3, e3⟩ := HM2.out.ex (j * 4 + 3) (by omega)
      have f2 := HM2.out.wr (j * 4 + 2) (by omega)
      have f3 := HM2.out.wr (j * 4 + 3) (by omega)
      go_wp2_with fail
      go_roundw
      case rel =>
        have ho := HM2.out.off j hlt
        refine ⟨j + 1, _, by omega, by go_num, rfl, ?_, (HM2.out.set _ (by omega)).set _ (by omega), fun i hi => ?_, (HO2.out.set (.inl rfl)).set (.inl rfl)⟩
        · have := HQ.out
          show _ = posT L k j + L j + 3
          omega
        · by_cases ij : i = j
          · subst ij
            rw [← HQ.out]
            refine ⟨?_, ?_, (HK2.out.but ((But.refl g _).set _ _) ho).but ((But.refl g _).set _ _) ho, ?_, ?_⟩
            · rw [cell_set_other (by omega), cell_set_other (by omega)]; exact HC2.out
            · rw [cell_set_other (by omega), cell_set_other (by omega)]; exact HM2.out.sl i hlt
            · rw [cell_set_other (by omega)]; exact set_same e2
            · exact set_same (u := v3) (by rw [cell_set_other (by omega)]; exact e3)
          · exact ((HD2.out i (by omega)).set (by omega) (HM2.out.off i (by omega))).set (by omega) (HM2.out.off i (by omega))
      case measure => simp [intOf]; omega
    · obtain rfl : j = n := by omega
      go_wp2_with fail
      go_ret
      exact ⟨by rw [HQ.out]; rfl, HD.out, HO.out⟩

set_option maxHeartbeats 2000000 in
theorem heldTermS_any (g n cap : Nat) (X : Nat → Option Addr) (L Cp : Nat → Nat) (k : Int) (w : World) (hn : n ≤ 1048576) (hk : 0 ≤ k) (hp : ∀ i, i ≤ n → posT L k i ≤ 4194000) (hl : ∀ i, i < n → L i ≤ 1048576) (hM : ∀ i, i < n → MdT w g X L Cp (posT L k i) i) :
    Calls Tryz.prog 48 #[.slice (some ⟨g, 0, none⟩) n cap, .int .i64 k] w fun e w' => e = .returned (.int .i64 (posT L k n)) ∧ w' = w := by
  have HM0 : Hid (∀ i, i < n → MdT w g X L Cp (posT L k i) i) := hM
  have HP : Hid (∀ i, i ≤ n → posT L k i ≤ 4194000) := hp
  have HL : Hid (∀ i, i < n → L i ≤ 1048576) := hl
  clear hM hp hl
  go_enter Tryz.func48, Tryz.ntmps48
  go_wp2_with fail
  go_loop [1, 5] (fun a b => ∃ (j : Nat) (m : Int), j ≤ n ∧ b = .int .i64 j ∧ a = .int .i64 m ∧ Hid (m = posT L k j)) (fun _ b => n - (intOf b).toNat)
  case atStart => exact ⟨0, k, Nat.zero_le _, rfl, rfl, rfl⟩
  case round =>
    obtain ⟨j, m, hj, rfl, rfl, HQ⟩ := hrel
    have hm0 : 0 ≤ m := by have := posT_le L k j; rw [HQ.out]; omega
    have hm1 : m ≤ 4194000 := by rw [HQ.out]; exact HP.out j hj
    by_cases hlt : j < n
    · have hlen := HL.out j hlt
      have hd := HM0.out j hlt
      rw [← HQ.out] at hd
      obtain ⟨c0, c1, ht, c2, c3⟩ := hd
      go_wp2_with fail
      refine (heldW_any (X j) (L j) (Cp j) (m + 1) _ ht (by omega) (by omega) hlen).mono ?_
      rintro e w2 ⟨rfl, rfl⟩
      clear ht
      go_wp2_with fail
      go_round
      case rel =>
        refine ⟨j + 1, _, by omega, by go_num, rfl, ?_⟩
        have := HQ.out
        show _ = posT L k j + L j + 3
        omega
      case measure => simp [intOf]; omega
    · obtain rfl : j = n := by omega
      go_wp2_with fail
      go_ret
      exact ⟨by rw [HQ.out]; rfl, rfl⟩

theorem markTermS_zero (a : Option Addr) (cap : Nat) (k : Int) (w : World) : Calls Tryz.prog 46 #[.slice a 0 cap, .int .i64 k] w fun e w' => e = .returned (.int .i64 k) ∧ w' = w := by
  go_enter Tryz.func46, Tryz.ntmps46
  go_wp2
  refine wp_loop_rounds 1 ?_
  rw [rounds_succ]
  go_wp2
  go_ret
  exact ⟨rfl, rfl⟩
theorem heldTermS_zero (a : Option Addr) (cap : Nat) (k : Int) (w : World) : Calls Tryz.prog 48 #[.slice a 0 cap, .int .i64 k] w fun e w' => e = .returned (.int .i64 k) ∧ w' = w := by
  go_enter Tryz.func48, Tryz.ntmps48
  go_wp2
  refine wp_loop_rounds 1 ?_
  rw [rounds_succ]
  go_wp2
  go_ret
  exact ⟨rfl, rfl⟩
end Go.Proofs.YtdcaicoomldmgaaGreatDoor

/- DvStwB -/
namespace Go.Proofs.YtdcaicoomldmgaaGreatDoor
open Go.RowKit Go.Deep
set_option maxRecDepth 100000

/-- Rows of numbers that may be marked. -/
def RwW (w : World) (a : Option Addr) (n : Nat) : Prop := n ≤ 1048576 ∧ (n = 0 ∨ ∃ g, a = some ⟨g, 0, none⟩ ∧ g < w.heap.size ∧ Ex w g (n * 3) ∧ Wr w g (n * 3))
/-- Row i is marked from q on. -/
structure MdR1 (w : World) (g : Nat) (q : Int) (i : Nat) : Prop where
  c0 : w.cell? ⟨g, i * 3, none⟩ = some (.int .i64 q)
  c1 : w.cell? ⟨g, i * 3 + 1, none⟩ = some (.int .i64 (q + 1))
  c2 : w.cell? ⟨g, i * 3 + 2, none⟩ = some (.int .i64 (q + 1 + 1))
def MdR (w : World) (a : Option Addr) (n : Nat) (k : Int) : Prop := n = 0 ∨ ∃ g, a = some ⟨g, 0, none⟩ ∧ g < w.heap.size ∧ ∀ i : Nat, i < n → MdR1 w g (k + 3 * (i : Int)) i
theorem RwW.but {w w' : World} {a : Option Addr} {n c : Nat} (h : RwW w a n) (hb : But c w w') (hc : NoB a n c) : RwW w' a n := by
  refine ⟨h.1, ?_⟩
  rcases h.2 with h0 | ⟨g, rfl, hl, hx, hw⟩
  · exact .inl h0
  · by_cases h0 : n = 0
    · exact .inl h0
    · have hne : g ≠ c := hc.ne (by omega)
      exact .inr ⟨g, rfl, by rw [hb.size]; exact hl, fun i hi => by rw [hb.cell (p := ⟨g, i, none⟩) hne]; exact hx i hi, fun i hi => by rw [hb.frozen (p := ⟨g, i, none⟩) hne]; exact hw i hi⟩
theorem MdR1.set {w : World} {g o : Nat} {q : Int} {i : Nat} {v : Value} (h : MdR1 w g q i) (ho : i * 3 + 3 ≤ o) : MdR1 (w.setCell ⟨g, o, none⟩ v) g q i := by
  refine ⟨?_, ?_, ?_⟩
  · rw [cell_set_other (by omega)]; exact h.c0
  · rw [cell_set_other (by omega)]; exact h.c1
  · rw [cell_set_other (by omega)]; exact h.c2
theorem MdR1.of {w w' : World} {g : Nat} {q : Int} {i : Nat} (h : MdR1 w g q i) (e : ∀ i, w'.cell? ⟨g, i, none⟩ = w.cell? ⟨g, i, none⟩) : MdR1 w' g q i := ⟨(e _).trans h.c0, (e _).trans h.c1, (e _).trans h.c2⟩
theorem MdR.but {w w' : World} {a : Option Addr} {n c : Nat} {k : Int} (h : MdR w a n k) (hb : But c w w') (hc : NoB a n c) : MdR w' a n k := by
  rcases h with h0 | ⟨g, rfl, hl, hx⟩
  · exact .inl h0
  · by_cases h0 : n = 0
    · exact .inl h0
    · have hne : g ≠ c := hc.ne (by omega)
      exact .inr ⟨g, rfl, by rw [hb.size]; exact hl, fun i hi => (hx i hi).of (fun i => hb.cell (p := ⟨g, i, none⟩) hne)⟩
theorem MdR.below {w w' : World} {a : Option Addr} {n : Nat} {k : Int} (h : MdR w a n k) (hb : Below w.heap.size w w') : MdR w' a n k := by
  rcases h with h0 | ⟨g, rfl, hl, hx⟩
  · exact .inl h0
  · exact .inr ⟨g, rfl, Nat.lt_of_lt_of_le hl hb.size, fun i hi => (hx i hi).of (fun i => hb.cell (p := ⟨g, i, none⟩) hl)⟩

theorem markRowS_zero (a : Option Addr) (cap : Nat) (k : Int) (w : World) : Calls Tryz.prog 29 #[.slice a 0 cap, .int .i64 k] w fun e w' => e = .returned (.int .i64 k) ∧ w' = w := by
  go_enter Tryz.func29, Tryz.ntmps29
  go_wp2
  refine wp_loop_rounds 1 ?_
  rw [rounds_succ]
  go_wp2
  go_ret
  exact ⟨rfl, rfl⟩
theorem heldRowS_zero (a : Option Addr) (cap : Nat) (k : Int) (w : World) : Calls Tryz.prog 30 #[.slice a 0 cap, .int .i64 k] w fun e w' => e = .returned (.int .i64 k) ∧ w' = w := by
  go_enter Tryz.func30, Tryz.ntmps30
  go_wp2
  refine wp_loop_rounds 1 ?_
  rw [rounds_succ]
  go_wp2
  go_ret
  exact ⟨rfl, rfl⟩

set_option maxHeartbeats 1000000 in
theorem markRowS_any (a : Option Addr) (n cap : Nat) (k : Int) (w : World) (h : RwW w a n) (hk : 0 ≤ k) (hk2 : k ≤ 4194304) :
    Calls Tryz.prog 29 #[.slice a n cap, .int .i64 k] w fun e w' => e = .returned (.int .i64 (k + 3 * (n : Int))) ∧ MdR w' a n k ∧ RwW w' a n ∧ ButT a n w w' := by
  obtain ⟨hl, h⟩ := h
  by_cases h0 : n = 0
  · subst h0
    refine (markRowS_zero a cap k w).mono ?_
    rintro e w' ⟨rfl, rfl⟩
    exact ⟨by simp, .inl rfl, ⟨by omega, .inl rfl⟩, .inl ⟨rfl, rfl⟩⟩
  rcases h with h | ⟨g, rfl, hg, hx, hw⟩
  · exact absurd h h0
  have HX : Hid (Ex w g (n * 3)) := hx
  have HW : Hid (Wr w g (n * 3)) := hw
  clear hx hw
  go_enter Tryz.func29, Tryz.ntmps29
  go_wp2_with fail
  go_loopw [1, 5] (fun a b wr => ∃ j : Nat, j ≤ n ∧ b = .int .i64 j ∧ a = .int .i64 (k + 3 * j) ∧ Hid (Ex wr g (n * 3)) ∧ Hid (Wr wr g (n * 3)) ∧ Hid (∀ i : Nat, i < j → MdR1 wr g (k + 3 * (i : Int)) i) ∧ Hid (But g w wr))
    (fun _ b _ => n - (intOf b).toNat)
  case atStart => exact ⟨0, Nat.zero_le _, rfl, by simp, HX, HW, fun i hi => absurd hi (Nat.not_lt_zero _), But.refl _ _⟩
  case round =>
    obtain ⟨j, hj, rfl, rfl, HE, HF, HD, HB⟩ := hrel
    clear HX HW
    by_cases hlt : j < n
    · obtain ⟨v0, e0⟩ := HE.out (j * 3) (by omega)
      obtain ⟨v1, e1⟩ := HE.out (j * 3 + 1) (by omega)
      obtain ⟨v2, e2⟩ := HE.out (j * 3 + 2) (by omega)
      have f0 := HF.out (j * 3) (by omega)
      have f1 := HF.out (j * 3 + 1) (by omega)
      have f2 := HF.out (j * 3 + 2) (by omega)
      go_wp2_with fail
      go_roundw
      case rel =>
        refine ⟨j + 1, by omega, by go_num, by go_num, ((HE.out.set).set).set, fun i hi => by rw [World.frozen?_setCell, World.frozen?_setCell, World.frozen?_setCell]; exact HF.out i hi, fun i hi => ?_, ((HB.out.set _ _).set _ _).set _ _⟩
        by_cases ij : i = j
        · subst ij
          refine ⟨?_, ?_, ?_⟩
          · rw [cell_set_other (by omega), cell_set_other (by omega)]; exact set_same e0
          · rw [cell_set_other (by omega)]; exact set_same (u := v1) (by rw [cell_set_other (by omega)]; exact e1)
          · exact set_same (u := v2) (by rw [cell_set_other (by omega), cell_set_other (by omega)]; exact e2)
        · exact (((HD.out i (by omega)).set (by omega)).set (by omega)).set (by omega)
      case measure => simp [intOf]; omega
    · obtain rfl : j = n := by omega
      go_wp2_with fail
      go_ret
      have hg' : g < wr.heap.size := by rw [HB.out.size]; exact hg
      exact ⟨rfl, .inr ⟨g, rfl, hg', HD.out⟩, ⟨hl, .inr ⟨g, rfl, hg', HE.out, HF.out⟩⟩, .inr ⟨g, by omega, rfl, HB.out⟩⟩

set_option maxHeartbeats 1000000 in
theorem heldRowS_any (a : Option Addr) (n cap : Nat) (k : Int) (w : World) (h : MdR w a n k) (hl : n ≤ 1048576) (hk : 0 ≤ k) (hk2 : k ≤ 4194304) :
    Calls Tryz.prog 30 #[.slice a n cap, .int .i64 k] w fun e w' => e = .returned (.int .i64 (k + 3 * (n : Int))) ∧ w' = w := by
  by_cases h0 : n = 0
  · subst h0
    refine (heldRowS_zero a cap k w).mono ?_
    rintro e w' ⟨rfl, rfl⟩
    exact ⟨by simp, rfl⟩
  rcases h with h | ⟨g, rfl, hg, hx⟩
  · exact absurd h h0
  have HX : Hid (∀ i : Nat, i < n → MdR1 w g (k + 3 * (i : Int)) i) := hx
  clear hx
  go_enter Tryz.func30, Tryz.ntmps30
  go_wp2_with fail
  go_loop [1, 5] (fun a b => ∃ j : Nat, j ≤ n ∧ b = .int .i64 j ∧ a = .int .i64 (k + 3 * j)) (fun _ b => n - (intOf b).toNat)
  case atStart => exact ⟨0, Nat.zero_le _, rfl, by simp⟩
  case round =>
    obtain ⟨j, hj, rfl, rfl⟩ := hrel
    by_cases hlt : j < n
    · obtain ⟨c0, c1, c2⟩ := HX.out j hlt
      go_wp2_with fail
      go_round
      case rel => exact ⟨j + 1, by omega, by go_num, by go_num⟩
      case measure => simp [intOf]; omega
    · obtain rfl : j = n := by omega
      go_wp2_with fail
      go_ret
      exact ⟨rfl, rfl⟩

/-- A row of rows that may be marked. -/
structure MS (w : World) (g n : Nat) (X : Nat → Option Addr) (L Cp : Nat → Nat) : Prop where
  sl : ∀ i, i < n → w.cell? ⟨g, i, none⟩ = some (.slice (X i) (L i) (Cp i))
  rw : ∀ i, i < n → RwW w (X i) (L i)
  off : ∀ i, i < n → NoB (X i) (L i) g
  dis : ∀ i j, i < n → j < n → i ≠ j → ∀ p, X j = some p → 0 < L j → NoB (X i) (L i) p.block
theorem MS.mark {w w' : World} {g n j : Nat} {X : Nat → Option Addr} {L Cp : Nat → Nat} (h : MS w g n X L Cp) (hj : j < n) (hb : ButT (X j) (L j) w w') (ht : RwW w' (X j) (L j)) : MS w' g n X L Cp := by
  rcases hb with ⟨_, rfl⟩ | ⟨c, hl, hX, hb⟩
  · exact h
  · have hoj := h.off j hj
    rw [hX] at hoj
    have hg : g ≠ c := fun e => hoj.ne hl e.symm
    refine ⟨fun i hi => by rw [hb.cell (p := ⟨g, i, none⟩) hg]; exact h.sl i hi, fun i hi => ?_, h.off, h.dis⟩
    by_cases ij : i = j
    · subst ij
      exact ht
    · exact (h.rw i hi).but hb (h.dis i j hi hj ij _ hX hl)
theorem MdR.mark {w w' : World} {g n i j : Nat} {X : Nat → Option Addr} {L Cp : Nat → Nat} {q : Int} (h : MdR w (X i) (L i) q) (hM : MS w g n X L Cp) (hi : i < n) (hj : j < n) (ij : i ≠ j) (hb : ButT (X j) (L j) w w') : MdR w' (X i) (L i) q := by
  rcases hb with ⟨_, rfl⟩ | ⟨c, hl, hX, hb⟩
  · exact h
  · exact h.but hb (hM.dis i j hi hj ij _ hX hl)

/-- Where the marks of list i begin. -/
def posR (L : Nat → Nat) (k : Int) : Nat → Int
  | 0 => k
  | i + 1 => posR L k i + 3 * (L i : Int)
theorem posR_le (L : Nat → Nat) (k : Int) (i : Nat) : k ≤ posR L k i := by
  induction i with
  | zero => exact Int.le_refl _
  | succ i ih => simp only [posR]; omega
/-- The blocks of the lists. -/
def InR (n : Nat) (X : Nat → Option Addr) (L : Nat → Nat) (b : Nat) : Prop := ∃ i, i < n ∧ 0 < L i ∧ ∃ p, X i = some p ∧ p.block = b

set_option maxHeartbeats 2000000 in
theorem markRowSS_any (g n cap : Nat) (X : Nat → Option Addr) (L Cp : Nat → Nat) (k : Int) (w : World) (hn : n ≤ 1048576) (hk : 0 ≤ k) (hp : ∀ i, i ≤ n → posR L k i ≤ 4194000) (hM : MS w g n X L Cp) :
    Calls Tryz.prog 47 #[.slice (some ⟨g, 0, none⟩) n cap, .int .i64 k] w fun e w' => e = .returned (.int .i64 (posR L k n)) ∧ (∀ i, i < n → MdR w' (X i) (L i) (posR L k i)) ∧ MS w' g n X L Cp ∧ Only (InR n X L) w w' := by
  have HM0 : Hid (MS w g n X L Cp) := hM
  have HP : Hid (∀ i, i ≤ n → posR L k i ≤ 4194000) := hp
  clear hM hp
  go_enter Tryz.func47, Tryz.ntmps47
  go_wp2_with fail
  go_loopw [1, 5] (fun a b wr => ∃ (j : Nat) (m : Int), j ≤ n ∧ b = .int .i64 j ∧ a = .int .i64 m ∧ Hid (m = posR L k j) ∧ Hid (MS wr g n X L Cp) ∧ Hid (∀ i, i < j → MdR wr (X i) (L i) (posR L k i)) ∧ Hid (Only (InR n X L) w wr))
    (fun _ b _ => n - (intOf b).toNat)
  case atStart => exact ⟨0, k, Nat.zero_le _, rfl, rfl, rfl, HM0, fun i hi => absurd hi (Nat.not_lt_zero _), Only.refl _ _⟩
  case round =>
    obtain ⟨j, m, hj, rfl, rfl, HQ, HM, HD, HO⟩ := hrel
    clear HM0
    have hm0 : 0 ≤ m := by have := posR_le L k j; rw [HQ.out]; omega
    have hm1 : m ≤ 4194000 := by rw [HQ.out]; exact HP.out j hj
    by_cases hlt : j < n
    · have hlen := (HM.out.rw j hlt).1
      have e1 := HM.out.sl j hlt
      go_wp2_with fail
      refine (markRowS_any (X j) (L j) (Cp j) m _ (HM.out.rw j hlt) (by omega) (by omega)).mono ?_
      rintro e w2 ⟨rfl, hmk, htx, hbt⟩
      have HM2 : Hid (MS w2 g n X L Cp) := HM.out.mark hlt hbt htx
      have HD2 : Hid (∀ i, i < j + 1 → MdR w2 (X i) (L i) (posR L k i)) := fun i hi => by
        by_cases ij : i = j
        · subst ij
          rw [← HQ.out]
          exact hmk
        · exact (HD.out i (by omega)).mark HM.out (by omega) hlt (by omega) hbt
      have HO2 : Hid (Only (InR n X L) w w2) := HO.out.mark hbt (fun hl p hX => ⟨j, hlt, hl, p, hX, rfl⟩)
      clear e1 hmk htx hbt HM HD HO
      go_wp2_with fail
      go_roundw
      case rel =>
        refine ⟨j + 1, _, by omega, by go_num, rfl, ?_, HM2, HD2, HO2⟩
        have := HQ.out
        show _ = posR L k j + 3 * (L j : Int)
        omega
      case measure => simp [intOf]; omega
    · obtain rfl : j = n := by omega
      go_wp2_with fail
      go_ret
      exact ⟨by rw [HQ.out]; rfl, HD.out, HM.out, HO.out⟩

set_option maxHeartbeats 2000000 in
theorem heldRowSS_any (g n cap : Nat) (X : Nat → Option Addr) (L Cp : Nat → Nat) (k : Int) (w : World) (hn : n ≤ 1048576) (hk : 0 ≤ k) (hp : ∀ i, i ≤ n → posR L k i ≤ 4194000) (hl : ∀ i, i < n → L i ≤ 1048576)
    (hs : ∀ i, i < n → w.cell? ⟨g, i, none⟩ = some (.slice (X i) (L i) (Cp i))) (hM : ∀ i, i < n → MdR w (X i) (L i) (posR L k i)) :
    Calls Tryz.prog 49 #[.slice (some ⟨g, 0, none⟩) n cap, .int .i64 k] w fun e w' => e = .returned (.int .i64 (posR L k n)) ∧ w' = w := by
  have HM0 : Hid (∀ i, i < n → MdR w (X i) (L i) (posR L k i)) := hM
  have HP : Hid (∀ i, i ≤ n → posR L k i ≤ 4194000) := hp
  have HL : Hid (∀ i, i < n → L i ≤ 1048576) := hl
  have HS : Hid (∀ i, i < n → w.cell? ⟨g, i, none⟩ = some (.slice (X i) (L i) (Cp i))) := hs
  clear hM hp hl hs
  go_enter Tryz.func49, Tryz.ntmps49
  go_wp2_with fail
  go_loop [1, 5] (fun a b => ∃ (j : Nat) (m : Int), j ≤ n ∧ b = .int .i64 j ∧ a = .int .i64 m ∧ Hid (m = posR L k j)) (fun _ b => n - (intOf b).toNat)
  case atStart => exact ⟨0, k, Nat.zero_le _, rfl, rfl, rfl⟩
  case round =>
    obtain ⟨j, m, hj, rfl, rfl, HQ⟩ := hrel
    have hm0 : 0 ≤ m := by have := posR_le L k j; rw [HQ.out]; omega
    have hm1 : m ≤ 4194000 := by rw [HQ.out]; exact HP.out j hj
    by_cases hlt : j < n
    · have hlen := HL.out j hlt
      have hd := HM0.out j hlt
      rw [← HQ.out] at hd
      have c1 := HS.out j hlt
      go_wp2_with fail
      refine (heldRowS_any (X j) (L j) (Cp j) m _ hd hlen (by omega) (by omega)).mono ?_
      rintro e w2 ⟨rfl, rfl⟩
      clear hd
      go_wp2_with fail
      go_round
      case rel =>
        refine ⟨j + 1, _, by omega, by go_num, rfl, ?_⟩
        have := HQ.out
        show _ = posR L k j + 3 * (L j : Int)
        omega
      case measure => simp [intOf]; omega
    · obtain rfl : j = n := by omega
      go_wp2_with fail
      go_ret
      exact ⟨by rw [HQ.out]; rfl, rfl⟩

theorem markRowSS_zero (a : Option Addr) (cap : Nat) (k : Int) (w : World) : Calls Tryz.prog 47 #[.slice a 0 cap, .int .i64 k] w fun e w' => e = .returned (.int .i64 k) ∧ w' = w := by
  go_enter Tryz.func47, Tryz.ntmps47
  go_wp2
  refine wp_loop_rounds 1 ?_
  rw [rounds_succ]
  go_wp2
  go_ret
  exact ⟨rfl, rfl⟩
theorem heldRowSS_zero (a : Option Addr) (cap : Nat) (k : Int) (w : World) : Calls Tryz.prog 49 #[.slice a 0 cap, .int .i64 k] w fun e w' => e = .returned (.int .i64 k) ∧ w' = w := by
  go_enter Tryz.func49, Tryz.ntmps49
  go_wp2
  refine wp_loop_rounds 1 ?_
  rw [rounds_succ]
  go_wp2
  go_ret
  exact ⟨rfl, rfl⟩
end Go.Proofs.YtdcaicoomldmgaaGreatDoor
