/- Marks in a row of triples of the call's own: markTripleS, markGraph. -/
import Derived.Test.YtdcaicoomldmgaaGreatDoorMk12
namespace Go.Proofs.YtdcaicoomldmgaaGreatDoor
open Go.RowKit Go.Deep
set_option maxRecDepth 100000

/-- There lies a byte. -/
def U8 (w : World) (b j : Nat) : Prop := ∃ v, w.cell? ⟨b, j, none⟩ = some (.int .u8 v)
/-- Bytes stay bytes, and what may be written may be. -/
structure U8K (w w' : World) : Prop where
  u : ∀ b j, U8 w b j → U8 w' b j
  f : ∀ p, w'.frozen? p = w.frozen? p
theorem U8K.refl (w : World) : U8K w w := ⟨fun _ _ h => h, fun _ => rfl⟩
theorem U8K.trans {w w' w'' : World} (h : U8K w w') (k : U8K w' w'') : U8K w w'' := ⟨fun b j q => k.u b j (h.u b j q), fun p => (k.f p).trans (h.f p)⟩
theorem cell_set_other {w : World} {g i b j : Nat} {v : Value} (h : b ≠ g ∨ j ≠ i) : (w.setCell ⟨g, i, none⟩ v).cell? ⟨b, j, none⟩ = w.cell? ⟨b, j, none⟩ := by
  by_cases hb : b = g
  · subst hb
    exact set_other (h.resolve_left (fun k => k rfl))
  · exact World.cell?_of_block (Below.heap_setCell _ _ _ _ (by exact hb))

/-- markByteS on a text of the call's own, wherever the marks have come to. -/
theorem markByteS_keep (g len cap : Nat) (k : Int) (w : World) (hk : 0 ≤ k) (hk2 : k ≤ 1152921504606846976) (hlen : len ≤ 1048576)
    (hc : ∀ i, i < len → U8 w g i) (hf : ∀ i, i < len → w.frozen? ⟨g, i, none⟩ = false) :
    Calls Tryz.prog 89 #[.slice (some ⟨g, 0, none⟩) len cap, .int .i64 k] w fun e w' => e = .returned (.int .i64 (k + len)) ∧ But g w w' ∧ U8K w w' := by
  have HC0 : Hid (∀ i, i < len → U8 w g i) := hc
  have HF0 : Hid (∀ i, i < len → w.frozen? ⟨g, i, none⟩ = false) := hf
  clear hc hf
  go_enter Tryz.func89, Tryz.ntmps89
  go_wp2_with fail
  go_loopw [1, 5] (fun a b wr => ∃ j : Nat, j ≤ len ∧ a = .int .i64 (k + j) ∧ b = .int .i64 j ∧ Hid (But g w wr) ∧ Hid (U8K w wr))
    (fun _ b _ => len - (intOf b).toNat)
  case atStart => exact ⟨0, Nat.zero_le _, by simp, rfl, But.refl _ _, U8K.refl _⟩
  case round =>
    obtain ⟨j, hj, rfl, rfl, HB, HU⟩ := hrel
    by_cases hlt : j < len
    · obtain ⟨v, hv⟩ := HU.out.u g j (HC0.out j hlt)
      have hfv := (HU.out.f ⟨g, j, none⟩).trans (HF0.out j hlt)
      go_wp2
      go_roundw
      case rel =>
        refine ⟨j + 1, by omega, by go_num, by go_num, HB.out.set _ _, HU.out.trans ⟨fun b i hu => ?_, fun p => by rw [World.frozen?_setCell]⟩⟩
        by_cases e : b = g ∧ i = j
        · obtain ⟨rfl, rfl⟩ := e
          exact ⟨_, set_same hv⟩
        · obtain ⟨u, hu⟩ := hu
          refine ⟨u, ?_⟩
          rw [cell_set_other (by omega)]
          exact hu
      case measure => simp [intOf]; omega
    · obtain rfl : j = len := by omega
      go_wp2
      go_ret
      exact ⟨rfl, HB.out, HU.out⟩

/-- What lies below B or from C on is as it was. -/
structure Mid (B C : Nat) (w w' : World) : Prop where
  os : w'.os = w.os
  tape : w'.tape = w.tape
  output : w'.output = w.output
  size : w'.heap.size = w.heap.size
  block : ∀ b, b < B ∨ C ≤ b → w'.heap[b]? = w.heap[b]?
theorem Mid.refl (B C : Nat) (w : World) : Mid B C w w := ⟨rfl, rfl, rfl, rfl, fun _ _ => rfl⟩
theorem Mid.but {B C g : Nat} {w w1 w2 : World} (h : Mid B C w w1) (k : But g w1 w2) (hB : B ≤ g) (hC : g < C) : Mid B C w w2 :=
  ⟨k.os.trans h.os, k.tape.trans h.tape, k.output.trans h.output, k.size.trans h.size, fun b hb => (k.block b (by omega)).trans (h.block b hb)⟩
theorem Mid.below {B C : Nat} {w w' : World} (h : Mid B C w w') : Below B w w' := ⟨h.os, h.tape, h.output, by rw [h.size]; exact Nat.le_refl _, fun b hb => h.block b (.inl hb)⟩

/-- A row of triples that may be marked. -/
structure Mk (w : World) (B C g n : Nat) (A1 A2 A3 l1 l2 l3 : Nat → Nat) : Prop where
  ex : Ex w g (n * 12)
  wr : Wr w g (n * 12)
  s1 : ∀ i, i < n → w.cell? ⟨g, i * 12 + 1, none⟩ = some (.slice (some ⟨A1 i, 0, none⟩) (l1 i) (l1 i))
  s2 : ∀ i, i < n → w.cell? ⟨g, i * 12 + 5, none⟩ = some (.slice (some ⟨A2 i, 0, none⟩) (l2 i) (l2 i))
  s3 : ∀ i, i < n → w.cell? ⟨g, i * 12 + 9, none⟩ = some (.slice (some ⟨A3 i, 0, none⟩) (l3 i) (l3 i))
  t1 : ∀ i, i < n → ∀ j, j < l1 i → U8 w (A1 i) j ∧ w.frozen? ⟨A1 i, j, none⟩ = false
  t2 : ∀ i, i < n → ∀ j, j < l2 i → U8 w (A2 i) j ∧ w.frozen? ⟨A2 i, j, none⟩ = false
  t3 : ∀ i, i < n → ∀ j, j < l3 i → U8 w (A3 i) j ∧ w.frozen? ⟨A3 i, j, none⟩ = false
  b1 : ∀ i, i < n → g < A1 i ∧ A1 i < C ∧ l1 i ≤ 1048576
  b2 : ∀ i, i < n → g < A2 i ∧ A2 i < C ∧ l2 i ≤ 1048576
  b3 : ∀ i, i < n → g < A3 i ∧ A3 i < C ∧ l3 i ≤ 1048576
  bg : B ≤ g ∧ g < C
theorem Mk.set {w : World} {B C g n i : Nat} {A1 A2 A3 l1 l2 l3 : Nat → Nat} (h : Mk w B C g n A1 A2 A3 l1 l2 l3) (v : Value) (hi : i % 4 ≠ 1) : Mk (w.setCell ⟨g, i, none⟩ v) B C g n A1 A2 A3 l1 l2 l3 := by
  refine ⟨h.ex.set, fun j hj => by rw [World.frozen?_setCell]; exact h.wr j hj, fun j hj => ?_, fun j hj => ?_, fun j hj => ?_, fun j hj q hq => ?_, fun j hj q hq => ?_, fun j hj q hq => ?_, h.b1, h.b2, h.b3, h.bg⟩
  · rw [cell_set_other (by omega)]; exact h.s1 j hj
  · rw [cell_set_other (by omega)]; exact h.s2 j hj
  · rw [cell_set_other (by omega)]; exact h.s3 j hj
  · unfold U8; rw [cell_set_other (by have := h.b1 j hj; omega), World.frozen?_setCell]; exact h.t1 j hj q hq
  · unfold U8; rw [cell_set_other (by have := h.b2 j hj; omega), World.frozen?_setCell]; exact h.t2 j hj q hq
  · unfold U8; rw [cell_set_other (by have := h.b3 j hj; omega), World.frozen?_setCell]; exact h.t3 j hj q hq
theorem Mk.mark {w w' : World} {B C g n c : Nat} {A1 A2 A3 l1 l2 l3 : Nat → Nat} (h : Mk w B C g n A1 A2 A3 l1 l2 l3) (hb : But c w w') (hu : U8K w w') (hc : g < c) : Mk w' B C g n A1 A2 A3 l1 l2 l3 := by
  have hg : g ≠ c := by omega
  have e : ∀ i, w'.cell? ⟨g, i, none⟩ = w.cell? ⟨g, i, none⟩ := fun i => hb.cell (p := ⟨g, i, none⟩) hg
  refine ⟨fun j hj => by rw [e]; exact h.ex j hj, fun j hj => by rw [hu.f]; exact h.wr j hj, fun j hj => by rw [e]; exact h.s1 j hj, fun j hj => by rw [e]; exact h.s2 j hj, fun j hj => by rw [e]; exact h.s3 j hj, fun j hj q hq => ?_, fun j hj q hq => ?_, fun j hj q hq => ?_, h.b1, h.b2, h.b3, h.bg⟩
  · rw [hu.f]; exact ⟨hu.u _ _ (h.t1 j hj q hq).1, (h.t1 j hj q hq).2⟩
  · rw [hu.f]; exact ⟨hu.u _ _ (h.t2 j hj q hq).1, (h.t2 j hj q hq).2⟩
  · rw [hu.f]; exact ⟨hu.u _ _ (h.t3 j hj q hq).1, (h.t3 j hj q hq).2⟩
theorem Mid.set {B C g i : Nat} {w w1 : World} {v : Value} (h : Mid B C w w1) (hB : B ≤ g) (hC : g < C) : Mid B C w (w1.setCell ⟨g, i, none⟩ v) := h.but ((But.refl g w1).set i v) hB hC

set_option maxHeartbeats 2000000 in
theorem markTripleS_any (B C g n cap : Nat) (A1 A2 A3 l1 l2 l3 : Nat → Nat) (k : Int) (w : World) (hn : n ≤ 1048576) (hk : 0 ≤ k) (hk2 : k ≤ 4194304) (hM : Mk w B C g n A1 A2 A3 l1 l2 l3) :
    Calls Tryz.prog 45 #[.slice (some ⟨g, 0, none⟩) n cap, .int .i64 k] w fun e w' => (∃ q : Int, e = .returned (.int .i64 q) ∧ 0 ≤ q) ∧ Mid B C w w' := by
  have HM0 : Hid (Mk w B C g n A1 A2 A3 l1 l2 l3) := hM
  have hBg := hM.bg.1
  have hgC := hM.bg.2
  clear hM
  go_enter Tryz.func45, Tryz.ntmps45
  go_wp2_with fail
  go_loopw [1, 5] (fun a b wr => ∃ (j : Nat) (m : Int), j ≤ n ∧ b = .int .i64 j ∧ a = .int .i64 m ∧ 0 ≤ m ∧ m ≤ 4194304 + j * 3145737 ∧ Hid (Mk wr B C g n A1 A2 A3 l1 l2 l3) ∧ Hid (Mid B C w wr))
    (fun _ b _ => n - (intOf b).toNat)
  case atStart => exact ⟨0, k, Nat.zero_le _, rfl, rfl, hk, by omega, HM0, Mid.refl _ _ _⟩
  case round =>
    obtain ⟨j, m, hj, rfl, rfl, hm0, hm1, HM, HD⟩ := hrel
    clear HM0
    by_cases hlt : j < n
    · obtain ⟨p1, q1, r1⟩ := HM.out.b1 j hlt
      obtain ⟨p2, q2, r2⟩ := HM.out.b2 j hlt
      obtain ⟨p3, q3, r3⟩ := HM.out.b3 j hlt
      obtain ⟨v0, e0⟩ := HM.out.ex (j * 12) (by omega)
      have f0 := HM.out.wr (j * 12) (by omega)
      have e1 := HM.out.s1 j hlt
      have HM1 : Hid (Mk (wr.setCell ⟨g, j * 12, none⟩ (.int .i64 m)) B C g n A1 A2 A3 l1 l2 l3) := HM.out.set _ (by omega)
      have HD1 : Hid (Mid B C w (wr.setCell ⟨g, j * 12, none⟩ (.int .i64 m))) := HD.out.set hBg hgC
      go_wp2_with fail
      refine (markByteS_keep (A1 j) (l1 j) (l1 j) (m + 1) _ (by omega) (by omega) r1 (fun i hi => (HM1.out.t1 j hlt i hi).1) (fun i hi => (HM1.out.t1 j hlt i hi).2)).mono ?_
      rintro e w2 ⟨rfl, hb2, hu2⟩
      have HM2 : Hid (Mk w2 B C g n A1 A2 A3 l1 l2 l3) := HM1.out.mark hb2 hu2 p1
      have HD2 : Hid (Mid B C w w2) := HD1.out.but hb2 (by omega) q1
      clear e0 f0 e1 HM1 HD1 hb2 hu2 HM HD
      obtain ⟨v2, e2⟩ := HM2.out.ex (j * 12 + 2) (by omega)
      obtain ⟨v3, e3⟩ := HM2.out.ex (j * 12 + 3) (by omega)
      obtain ⟨v4, e4⟩ := HM2.out.ex (j * 12 + 4) (by omega)
      have f2 := HM2.out.wr (j * 12 + 2) (by omega)
      have f3 := HM2.out.wr (j * 12 + 3) (by omega)
      have f4 := HM2.out.wr (j * 12 + 4) (by omega)
      have e5 := HM2.out.s2 j hlt
      have HM3 := fun (a b c : Value) => (show Hid (Mk (((w2.setCell ⟨g, j * 12 + 2, none⟩ a).setCell ⟨g, j * 12 + 3, none⟩ b).setCell ⟨g, j * 12 + 4, none⟩ c) B C g n A1 A2 A3 l1 l2 l3) from ((HM2.out.set a (by omega)).set b (by omega)).set c (by omega))
      have HD3 := fun (a b c : Value) => (show Hid (Mid B C w (((w2.setCell ⟨g, j * 12 + 2, none⟩ a).setCell ⟨g, j * 12 + 3, none⟩ b).setCell ⟨g, j * 12 + 4, none⟩ c)) from ((HD2.out.set hBg hgC).set hBg hgC).set hBg hgC)
      go_wp2_with fail
      refine (markByteS_keep (A2 j) (l2 j) (l2 j) _ _ ?_ ?_ r2 (fun i hi => ((HM3 _ _ _).out.t2 j hlt i hi).1) (fun i hi => ((HM3 _ _ _).out.t2 j hlt i hi).2)).mono ?_
      · omega
      · omega
      rintro e w3 ⟨rfl, hb3, hu3⟩
      have HM4 : Hid (Mk w3 B C g n A1 A2 A3 l1 l2 l3) := (HM3 _ _ _).out.mark hb3 hu3 p2
      have HD4 : Hid (Mid B C w w3) := (HD3 _ _ _).out.but hb3 (by omega) q2
      clear e2 e3 e4 f2 f3 f4 e5 HM3 HD3 hb3 hu3 HM2 HD2
      obtain ⟨v6, e6⟩ := HM4.out.ex (j * 12 + 6) (by omega)
      obtain ⟨v7, e7⟩ := HM4.out.ex (j * 12 + 7) (by omega)
      obtain ⟨v8, e8⟩ := HM4.out.ex (j * 12 + 8) (by omega)
      have f6 := HM4.out.wr (j * 12 + 6) (by omega)
      have f7 := HM4.out.wr (j * 12 + 7) (by omega)
      have f8 := HM4.out.wr (j * 12 + 8) (by omega)
      have e9 := HM4.out.s3 j hlt
      have HM5 := fun (a b c : Value) => (show Hid (Mk (((w3.setCell ⟨g, j * 12 + 6, none⟩ a).setCell ⟨g, j * 12 + 7, none⟩ b).setCell ⟨g, j * 12 + 8, none⟩ c) B C g n A1 A2 A3 l1 l2 l3) from ((HM4.out.set a (by omega)).set b (by omega)).set c (by omega))
      have HD5 := fun (a b c : Value) => (show Hid (Mid B C w (((w3.setCell ⟨g, j * 12 + 6, none⟩ a).setCell ⟨g, j * 12 + 7, none⟩ b).setCell ⟨g, j * 12 + 8, none⟩ c)) from ((HD4.out.set hBg hgC).set hBg hgC).set hBg hgC)
      go_wp2_with fail
      refine (markByteS_keep (A3 j) (l3 j) (l3 j) _ _ ?_ ?_ r3 (fun i hi => ((HM5 _ _ _).out.t3 j hlt i hi).1) (fun i hi => ((HM5 _ _ _).out.t3 j hlt i hi).2)).mono ?_
      · omega
      · omega
      rintro e w4 ⟨rfl, hb4, hu4⟩
      have HM6 : Hid (Mk w4 B C g n A1 A2 A3 l1 l2 l3) := (HM5 _ _ _).out.mark hb4 hu4 p3
      have HD6 : Hid (Mid B C w w4) := (HD5 _ _ _).out.but hb4 (by omega) q3
      clear e6 e7 e8 f6 f7 f8 e9 HM5 HD5 hb4 hu4 HM4 HD4
      obtain ⟨va, ea⟩ := HM6.out.ex (j * 12 + 10) (by omega)
      obtain ⟨vb, eb⟩ := HM6.out.ex (j * 12 + 11) (by omega)
      have fa := HM6.out.wr (j * 12 + 10) (by omega)
      have fb := HM6.out.wr (j * 12 + 11) (by omega)
      go_wp2_with fail
      go_roundw
      case rel =>
        refine ⟨j + 1, _, by omega, by go_num, rfl, by omega, by omega, (HM6.out.set _ (by omega)).set _ (by omega), (HD6.out.set hBg hgC).set hBg hgC⟩
      case measure => simp [intOf]; omega
    · obtain rfl : j = n := by omega
      go_wp2_with fail
      go_ret
      exact ⟨⟨m, rfl, hm0⟩, HD.out⟩

theorem markGraph_any (B C g n cap : Nat) (A1 A2 A3 l1 l2 l3 : Nat → Nat) (k : Int) (w : World) (hn : n ≤ 1048576) (hk : 0 ≤ k) (hk2 : k ≤ 4194304) (hM : ∀ o, Mk (w.alloc o) B C g n A1 A2 A3 l1 l2 l3) :
    Calls Tryz.prog 13 #[.agg #[.slice (some ⟨g, 0, none⟩) n cap], .int .i64 k] w fun e w' => ∃ (q : Int) (o : Obj), e = .returned (.int .i64 q) ∧ 0 ≤ q ∧ Mid B C (w.alloc o) w' := by
  go_enter Tryz.func13, Tryz.ntmps13
  go_wp2_with fail
  refine (markTripleS_any B C g n cap A1 A2 A3 l1 l2 l3 k _ hn hk hk2 (hM _)).mono ?_
  rintro e w1 ⟨⟨q, rfl, hq⟩, hD⟩
  have HD : Hid (Mid B C (w.alloc (.cells #[.slice (some ⟨g, 0, none⟩) n cap] 34)) w1) := hD
  clear hD hM
  go_wp2_with fail
  go_ret
  exact ⟨q, _, rfl, hq, HD.out⟩
end Go.Proofs.YtdcaicoomldmgaaGreatDoor
