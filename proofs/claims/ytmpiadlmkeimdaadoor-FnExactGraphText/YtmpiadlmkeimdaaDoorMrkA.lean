/- Marks: the contract of markByteS on a text of the call's own. -/
import Derived.Test.YtmpiadlmkeimdaaDoorTxtB
namespace Go.Proofs.YtmpiadlmkeimdaaDoor
open Go.RowKit Go.Deep

/-- All blocks but g are as they were. -/
structure But (g : Nat) (w w' : World) : Prop where
  os : w'.os = w.os
  tape : w'.tape = w.tape
  output : w'.output = w.output
  size : w'.heap.size = w.heap.size
  block : ∀ b, b ≠ g → w'.heap[b]? = w.heap[b]?
theorem But.refl (g : Nat) (w : World) : But g w w := ⟨rfl, rfl, rfl, rfl, fun _ _ => rfl⟩
theorem But.set {g : Nat} {w w' : World} (h : But g w w') (i : Nat) (v : Value) : But g w (w'.setCell ⟨g, i, none⟩ v) :=
  ⟨h.os, h.tape, h.output, by simpa using h.size, fun b hb => (Below.heap_setCell _ _ _ _ hb).trans (h.block b hb)⟩
theorem But.cell {g : Nat} {w w' : World} (h : But g w w') {p : Addr} (hp : p.block ≠ g) : w'.cell? p = w.cell? p := World.cell?_of_block (w := w) (h.block p.block hp)
theorem But.frozen {g : Nat} {w w' : World} (h : But g w w') {p : Addr} (hp : p.block ≠ g) : w'.frozen? p = w.frozen? p := World.frozen?_of_block (w := w) (h.block p.block hp)
theorem But.below {g B : Nat} {w w' : World} (h : But g w w') (hg : B ≤ g) : Below B w w' :=
  ⟨h.os, h.tape, h.output, by rw [h.size]; exact Nat.le_refl _, fun b hb => h.block b (by omega)⟩

theorem set_same {w : World} {g i : Nat} {u v : Value} (h : w.cell? ⟨g, i, none⟩ = some u) : (w.setCell ⟨g, i, none⟩ v).cell? ⟨g, i, none⟩ = some v := by
  simp [go_sem, h]
theorem set_other {w : World} {g i j : Nat} {v : Value} (h : i ≠ j) : (w.setCell ⟨g, j, none⟩ v).cell? ⟨g, i, none⟩ = w.cell? ⟨g, i, none⟩ := by
  simp [go_sem]

theorem markByteS_own (g len cap : Nat) (k : Int) (w : World) (hk : 0 ≤ k) (hk2 : k ≤ 4194304) (hlen : len ≤ 1048576)
    (hc : ∀ i, i < len → ∃ v, w.cell? ⟨g, i, none⟩ = some (.int .u8 v)) (hf : ∀ i, i < len → w.frozen? ⟨g, i, none⟩ = false) :
    Calls Tryd.prog 12 #[.slice (some ⟨g, 0, none⟩) len cap, .int .i64 k] w fun e w' =>
      e = .returned (.int .i64 (k + len)) ∧ But g w w' ∧ (∀ i, i < len → w'.cell? ⟨g, i, none⟩ = some (.int .u8 ((k + (i : Nat)) % 256))) ∧ (∀ i, i < len → w'.frozen? ⟨g, i, none⟩ = false) := by
  go_enter Tryd.func12, Tryd.ntmps12
  go_wp2_with fail
  go_loopw [1, 5] (fun a b wr => ∃ j : Nat, j ≤ len ∧ a = .int .i64 (k + j) ∧ b = .int .i64 j ∧ But g w wr ∧ (∀ i : Nat, i < j → wr.cell? ⟨g, i, none⟩ = some (.int .u8 ((k + i) % 256))) ∧ (∀ i, i < len → ∃ v, wr.cell? ⟨g, i, none⟩ = some (.int .u8 v)) ∧ (∀ i, i < len → wr.frozen? ⟨g, i, none⟩ = false))
    (fun _ b _ => len - (intOf b).toNat)
  case atStart => exact ⟨0, Nat.zero_le _, by simp, rfl, But.refl _ _, fun i hi => by omega, hc, hf⟩
  case round =>
    obtain ⟨j, hj, rfl, rfl, hbut, hm1, hc1, hf1⟩ := hrel
    have HM : Hid (∀ i : Nat, i < j → wr.cell? ⟨g, i, none⟩ = some (.int .u8 ((k + i) % 256))) := hm1
    have HC : Hid (∀ i, i < len → ∃ v, wr.cell? ⟨g, i, none⟩ = some (.int .u8 v)) := hc1
    have HF : Hid (∀ i, i < len → wr.frozen? ⟨g, i, none⟩ = false) := hf1
    clear hc hf hc1 hf1 hm1
    by_cases hlt : j < len
    · obtain ⟨v, hv⟩ := HC.out j hlt
      have hfv := HF.out j hlt
      go_wp2
      go_roundw
      case rel =>
        refine ⟨j + 1, by omega, by go_num, by go_num, hbut.set _ _, fun i hi => ?_, fun i hi => ?_, fun i hi => ?_⟩
        · by_cases e : i = j
          · subst e
            exact set_same hv
          · rw [set_other (by omega)]
            exact HM.out i (by omega)
        · by_cases e : i = j
          · subst e
            exact ⟨_, set_same hv⟩
          · obtain ⟨u, hu⟩ := HC.out i hi
            exact ⟨u, by rw [set_other (by omega)]; exact hu⟩
        · rw [World.frozen?_setCell]
          exact HF.out i hi
      case measure => simp [intOf]; omega
    · obtain rfl : j = len := by omega
      have HM' := HM
      clear HM
      go_wp2
      go_ret
      exact ⟨rfl, hbut, HM'.out, HF.out⟩

/-- toTerm, with the world written out: the text lies in a new block of its own. -/
theorem toTerm_own (k n s : Int) (a : Option Addr) (len cap : Nat) (bs : List Int) (w : World) (hB : Bs w a len bs) :
    Calls Tryd.prog 7 #[.agg #[.int .i64 k, .slice a len cap, .int .i64 n, .int .i64 s]] w fun e w' =>
      e = .returned (.agg #[.int .i64 k, .slice (some ⟨w.heap.size + 1 + 1 + 1, 0, none⟩) len len, .int .i64 n, .int .i64 s]) ∧ ∃ o1 o2 o3, w' = (((w.alloc o1).alloc o2).alloc o3).alloc (.cells (cellsOf bs) 5) := by
  have hB3 : ∀ o1 o2 o3, Bs (((w.alloc o1).alloc o2).alloc o3) a len bs := fun o1 o2 o3 => hB.below (bl_alloc (bl_alloc (bl_alloc (Below.refl _ _) _) _) _)
  clear hB
  go_enter Tryd.func7, Tryd.ntmps7
  go_wp2_with (go_at_call 23; refine (toByteS_any a len cap bs _ (hB3 _ _ _)).mono ?_; rintro e w1 ⟨rfl, rfl⟩)
  simp [bodyPost, results, Tryd.results7, go_sem]
  exact ⟨_, _, _, rfl⟩

theorem markTerm_own (k n s : Int) (g len cap : Nat) (q : Int) (w : World) (hq : 0 ≤ q) (hq2 : q ≤ 4194304) (hlen : len ≤ 1048576) (hg : g < w.heap.size)
    (hc : ∀ i, i < len → ∃ v, w.cell? ⟨g, i, none⟩ = some (.int .u8 v)) (hf : ∀ i, i < len → w.frozen? ⟨g, i, none⟩ = false) :
    Calls Tryd.prog 11 #[.agg #[.int .i64 k, .slice (some ⟨g, 0, none⟩) len cap, .int .i64 n, .int .i64 s], .int .i64 q] w fun e w' =>
      e = .returned (.int .i64 (q + len)) ∧ ∃ o1, But g (w.alloc o1) w' ∧ (∀ i, i < len → w'.cell? ⟨g, i, none⟩ = some (.int .u8 ((q + (i : Nat)) % 256))) ∧ (∀ i, i < len → w'.frozen? ⟨g, i, none⟩ = false) := by
  have hc1 : ∀ o i, i < len → ∃ v, (w.alloc o).cell? ⟨g, i, none⟩ = some (.int .u8 v) := fun o i hi => by
    obtain ⟨v, hv⟩ := hc i hi
    exact ⟨v, ((bl_alloc (Below.refl _ _) o).cell (p := ⟨g, i, none⟩) hg).trans hv⟩
  have hf1 : ∀ o i, i < len → (w.alloc o).frozen? ⟨g, i, none⟩ = false := fun o i hi => ((bl_alloc (Below.refl _ _) o).frozen (p := ⟨g, i, none⟩) hg).trans (hf i hi)
  clear hc hf
  go_enter Tryd.func11, Tryd.ntmps11
  go_wp2_with fail
  refine (markByteS_own g len cap q _ hq hq2 hlen (hc1 _) (hf1 _)).mono ?_
  rintro e w1 ⟨rfl, hb, hm, hfz⟩
  clear hc1 hf1
  have HM : Hid (∀ i, i < len → w1.cell? ⟨g, i, none⟩ = some (.int .u8 ((q + (i : Nat)) % 256))) := hm
  have HF : Hid (∀ i, i < len → w1.frozen? ⟨g, i, none⟩ = false) := hfz
  clear hm hfz
  go_wp2
  go_ret
  exact ⟨rfl, _, hb, HM.out, HF.out⟩
end Go.Proofs.YtmpiadlmkeimdaaDoor
