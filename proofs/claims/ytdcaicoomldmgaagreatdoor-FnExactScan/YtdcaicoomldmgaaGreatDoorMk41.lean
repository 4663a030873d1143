/- Texts put together: StqK -/
import Derived.Test.YtdcaicoomldmgaaGreatDoorMk40
/- StqK -/
namespace Go.Proofs.YtdcaicoomldmgaaGreatDoor
open Go.RowKit Go.Deep
set_option maxRecDepth 100000

set_option maxHeartbeats 4000000 in
theorem l3store_nil (a : Option Addr) (cap : Nat) (T U V : Nat → Tm) (bt bu bv : Nat → List Int) (w : World) :
    Calls Tryz.prog 35 #[.agg #[.slice a 0 cap]] w (L3Store w 0 T U V bt bu bv) := by
  have HX : Hid (∀ wr, Below (w.heap.size + 1 + 1) (((w.alloc (.cells #[.slice a 0 cap] 34)).alloc (.cells #[.slice none 0 0, .slice none 0 0] 29)).alloc (.cells #[.slice none 0 0, .slice none 0 0] 29)) wr → wr.cell? ⟨w.heap.size, 0, none⟩ = some (.slice a 0 cap) ∧ wr.cell? ⟨w.heap.size + 1, 0, none⟩ = some (Value.slice none 0 0) ∧ wr.cell? ⟨w.heap.size + 1, 1, none⟩ = some (Value.slice none 0 0) ∧ wr.frozen? ⟨w.heap.size + 1, 0, none⟩ = false ∧ wr.frozen? ⟨w.heap.size + 1, 1, none⟩ = false ∧ Below w.heap.size w wr) := fun wr h => ⟨(h.cell (p := ⟨w.heap.size, 0, none⟩) (by show w.heap.size < _; omega)).trans (by simp [go_sem]), (h.cell (p := ⟨w.heap.size + 1, 0, none⟩) (Nat.lt_succ_self _)).trans (by simp [go_sem]), (h.cell (p := ⟨w.heap.size + 1, 1, none⟩) (Nat.lt_succ_self _)).trans (by simp [go_sem]), (h.frozen (p := ⟨w.heap.size + 1, 0, none⟩) (Nat.lt_succ_self _)).trans (by simp [go_sem]), (h.frozen (p := ⟨w.heap.size + 1, 1, none⟩) (Nat.lt_succ_self _)).trans (by simp [go_sem]), (bl_alloc (bl_alloc (bl_a (w := w) _) _) _).trans (h.mono (by omega))⟩
  go_enter Tryz.func35, Tryz.ntmps35
  go_wp2_with fail
  refine wp_loop_rounds 1 ?_
  rw [rounds_succ]
  go_wp2
  go_loopw [5] (fun s5 wr => ∃ (k : Nat) (vR : Value) (vs : List Value), k ≤ 6 ∧ s5 = .int .i64 k ∧ Hid (wr.cell? ⟨(w.heap.size + 1 + 1), 0, none⟩ = some (Value.slice none 0 0) ∧ wr.cell? ⟨(w.heap.size + 1 + 1), 1, none⟩ = some vR ∧ wr.frozen? ⟨(w.heap.size + 1 + 1), 0, none⟩ = false ∧ wr.frozen? ⟨(w.heap.size + 1 + 1), 1, none⟩ = false ∧ (w.heap.size + 1 + 1 + 1) ≤ wr.heap.size) ∧ Hid (Orders wr (w.heap.size + 1 + 1 + 1) vR [] k vs) ∧ Hid (Below (w.heap.size + 1 + 1) (((w.alloc (.cells #[.slice a 0 cap] 34)).alloc (.cells #[.slice none 0 0, .slice none 0 0] 29)).alloc (.cells #[.slice none 0 0, .slice none 0 0] 29)) wr))
    (fun s5 _ => 6 - (intOf s5).toNat)
  case atStart => exact ⟨0, .slice none 0 0, [], Nat.zero_le _, rfl, ⟨by simp [go_sem], by simp [go_sem], by simp [go_sem], by simp [go_sem], by simp⟩, ⟨OwnV.nil _ _, rfl, fun i x hx => (by simp at hx), fun x hx => (by cases hx), List.Pairwise.nil⟩, Below.refl _ _⟩
  case round =>
    obtain ⟨k, vR, vs, hk, rfl, HSK, HO, HB⟩ := hrel
    obtain ⟨s0, s1, s2, s3, s4⟩ := id HSK.out
    obtain ⟨hbx, e0, e1, e2, e3, hbw⟩ := HX.out wr HB.out
    have HBW : Hid (Below w.heap.size w wr) := hbw
    clear hbw
    by_cases hlk : k < 6
    · have hlkz : (k : Int) < 6 := by omega
      have HVL : Hid (vs.length = k) := HO.out.len
      have hvl : vs.length + 1 = k + 1 := by rw [HVL.out]
      have hbA : Below wr.heap.size wr (wr.alloc (.cells #[(Value.slice none 0 0)] 57)) := bl_a _
      have HOA : Hid (OwnV (wr.alloc (.cells #[(Value.slice none 0 0)] 57)) (w.heap.size + 1 + 1 + 1) vR vs) := HO.out.own.grown (grown_of_below (row := none) hbA) (fun g _ => by simp)
      have HNA : Hid (∀ j u, ([(Value.slice none 0 0)] : List Value)[j]? = some u → (wr.alloc (.cells #[(Value.slice none 0 0)] 57)).cell? ((⟨wr.heap.size, 0, none⟩ : Addr).add j) = some u) := one_value wr _
      have hBA : (w.heap.size + 1 + 1 + 1) ≤ (wr.alloc (.cells #[(Value.slice none 0 0)] 57)).heap.size := by simp; omega
      have HGl : Hid (∀ g, vR.ownBlock = some g → (w.heap.size + 1 + 1 + 1) ≤ g ∧ g < wr.heap.size) := fun g hg => HO.out.own.2 g hg
      have HZ9 : Hid (∀ w9, (wr.alloc (.cells #[(Value.slice none 0 0)] 57)).grownBy w9 vR.ownBlock → w9.cell? ⟨(w.heap.size + 1 + 1), 1, none⟩ = some vR ∧ w9.frozen? ⟨(w.heap.size + 1 + 1), 1, none⟩ = false ∧ w9.cell? ⟨(w.heap.size + 1 + 1), 0, none⟩ = some (Value.slice none 0 0) ∧ w9.frozen? ⟨(w.heap.size + 1 + 1), 0, none⟩ = false) := by
        intro w9 hgr
        have hc : ∀ o, w9.cell? ⟨(w.heap.size + 1 + 1), o, none⟩ = wr.cell? ⟨(w.heap.size + 1 + 1), o, none⟩ := fun o => (hgr.cell_far ⟨(w.heap.size + 1 + 1), o, none⟩ (by simp; omega) (fun e => by have := HGl.out (w.heap.size + 1 + 1) e.symm; omega)).trans (hbA.cell (p := ⟨(w.heap.size + 1 + 1), o, none⟩) (by show (w.heap.size + 1 + 1) < _; omega))
        have hf : ∀ o, w9.frozen? ⟨(w.heap.size + 1 + 1), o, none⟩ = wr.frozen? ⟨(w.heap.size + 1 + 1), o, none⟩ := fun o => (hgr.frozen_far ⟨(w.heap.size + 1 + 1), o, none⟩ (by simp; omega) (fun e => by have := HGl.out (w.heap.size + 1 + 1) e.symm; omega)).trans (hbA.frozen (p := ⟨(w.heap.size + 1 + 1), o, none⟩) (by show (w.heap.size + 1 + 1) < _; omega))
        exact ⟨(hc 1).trans s1, (hf 1).trans s3, (hc 0).trans s0, (hf 0).trans s2⟩
      clear e0 e1 e2 e3
      go_wp2_with fail
      refine wp_loop_rounds 1 ?_
      rw [rounds_succ]
      go_wp2_with (refine appV rfl (.tmp 114) (.tmp 116) rfl (w.heap.size + 1 + 1 + 1) vR vs rfl HOA ⟨wr.heap.size, 0, none⟩ 1 (Value.slice none 0 0) rfl HNA rfl (k + 1) hvl (by omega) hBA ?_; intro g2 q2 w9 HOW HGR HAT HLT; obtain ⟨z0, z1, z2, z3⟩ := HZ9.out w9 HGR.out)
      have hs9 : wr.heap.size + 1 ≤ w9.heap.size := by have := HGR.out.size; simpa using this
      have hor : Orders w9 (w.heap.size + 1 + 1 + 1) (Value.slice (some ⟨g2, 0, none⟩) (k + 1) q2) [] (k + 1) (vs ++ [(Value.slice none 0 0)]) := by
        have hown := HOW.out
        have e := HVL.out
        have h := HO.out.more (cap := q2) (OwnRR.nil wr wr.heap.size) (List.Perm.refl _) List.Pairwise.nil (Below.refl _ _) (bl_a _) s4 HGR.out (by rw [e]; exact hown) HAT.out HLT.out
        rw [e] at h
        exact h
      have HN1 : Hid ((w9.setCell ⟨(w.heap.size + 1 + 1), 1, none⟩ (Value.slice (some ⟨g2, 0, none⟩) (k + 1) q2)).cell? ⟨(w.heap.size + 1 + 1), 0, none⟩ = some (Value.slice none 0 0) ∧ (w9.setCell ⟨(w.heap.size + 1 + 1), 1, none⟩ (Value.slice (some ⟨g2, 0, none⟩) (k + 1) q2)).cell? ⟨(w.heap.size + 1 + 1), 1, none⟩ = some (Value.slice (some ⟨g2, 0, none⟩) (k + 1) q2) ∧ (w9.setCell ⟨(w.heap.size + 1 + 1), 1, none⟩ (Value.slice (some ⟨g2, 0, none⟩) (k + 1) q2)).frozen? ⟨(w.heap.size + 1 + 1), 0, none⟩ = false ∧ (w9.setCell ⟨(w.heap.size + 1 + 1), 1, none⟩ (Value.slice (some ⟨g2, 0, none⟩) (k + 1) q2)).frozen? ⟨(w.heap.size + 1 + 1), 1, none⟩ = false ∧ (w.heap.size + 1 + 1 + 1) ≤ (w9.setCell ⟨(w.heap.size + 1 + 1), 1, none⟩ (Value.slice (some ⟨g2, 0, none⟩) (k + 1) q2)).heap.size) := ⟨(set_other (by omega)).trans z2, set_same z0, by rw [World.frozen?_setCell]; exact z3, by rw [World.frozen?_setCell]; exact z1, by simp [World.setCell]; omega⟩
      have HN2 : Hid (Orders (w9.setCell ⟨(w.heap.size + 1 + 1), 1, none⟩ (Value.slice (some ⟨g2, 0, none⟩) (k + 1) q2)) (w.heap.size + 1 + 1 + 1) (Value.slice (some ⟨g2, 0, none⟩) (k + 1) q2) [] (k + 1) (vs ++ [(Value.slice none 0 0)])) := hor.grown (grown_set _ _ _ _) (fun g hg => by cases hg; omega)
      have HN3 : Hid (Below (w.heap.size + 1 + 1) (((w.alloc (.cells #[.slice a 0 cap] 34)).alloc (.cells #[.slice none 0 0, .slice none 0 0] 29)).alloc (.cells #[.slice none 0 0, .slice none 0 0] 29)) (w9.setCell ⟨(w.heap.size + 1 + 1), 1, none⟩ (Value.slice (some ⟨g2, 0, none⟩) (k + 1) q2))) := by
        have h9 : Below (w.heap.size + 1 + 1) (((w.alloc (.cells #[.slice a 0 cap] 34)).alloc (.cells #[.slice none 0 0, .slice none 0 0] 29)).alloc (.cells #[.slice none 0 0, .slice none 0 0] 29)) w9 := (HB.out.trans (hbA.mono (by omega))).grown HGR.out (by simp; omega) (fun j hj => by have := HGl.out j hj; omega)
        exact h9.setCell (p := ⟨(w.heap.size + 1 + 1), 1, none⟩) (Nat.le_refl _) _
      clear z0 z1 z2 z3 hor s0 s1 s2 s3 hbx
      generalize (w9.setCell ⟨(w.heap.size + 1 + 1), 1, none⟩ (Value.slice (some ⟨g2, 0, none⟩) (k + 1) q2)) = wz at *
      go_wp2
      go_roundw
      case rel => exact ⟨k + 1, _, _, by omega, by go_num, HN1, HN2, HN3⟩
      case measure => simp [intOf]; omega
    · obtain rfl : k = 6 := by omega
      obtain ⟨aR, cR, _, hvR, _⟩ := HO.out.read (by omega)
      subst hvR
      have hs9 : w.heap.size + 1 < wr.heap.size := by omega
      go_wp2_with fail
      refine wp_loop_rounds 1 ?_
      rw [rounds_succ]
      go_wp2
      refine bodyPost_ret (v := .agg #[(Value.slice none 0 0), .slice aR 6 cR]) (by simp [results, Tryz.results35, go_sem, *]) rfl ?_
      have hor9 := HO.out.grown ((grown_set wr (w.heap.size + 1) 0 (Value.slice none 0 0)).trans (grown_set (wr.setCell ⟨w.heap.size + 1, 0, none⟩ (Value.slice none 0 0)) (w.heap.size + 1) 1 (.slice aR 6 cR))) (fun g hg => by cases hg; omega)
      obtain ⟨aR9, cR9, rbs9, hv9, hsr, hrl, hrb⟩ := hor9.read (by omega)
      simp only [Value.slice.injEq] at hv9
      obtain ⟨q9, _, f9⟩ := hv9
      rw [← q9] at hsr
      have hbut : But (w.heap.size + 1) wr ((wr.setCell ⟨w.heap.size + 1, 0, none⟩ (Value.slice none 0 0)).setCell ⟨w.heap.size + 1, 1, none⟩ (.slice aR 6 cR)) := ((But.refl _ _).set _ _).set _ _
      exact ⟨none, 0, aR, cR, [], rbs9, rfl, .inl rfl, fun y hy => (by cases hy), ⟨List.Pairwise.nil, fun x => by simp [allT]⟩, by simp, hrl, hsr, fun i x hx => ⟨(hrb i x hx).1, (hrb i x hx).2⟩, HBW.out.trans (hbut.below (by omega))⟩
end Go.Proofs.YtdcaicoomldmgaaGreatDoor
