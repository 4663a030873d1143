/- Texts put together: TrvD -/
import Derived.Test.YtpgbhkkdbkecoaaMk34
/- TrvD -/
namespace Go.Proofs.Ytpgbhkkdbkecoaa
open Go.RowKit Go.Deep
set_option maxRecDepth 100000

theorem rowP_of {W : World} {cs : Array Value} {t : TypeId} {g b : Nat} (hb : W.heap.size = b) (hg : b ≠ g) : RowP (W.alloc (.cells cs t)) g 13 (some ⟨b, 0, none⟩) 1 (fun _ => cs.toList) := by
  subst hb
  refine .inr ⟨W.heap.size, 0, rfl, by simp, hg, fun i hi c u hu => ?_⟩
  obtain rfl : i = 0 := by omega
  have h := (Box.new W cs t (0, 0)).2 c u hu
  rw [show 0 + 0 * 13 + c = c by omega]
  exact h
theorem rowQ_of {W : World} {cs : Array Value} {t : TypeId} {g b : Nat} {v : Value} (hb : W.heap.size = b) (hg : b ≠ g) (hv : v.ownBlock ≠ some b) : RowQ (W.alloc (.cells cs t)) g v 13 (some ⟨b, 0, none⟩) 1 (fun _ => cs.toList) := by
  subst hb
  refine .inr ⟨W.heap.size, 0, rfl, by simp, hg, hv, fun i hi c u hu => ?_⟩
  obtain rfl : i = 0 := by omega
  have h := (Box.new W cs t (0, 0)).2 c u hu
  rw [show 0 + 0 * 13 + c = c by omega]
  exact h
theorem vq_new {w0 w : World} (hb : Below w0.heap.size w0 w) (t : TypeId) : VQ w0 (w.alloc (.cells #[.slice none 0 0] t)) w.heap.size w.heap.size (.slice none 0 0) [] :=
  ⟨by simp [go_sem], by simp [go_sem], by simp, VL.nil _ _ _, fun e => (by cases e), hb.size, hb.size, hb.trans ((bl_a _).mono hb.size), by simp⟩
set_option maxHeartbeats 8000000 in
theorem implAlgOk_any (e : AT) (w : World) (h : e.lies 0 w) : Calls Try.prog 8 #[.agg #[.int .i64 e.d.k, .slice e.d.pa e.d.pn e.d.pc, .int .i64 e.d.e.d.k, .int .i64 e.d.e.d.op, .slice e.d.e.d.v.a e.d.e.d.v.len e.d.e.d.v.cap, .int .i64 e.d.e.d.t.t.k, .slice e.d.e.d.t.t.a e.d.e.d.t.t.len e.d.e.d.t.t.cap, .int .i64 e.d.e.d.t.t.n, .int .i64 e.d.e.d.t.t.s, .slice e.d.e.d.ka e.d.e.d.n e.d.e.d.kc, .slice e.d.v.a e.d.v.len e.d.v.cap, .slice e.d.ta e.d.tb.length e.d.tc, .slice e.d.ka e.d.n e.d.kc]] w (Tells (algOk e) w) := by
  have A1 := fun (W : World) (hb : Below w.heap.size w W) (hc : Ctr W (w.heap.size + 1) 480) (hr : RowP W (w.heap.size + 1) 13 (some ⟨w.heap.size + 1 + 1, 0, none⟩) 1 (fun _ => e.d.cells)) => algsOk_any (some ⟨w.heap.size + 1 + 1, 0, none⟩) 1 1 (fun _ => e) (fun _ => aOk e 1) (fun _ => asz e) 1 240 480 (w.heap.size + 1) w W hr hb (Nat.le_succ _) hc (by omega) (by omega) (by omega) (fun i hi L' W' hb' hc' h0 h1 => algOk_any e 1 L' (w.heap.size + 1) w W' h hb' (Nat.le_succ _) hc' (by omega) (by omega) h0 h1)
  have HV : Hid (∀ (W : World) (g B b : Nat), VQ w W B g (.slice none 0 0) [] → RowQ W g (.slice none 0 0) 13 (some ⟨b, 0, none⟩) 1 (fun _ => e.d.cells) → ac e ≤ 1000000 → Calls Try.prog 28 #[.pointer (some ⟨g, 0, none⟩), .slice (some ⟨b, 0, none⟩) 1 1] W (AddQ w B g (.slice none 0 0) (aV e []) W)) := fun W g B b hV hR hL => addAlgs_one (fun _ => e) 1 (.slice none 0 0) [] B g w W (some ⟨b, 0, none⟩) 1 (fun _ _ => h) hR hV (by show 0 + (0 + ac e) ≤ _; omega) (by omega) (fun i _ v' L' W' a' c' h1 h2 h3 h4 h5 => addAlgs_any e v' L' B g w W' a' c' h1 h2 h3 h4 h5)
  have HAC : Hid (aOk e 1 → ac e ≤ 4 * asz e) := fun h => ac_le h
  clear h
  go_enter Try.func8, Try.ntmps8
  go_wp2_with fail
  refine Calls.mono (A1 _ ?hb ?hc ?hr) ?_
  case hb => exact bl_alloc (bl_alloc (bl_a _) _) _
  case hc => exact ⟨by simp, by simp [go_sem], by simp [go_sem]⟩
  case hr => exact rowP_of (by simp) (by omega)
  rintro r w3 ⟨q, L', rfl, hq, _, hc3, hp3⟩
  have HB3 : Hid (Below w.heap.size w w3) := (show Below _ _ _ from (bl_alloc (bl_alloc (bl_a _) _) _ : Below w.heap.size w _).trans (hp3.below (Nat.le_succ _) (by simp; omega)))
  have HX3 : Hid (Box w3 w.heap.size [.int .i64 e.d.k, .slice e.d.pa e.d.pn e.d.pc, .int .i64 e.d.e.d.k, .int .i64 e.d.e.d.op, .slice e.d.e.d.v.a e.d.e.d.v.len e.d.e.d.v.cap, .int .i64 e.d.e.d.t.t.k, .slice e.d.e.d.t.t.a e.d.e.d.t.t.len e.d.e.d.t.t.cap, .int .i64 e.d.e.d.t.t.n, .int .i64 e.d.e.d.t.t.s, .slice e.d.e.d.ka e.d.e.d.n e.d.e.d.kc, .slice e.d.v.a e.d.v.len e.d.v.cap, .slice e.d.ta e.d.tb.length e.d.tc, .slice e.d.ka e.d.n e.d.kc]) := (((Box.new w #[.int .i64 e.d.k, .slice e.d.pa e.d.pn e.d.pc, .int .i64 e.d.e.d.k, .int .i64 e.d.e.d.op, .slice e.d.e.d.v.a e.d.e.d.v.len e.d.e.d.v.cap, .int .i64 e.d.e.d.t.t.k, .slice e.d.e.d.t.t.a e.d.e.d.t.t.len e.d.e.d.t.t.cap, .int .i64 e.d.e.d.t.t.n, .int .i64 e.d.e.d.t.t.s, .slice e.d.e.d.ka e.d.e.d.n e.d.e.d.kc, .slice e.d.v.a e.d.v.len e.d.v.cap, .slice e.d.ta e.d.tb.length e.d.tc, .slice e.d.ka e.d.n e.d.kc] 43 (0, 0)).below (bl_a _)).below (bl_a _)).past hp3 (by omega)
  have HQ : Hid (q = true ↔ aOk e 1 ∧ asz e ≤ 480) := (show (q = true ↔ _) from hq.trans ⟨fun hh => ⟨hh.1 0 (by omega), by have h2 := hh.2; have h3 : sumN 1 (fun _ => asz e) = 0 + asz e := rfl; omega⟩, fun hh => ⟨fun _ _ => hh.1, by have h3 : sumN 1 (fun _ => asz e) = 0 + asz e := rfl; have h2 := hh.2; omega⟩⟩)
  clear A1 hc3 hp3 hq
  cases q with
  | false =>
    have HNO : Hid (¬ algOk e) := fun hh => by have h1 := HQ.out.2 ⟨hh.1, hh.2.1⟩; cases h1
    clear HQ
    go_wp2_with fail
    go_ret
    exact Tells.no HNO.out HB3.out
  | true =>
    have HOK : Hid (aOk e 1 ∧ asz e ≤ 480) := HQ.out.1 rfl
    have lr := fun o => (HX3.out.below (bl_a o)).range 0 [.int .i64 e.d.k, .slice e.d.pa e.d.pn e.d.pc, .int .i64 e.d.e.d.k, .int .i64 e.d.e.d.op, .slice e.d.e.d.v.a e.d.e.d.v.len e.d.e.d.v.cap, .int .i64 e.d.e.d.t.t.k, .slice e.d.e.d.t.t.a e.d.e.d.t.t.len e.d.e.d.t.t.cap, .int .i64 e.d.e.d.t.t.n, .int .i64 e.d.e.d.t.t.s, .slice e.d.e.d.ka e.d.e.d.n e.d.e.d.kc, .slice e.d.v.a e.d.v.len e.d.v.cap, .slice e.d.ta e.d.tb.length e.d.tc, .slice e.d.ka e.d.n e.d.kc] rfl
    clear HQ
    go_wp2_with (with_reducible refine wpl_at ?_; refine wpList_load_mid rfl 43 _ rfl _ _ rfl [.int .i64 e.d.k, .slice e.d.pa e.d.pn e.d.pc, .int .i64 e.d.e.d.k, .int .i64 e.d.e.d.op, .slice e.d.e.d.v.a e.d.e.d.v.len e.d.e.d.v.cap, .int .i64 e.d.e.d.t.t.k, .slice e.d.e.d.t.t.a e.d.e.d.t.t.len e.d.e.d.t.t.cap, .int .i64 e.d.e.d.t.t.n, .int .i64 e.d.e.d.t.t.s, .slice e.d.e.d.ka e.d.e.d.n e.d.e.d.kc, .slice e.d.v.a e.d.v.len e.d.v.cap, .slice e.d.ta e.d.tb.length e.d.tc, .slice e.d.ka e.d.n e.d.kc] _ (lr _) Try.underlying43 rfl (by kernel_rfl) ?_; try simp only [Act.put, List.setIfInBounds_toArray, List.set_cons_zero, List.set_cons_succ])
    clear lr
    refine Calls.mono (HV.out _ w3.heap.size w3.heap.size (w3.heap.size + 1) ?hv ?hr ?hl) ?_
    case hv => exact (vq_new HB3.out _).below (bl_a _)
    case hr => exact rowQ_of (by simp) (by omega) (fun e => by cases e)
    case hl => have h1 := HAC.out HOK.out.1; have h2 := HOK.out.2; omega
    rintro r w5 ⟨v5, L5, rfl, hV5, hR5, hK5⟩
    obtain ⟨a5, c5, rfl, _⟩ := hV5.vl.form
    have HB5 : Hid (Below w.heap.size w w5) := hV5.bl
    have x5 := hV5.cell
    obtain ⟨n, hnn⟩ : ∃ n, n = L5.length := ⟨_, rfl⟩
    rw [← hnn] at x5
    have HN : Hid (n = (aV e []).length) := (show n = _ by rw [hnn, ← hR5, List.length_map])
    clear hV5 hR5 hK5 hnn HV
    by_cases h8 : n ≤ 8
    · have h8z : (n : Int) ≤ 8 := by omega
      have HY : Hid (algOk e) := ⟨HOK.out.1, HOK.out.2, by rw [← HN.out]; exact h8⟩
      go_wp2_with fail
      go_ret
      exact Tells.of ⟨fun _ => HY.out, fun _ => by simp; try omega⟩ HB5.out
    · have h8z : ¬ (n : Int) ≤ 8 := by omega
      have HNO : Hid (¬ algOk e) := fun hh => h8 (by rw [HN.out]; exact hh.2.2)
      go_wp2_with fail
      go_ret
      refine Tells.of ⟨fun h => ?_, fun hp => absurd hp HNO.out⟩ HB5.out
      exfalso
      simp at h
      omega
end Go.Proofs.Ytpgbhkkdbkecoaa
