/- Texts put together: TreS TreT TreU TreV -/
import Derived.Test.YtpgbhkkdbkecoaaNk27
/- TreS -/
namespace Go.Proofs.Ytpgbhkkdbkecoaa
open Go.RowKit Go.Deep
set_option maxRecDepth 100000

theorem isVar_any (x : IB) (w : World) (h : x.lies 0 w) : Calls Try.prog 111 #[.agg #[.slice x.v.a x.v.len x.v.cap, .int .i64 x.t.t.k, .slice x.t.t.a x.t.t.len x.t.t.cap, .int .i64 x.t.t.n, .int .i64 x.t.t.s]] w (Tells (x.v.b ≠ []) w) := by
  have HL : Hid (x.v.b = [] ↔ x.v.len = 0) := nil_len h.1.1.1
  clear h
  go_enter Try.func111, Try.ntmps111
  go_wp2_with fail
  go_ret
  refine Tells.of ?_ (bl_a _)
  have h1 := HL.out
  constructor
  · intro h2 h3
    have h4 := h1.1 h3
    simp at h2
    omega
  · intro h2
    simp
    apply Nat.pos_of_ne_zero
    exact fun h3 => h2 (h1.2 h3)
theorem ok_kind {x : TD} (h : x.ok = true) : 0 ≤ x.k ∧ x.k ≤ 3 := by
  unfold TD.ok termOk at h
  by_cases h0 : x.k = 0
  · omega
  by_cases h1 : x.k = 1
  · omega
  by_cases h2 : x.k = 2
  · omega
  by_cases h3 : x.k = 3
  · omega
  rw [if_neg h0, if_neg h1, if_neg h2, if_neg h3] at h
  cases h
set_option maxHeartbeats 1000000 in
theorem itemOkS (x : IB) (w : World) (h : x.lies 0 w) : Calls Try.prog 96 #[.agg #[.slice x.v.a x.v.len x.v.cap, .int .i64 x.t.t.k, .slice x.t.t.a x.t.t.len x.t.t.cap, .int .i64 x.t.t.n, .int .i64 x.t.t.s], .func (.func 97) #[] #[]] w (Tells (itOk x 1) w) := by
  have HIV : Hid (∀ W, Below w.heap.size w W → Calls Try.prog 111 #[.agg #[.slice x.v.a x.v.len x.v.cap, .int .i64 x.t.t.k, .slice x.t.t.a x.t.t.len x.t.t.cap, .int .i64 x.t.t.n, .int .i64 x.t.t.s]] W (Tells (x.v.b ≠ []) W)) := fun W hb => isVar_any x W ⟨h.1.upper (Upper.of_below hb), h.2.1.upper (Upper.of_below hb), h.2.2⟩
  have HIN : Hid (∀ W, Below w.heap.size w W → Calls Try.prog 86 #[.slice x.v.a x.v.len x.v.cap] W fun e w' => e = .returned (.bool (nameOk x.v.b)) ∧ w' = W) := fun W hb => isName_any x.v.a x.v.len x.v.cap x.v.b W (h.1.upper (Upper.of_below hb)).1
  have HZ : Hid (∀ W, Below w.heap.size w W → Calls Try.prog 112 #[.agg #[.int .i64 x.t.t.k, .slice x.t.t.a x.t.t.len x.t.t.cap, .int .i64 x.t.t.n, .int .i64 x.t.t.s]] W (Tells (zeroT x.t.td) W)) := fun W hb => isZeroT_any x.t W (h.2.1.upper (Upper.of_below hb))
  have HMS : Hid (∀ W, Below w.heap.size w W → Calls Try.prog 97 #[.agg #[.int .i64 x.t.t.k, .slice x.t.t.a x.t.t.len x.t.t.cap, .int .i64 x.t.t.n, .int .i64 x.t.t.s]] W (Tells (x.t.td.ok = true ∧ x.t.t.k ≤ 1) W)) := fun W hb => (isSubject_any x.t.t x.t.b W h.2.2 (h.2.1.upper (Upper.of_below hb)).1).mono fun e w' ⟨h1, h2⟩ => ⟨_, h1, (show (_ ↔ _) by rw [Bool.and_eq_true, decide_eq_true_iff]; exact Iff.rfl), h2⟩
  clear h
  go_enter Try.func96, Try.ntmps96
  go_wp2_with fail
  refine (HIV.out _ (bl_a _)).mono ?_
  rintro e w1 ⟨q1, rfl, hq1, hb1⟩
  have HB1 : Hid (Below w.heap.size w w1) := bl_trans (bl_a _) hb1
  have hx : Box w1 w.heap.size [.slice x.v.a x.v.len x.v.cap, .int .i64 x.t.t.k, .slice x.t.t.a x.t.t.len x.t.t.cap, .int .i64 x.t.t.n, .int .i64 x.t.t.s] := (Box.new w #[.slice x.v.a x.v.len x.v.cap, .int .i64 x.t.t.k, .slice x.t.t.a x.t.t.len x.t.t.cap, .int .i64 x.t.t.n, .int .i64 x.t.t.s] 57 (0, 0)).below hb1
  have y0 := hx.2 0 _ rfl
  have y1 := hx.2 1 _ rfl
  have y2 := hx.2 2 _ rfl
  have y3 := hx.2 3 _ rfl
  have y4 := hx.2 4 _ rfl
  clear hb1 hx
  cases q1 with
  | true =>
    have HNE : Hid (x.v.b ≠ []) := hq1.1 rfl
    clear hq1 HMS
    cases hnm : nameOk x.v.b with
    | false =>
      have HNO : Hid (¬ itOk x 1) := fun hh => by
        rcases hh with hh | hh
        · have h := hh.2.1
          rw [hnm] at h
          cases h
        · exact HNE.out hh.1
      have IN := HIN.out w1 HB1.out
      rw [hnm] at IN
      clear hnm
      go_wp2_with fail
      refine IN.mono ?_
      rintro e w2 ⟨rfl, h2⟩
      subst w2
      clear IN
      go_wp2_with fail
      go_ret
      exact Tells.no HNO.out HB1.out
    | true =>
      have HNM : Hid (nameOk x.v.b = true) := hnm
      have IN := HIN.out w1 HB1.out
      rw [hnm] at IN
      clear hnm
      go_wp2_with fail
      refine IN.mono ?_
      rintro e w2 ⟨rfl, h2⟩
      subst w2
      clear IN
      go_wp2_with fail
      refine (HZ.out w1 HB1.out).mono ?_
      rintro e w3 ⟨q3, rfl, hq3, hb3⟩
      have HE : Hid (q3 = true ↔ itOk x 1) := (show (q3 = true ↔ itOk x 1) from hq3.trans ⟨fun hh => Or.inl ⟨HNE.out, HNM.out, hh⟩, fun hh => by
        rcases hh with hh | hh
        · exact hh.2.2
        · exact absurd hh.1 HNE.out⟩)
      have HB3 : Hid (Below w.heap.size w w3) := bl_trans HB1.out hb3
      clear hq3 hb3 y0 y1 y2 y3 y4
      go_wp2_with fail
      go_ret
      exact Tells.of HE.out HB3.out
  | false =>
    have HNE : Hid (x.v.b = []) := (show x.v.b = [] from Classical.byContradiction fun hh => by have h := hq1.2 hh; cases h)
    clear hq1 HZ HIN
    go_wp2_with fail
    refine (HMS.out w1 HB1.out).mono ?_
    rintro e w3 ⟨q3, rfl, hq3, hb3⟩
    have HE : Hid (q3 = true ↔ itOk x 1) := (show (q3 = true ↔ itOk x 1) from hq3.trans ⟨fun hh => Or.inr ⟨HNE.out, hh.1, hh.2⟩, fun hh => by
      rcases hh with hh | hh
      · exact absurd HNE.out hh.1
      · exact hh.2⟩)
    have HB3 : Hid (Below w.heap.size w w3) := bl_trans HB1.out hb3
    clear hq3 hb3 y0 y1 y2 y3 y4
    go_wp2_with fail
    go_ret
    exact Tells.of HE.out HB3.out
set_option maxHeartbeats 1000000 in
theorem itemOkP (x : IB) (w : World) (h : x.lies 0 w) : Calls Try.prog 96 #[.agg #[.slice x.v.a x.v.len x.v.cap, .int .i64 x.t.t.k, .slice x.t.t.a x.t.t.len x.t.t.cap, .int .i64 x.t.t.n, .int .i64 x.t.t.s], .func (.func 98) #[] #[]] w (Tells (itOk x 0) w) := by
  have HIV : Hid (∀ W, Below w.heap.size w W → Calls Try.prog 111 #[.agg #[.slice x.v.a x.v.len x.v.cap, .int .i64 x.t.t.k, .slice x.t.t.a x.t.t.len x.t.t.cap, .int .i64 x.t.t.n, .int .i64 x.t.t.s]] W (Tells (x.v.b ≠ []) W)) := fun W hb => isVar_any x W ⟨h.1.upper (Upper.of_below hb), h.2.1.upper (Upper.of_below hb), h.2.2⟩
  have HIN : Hid (∀ W, Below w.heap.size w W → Calls Try.prog 86 #[.slice x.v.a x.v.len x.v.cap] W fun e w' => e = .returned (.bool (nameOk x.v.b)) ∧ w' = W) := fun W hb => isName_any x.v.a x.v.len x.v.cap x.v.b W (h.1.upper (Upper.of_below hb)).1
  have HZ : Hid (∀ W, Below w.heap.size w W → Calls Try.prog 112 #[.agg #[.int .i64 x.t.t.k, .slice x.t.t.a x.t.t.len x.t.t.cap, .int .i64 x.t.t.n, .int .i64 x.t.t.s]] W (Tells (zeroT x.t.td) W)) := fun W hb => isZeroT_any x.t W (h.2.1.upper (Upper.of_below hb))
  have HMS : Hid (∀ W, Below w.heap.size w W → Calls Try.prog 98 #[.agg #[.int .i64 x.t.t.k, .slice x.t.t.a x.t.t.len x.t.t.cap, .int .i64 x.t.t.n, .int .i64 x.t.t.s]] W (Tells (x.t.td.ok = true ∧ x.t.t.k ≤ 0) W)) := fun W hb => (isProperty_any x.t.t x.t.b W h.2.2 (h.2.1.upper (Upper.of_below hb)).1).mono fun e w' ⟨h1, h2⟩ => ⟨_, h1, (show (_ ↔ _) by rw [Bool.and_eq_true, beq_iff_eq]; exact ⟨fun hh => ⟨hh.1, Int.le_of_eq hh.2⟩, fun hh => ⟨hh.1, Int.le_antisymm hh.2 (ok_kind (x := x.t.td) hh.1).1⟩⟩), h2⟩
  clear h
  go_enter Try.func96, Try.ntmps96
  go_wp2_with fail
  refine (HIV.out _ (bl_a _)).mono ?_
  rintro e w1 ⟨q1, rfl, hq1, hb1⟩
  have HB1 : Hid (Below w.heap.size w w1) := bl_trans (bl_a _) hb1
  have hx : Box w1 w.heap.size [.slice x.v.a x.v.len x.v.cap, .int .i64 x.t.t.k, .slice x.t.t.a x.t.t.len x.t.t.cap, .int .i64 x.t.t.n, .int .i64 x.t.t.s] := (Box.new w #[.slice x.v.a x.v.len x.v.cap, .int .i64 x.t.t.k, .slice x.t.t.a x.t.t.len x.t.t.cap, .int .i64 x.t.t.n, .int .i64 x.t.t.s] 57 (0, 0)).below hb1
  have y0 := hx.2 0 _ rfl
  have y1 := hx.2 1 _ rfl
  have y2 := hx.2 2 _ rfl
  have y3 := hx.2 3 _ rfl
  have y4 := hx.2 4 _ rfl
  clear hb1 hx
  cases q1 with
  | true =>
    have HNE : Hid (x.v.b ≠ []) := hq1.1 rfl
    clear hq1 HMS
    cases hnm : nameOk x.v.b with
    | false =>
      have HNO : Hid (¬ itOk x 0) := fun hh => by
        rcases hh with hh | hh
        · have h := hh.2.1
          rw [hnm] at h
          cases h
        · exact HNE.out hh.1
      have IN := HIN.out w1 HB1.out
      rw [hnm] at IN
      clear hnm
      go_wp2_with fail
      refine IN.mono ?_
      rintro e w2 ⟨rfl, h2⟩
      subst w2
      clear IN
      go_wp2_with fail
      go_ret
      exact Tells.no HNO.out HB1.out
    | true =>
      have HNM : Hid (nameOk x.v.b = true) := hnm
      have IN := HIN.out w1 HB1.out
      rw [hnm] at IN
      clear hnm
      go_wp2_with fail
      refine IN.mono ?_
      rintro e w2 ⟨rfl, h2⟩
      subst w2
      clear IN
      go_wp2_with fail
      refine (HZ.out w1 HB1.out).mono ?_
      rintro e w3 ⟨q3, rfl, hq3, hb3⟩
      have HE : Hid (q3 = true ↔ itOk x 0) := (show (q3 = true ↔ itOk x 0) from hq3.trans ⟨fun hh => Or.inl ⟨HNE.out, HNM.out, hh⟩, fun hh => by
        rcases hh with hh | hh
        · exact hh.2.2
        · exact absurd hh.1 HNE.out⟩)
      have HB3 : Hid (Below w.heap.size w w3) := bl_trans HB1.out hb3
      clear hq3 hb3 y0 y1 y2 y3 y4
      go_wp2_with fail
      go_ret
      exact Tells.of HE.out HB3.out
  | false =>
    have HNE : Hid (x.v.b = []) := (show x.v.b = [] from Classical.byContradiction fun hh => by have h := hq1.2 hh; cases h)
    clear hq1 HZ HIN
    go_wp2_with fail
    refine (HMS.out w1 HB1.out).mono ?_
    rintro e w3 ⟨q3, rfl, hq3, hb3⟩
    have HE : Hid (q3 = true ↔ itOk x 0) := (show (q3 = true ↔ itOk x 0) from hq3.trans ⟨fun hh => Or.inr ⟨HNE.out, hh.1, hh.2⟩, fun hh => by
      rcases hh with hh | hh
      · exact absurd HNE.out hh.1
      · exact hh.2⟩)
    have HB3 : Hid (Below w.heap.size w w3) := bl_trans HB1.out hb3
    clear hq3 hb3 y0 y1 y2 y3 y4
    go_wp2_with fail
    go_ret
    exact Tells.of HE.out HB3.out
set_option maxHeartbeats 1000000 in
theorem itemOkO (x : IB) (w : World) (h : x.lies 0 w) : Calls Try.prog 96 #[.agg #[.slice x.v.a x.v.len x.v.cap, .int .i64 x.t.t.k, .slice x.t.t.a x.t.t.len x.t.t.cap, .int .i64 x.t.t.n, .int .i64 x.t.t.s], .func (.func 99) #[] #[]] w (Tells (itOk x 3) w) := by
  have HIV : Hid (∀ W, Below w.heap.size w W → Calls Try.prog 111 #[.agg #[.slice x.v.a x.v.len x.v.cap, .int .i64 x.t.t.k, .slice x.t.t.a x.t.t.len x.t.t.cap, .int .i64 x.t.t.n, .int .i64 x.t.t.s]] W (Tells (x.v.b ≠ []) W)) := fun W hb => isVar_any x W ⟨h.1.upper (Upper.of_below hb), h.2.1.upper (Upper.of_below hb), h.2.2⟩
  have HIN : Hid (∀ W, Below w.heap.size w W → Calls Try.prog 86 #[.slice x.v.a x.v.len x.v.cap] W fun e w' => e = .returned (.bool (nameOk x.v.b)) ∧ w' = W) := fun W hb => isName_any x.v.a x.v.len x.v.cap x.v.b W (h.1.upper (Upper.of_below hb)).1
  have HZ : Hid (∀ W, Below w.heap.size w W → Calls Try.prog 112 #[.agg #[.int .i64 x.t.t.k, .slice x.t.t.a x.t.t.len x.t.t.cap, .int .i64 x.t.t.n, .int .i64 x.t.t.s]] W (Tells (zeroT x.t.td) W)) := fun W hb => isZeroT_any x.t W (h.2.1.upper (Upper.of_below hb))
  have HMS : Hid (∀ W, Below w.heap.size w W → Calls Try.prog 99 #[.agg #[.int .i64 x.t.t.k, .slice x.t.t.a x.t.t.len x.t.t.cap, .int .i64 x.t.t.n, .int .i64 x.t.t.s]] W (Tells (x.t.td.ok = true ∧ x.t.t.k ≤ 3) W)) := fun W hb => (implTermOk_any x.t.t.k x.t.t.n x.t.t.s x.t.t.a x.t.t.len x.t.t.cap x.t.b W (h.2.1.upper (Upper.of_below hb)).1 h.2.2.1 h.2.2.2.1 h.2.2.2.2.1 h.2.2.2.2.2).mono fun e w' ⟨h1, h2⟩ => ⟨_, h1, ⟨fun hh => ⟨hh, (ok_kind (x := x.t.td) hh).2⟩, fun hh => hh.1⟩, h2⟩
  clear h
  go_enter Try.func96, Try.ntmps96
  go_wp2_with fail
  refine (HIV.out _ (bl_a _)).mono ?_
  rintro e w1 ⟨q1, rfl, hq1, hb1⟩
  have HB1 : Hid (Below w.heap.size w w1) := bl_trans (bl_a _) hb1
  have hx : Box w1 w.heap.size [.slice x.v.a x.v.len x.v.cap, .int .i64 x.t.t.k, .slice x.t.t.a x.t.t.len x.t.t.cap, .int .i64 x.t.t.n, .int .i64 x.t.t.s] := (Box.new w #[.slice x.v.a x.v.len x.v.cap, .int .i64 x.t.t.k, .slice x.t.t.a x.t.t.len x.t.t.cap, .int .i64 x.t.t.n, .int .i64 x.t.t.s] 57 (0, 0)).below hb1
  have y0 := hx.2 0 _ rfl
  have y1 := hx.2 1 _ rfl
  have y2 := hx.2 2 _ rfl
  have y3 := hx.2 3 _ rfl
  have y4 := hx.2 4 _ rfl
  clear hb1 hx
  cases q1 with
  | true =>
    have HNE : Hid (x.v.b ≠ []) := hq1.1 rfl
    clear hq1 HMS
    cases hnm : nameOk x.v.b with
    | false =>
      have HNO : Hid (¬ itOk x 3) := fun hh => by
        rcases hh with hh | hh
        · have h := hh.2.1
          rw [hnm] at h
          cases h
        · exact HNE.out hh.1
      have IN := HIN.out w1 HB1.out
      rw [hnm] at IN
      clear hnm
      go_wp2_with fail
      refine IN.mono ?_
      rintro e w2 ⟨rfl, h2⟩
      subst w2
      clear IN
      go_wp2_with fail
      go_ret
      exact Tells.no HNO.out HB1.out
    | true =>
      have HNM : Hid (nameOk x.v.b = true) := hnm
      have IN := HIN.out w1 HB1.out
      rw [hnm] at IN
      clear hnm
      go_wp2_with fail
      refine IN.mono ?_
      rintro e w2 ⟨rfl, h2⟩
      subst w2
      clear IN
      go_wp2_with fail
      refine (HZ.out w1 HB1.out).mono ?_
      rintro e w3 ⟨q3, rfl, hq3, hb3⟩
      have HE : Hid (q3 = true ↔ itOk x 3) := (show (q3 = true ↔ itOk x 3) from hq3.trans ⟨fun hh => Or.inl ⟨HNE.out, HNM.out, hh⟩, fun hh => by
        rcases hh with hh | hh
        · exact hh.2.2
        · exact absurd hh.1 HNE.out⟩)
      have HB3 : Hid (Below w.heap.size w w3) := bl_trans HB1.out hb3
      clear hq3 hb3 y0 y1 y2 y3 y4
      go_wp2_with fail
      go_ret
      exact Tells.of HE.out HB3.out
  | false =>
    have HNE : Hid (x.v.b = []) := (show x.v.b = [] from Classical.byContradiction fun hh => by have h := hq1.2 hh; cases h)
    clear hq1 HZ HIN
    go_wp2_with fail
    refine (HMS.out w1 HB1.out).mono ?_
    rintro e w3 ⟨q3, rfl, hq3, hb3⟩
    have HE : Hid (q3 = true ↔ itOk x 3) := (show (q3 = true ↔ itOk x 3) from hq3.trans ⟨fun hh => Or.inr ⟨HNE.out, hh.1, hh.2⟩, fun hh => by
      rcases hh with hh | hh
      · exact absurd HNE.out hh.1
      · exact hh.2⟩)
    have HB3 : Hid (Below w.heap.size w w3) := bl_trans HB1.out hb3
    clear hq3 hb3 y0 y1 y2 y3 y4
    go_wp2_with fail
    go_ret
    exact Tells.of HE.out HB3.out
set_option maxHeartbeats 1000000 in
theorem patOk_any (x : PB) (w : World) (h : x.lies 0 w) : Calls Try.prog 85 #[.agg #[.slice x.s.v.a x.s.v.len x.s.v.cap, .int .i64 x.s.t.t.k, .slice x.s.t.t.a x.s.t.t.len x.s.t.t.cap, .int .i64 x.s.t.t.n, .int .i64 x.s.t.t.s, .slice x.p.v.a x.p.v.len x.p.v.cap, .int .i64 x.p.t.t.k, .slice x.p.t.t.a x.p.t.t.len x.p.t.t.cap, .int .i64 x.p.t.t.n, .int .i64 x.p.t.t.s, .slice x.o.v.a x.o.v.len x.o.v.cap, .int .i64 x.o.t.t.k, .slice x.o.t.t.a x.o.t.t.len x.o.t.t.cap, .int .i64 x.o.t.t.n, .int .i64 x.o.t.t.s]] w (Tells (ptOk x) w) := by
  have HI1 : Hid (∀ W, Below w.heap.size w W → Calls Try.prog 96 #[.agg #[.slice x.s.v.a x.s.v.len x.s.v.cap, .int .i64 x.s.t.t.k, .slice x.s.t.t.a x.s.t.t.len x.s.t.t.cap, .int .i64 x.s.t.t.n, .int .i64 x.s.t.t.s], .func (.func 97) #[] #[]] W (Tells (itOk x.s 1) W)) := fun W hb => itemOkS x.s W (h.1.upper (Upper.of_below hb))
  have HI2 : Hid (∀ W, Below w.heap.size w W → Calls Try.prog 96 #[.agg #[.slice x.p.v.a x.p.v.len x.p.v.cap, .int .i64 x.p.t.t.k, .slice x.p.t.t.a x.p.t.t.len x.p.t.t.cap, .int .i64 x.p.t.t.n, .int .i64 x.p.t.t.s], .func (.func 98) #[] #[]] W (Tells (itOk x.p 0) W)) := fun W hb => itemOkP x.p W (h.2.1.upper (Upper.of_below hb))
  have HI3 : Hid (∀ W, Below w.heap.size w W → Calls Try.prog 96 #[.agg #[.slice x.o.v.a x.o.v.len x.o.v.cap, .int .i64 x.o.t.t.k, .slice x.o.t.t.a x.o.t.t.len x.o.t.t.cap, .int .i64 x.o.t.t.n, .int .i64 x.o.t.t.s], .func (.func 99) #[] #[]] W (Tells (itOk x.o 3) W)) := fun W hb => itemOkO x.o W (h.2.2.upper (Upper.of_below hb))
  clear h
  go_enter Try.func85, Try.ntmps85
  go_wp2_with fail
  refine (HI1.out _ (bl_a _)).mono ?_
  rintro e w1 ⟨q1, rfl, hq1, hb1⟩
  have HB1 : Hid (Below w.heap.size w w1) := bl_trans (bl_a _) hb1
  have HX1 : Hid (Box w1 w.heap.size [.slice x.s.v.a x.s.v.len x.s.v.cap, .int .i64 x.s.t.t.k, .slice x.s.t.t.a x.s.t.t.len x.s.t.t.cap, .int .i64 x.s.t.t.n, .int .i64 x.s.t.t.s, .slice x.p.v.a x.p.v.len x.p.v.cap, .int .i64 x.p.t.t.k, .slice x.p.t.t.a x.p.t.t.len x.p.t.t.cap, .int .i64 x.p.t.t.n, .int .i64 x.p.t.t.s, .slice x.o.v.a x.o.v.len x.o.v.cap, .int .i64 x.o.t.t.k, .slice x.o.t.t.a x.o.t.t.len x.o.t.t.cap, .int .i64 x.o.t.t.n, .int .i64 x.o.t.t.s]) := (Box.new w #[.slice x.s.v.a x.s.v.len x.s.v.cap, .int .i64 x.s.t.t.k, .slice x.s.t.t.a x.s.t.t.len x.s.t.t.cap, .int .i64 x.s.t.t.n, .int .i64 x.s.t.t.s, .slice x.p.v.a x.p.v.len x.p.v.cap, .int .i64 x.p.t.t.k, .slice x.p.t.t.a x.p.t.t.len x.p.t.t.cap, .int .i64 x.p.t.t.n, .int .i64 x.p.t.t.s, .slice x.o.v.a x.o.v.len x.o.v.cap, .int .i64 x.o.t.t.k, .slice x.o.t.t.a x.o.t.t.len x.o.t.t.cap, .int .i64 x.o.t.t.n, .int .i64 x.o.t.t.s] 59 (0, 0)).below hb1
  clear hb1 HI1
  cases q1 with
  | false =>
    have HNO : Hid (¬ ptOk x) := fun hh => by have h := hq1.2 hh.1; cases h
    clear hq1
    go_wp2_with fail
    go_ret
    exact Tells.no HNO.out HB1.out
  | true =>
    have HO1 : Hid (itOk x.s 1) := hq1.1 rfl
    clear hq1
    have y5 := HX1.out.2 5 _ rfl
    have y6 := HX1.out.2 6 _ rfl
    have y7 := HX1.out.2 7 _ rfl
    have y8 := HX1.out.2 8 _ rfl
    have y9 := HX1.out.2 9 _ rfl
    go_wp2_with fail
    refine (HI2.out w1 HB1.out).mono ?_
    rintro e w2 ⟨q2, rfl, hq2, hb2⟩
    have HB2 : Hid (Below w.heap.size w w2) := bl_trans HB1.out hb2
    have HX2 : Hid (Box w2 w.heap.size [.slice x.s.v.a x.s.v.len x.s.v.cap, .int .i64 x.s.t.t.k, .slice x.s.t.t.a x.s.t.t.len x.s.t.t.cap, .int .i64 x.s.t.t.n, .int .i64 x.s.t.t.s, .slice x.p.v.a x.p.v.len x.p.v.cap, .int .i64 x.p.t.t.k, .slice x.p.t.t.a x.p.t.t.len x.p.t.t.cap, .int .i64 x.p.t.t.n, .int .i64 x.p.t.t.s, .slice x.o.v.a x.o.v.len x.o.v.cap, .int .i64 x.o.t.t.k, .slice x.o.t.t.a x.o.t.t.len x.o.t.t.cap, .int .i64 x.o.t.t.n, .int .i64 x.o.t.t.s]) := HX1.out.below hb2
    clear hb2 HI2 HX1 y5 y6 y7 y8 y9
    cases q2 with
    | false =>
      have HNO : Hid (¬ ptOk x) := fun hh => by have h := hq2.2 hh.2.1; cases h
      clear hq2
      go_wp2_with fail
      go_ret
      exact Tells.no HNO.out HB2.out
    | true =>
      have HO2 : Hid (itOk x.p 0) := hq2.1 rfl
      clear hq2
      have y10 := HX2.out.2 10 _ rfl
      have y11 := HX2.out.2 11 _ rfl
      have y12 := HX2.out.2 12 _ rfl
      have y13 := HX2.out.2 13 _ rfl
      have y14 := HX2.out.2 14 _ rfl
      go_wp2_with fail
      refine (HI3.out w2 HB2.out).mono ?_
      rintro e w3 ⟨q3, rfl, hq3, hb3⟩
      have HB3 : Hid (Below w.heap.size w w3) := bl_trans HB2.out hb3
      have HE : Hid (q3 = true ↔ ptOk x) := (show (q3 = true ↔ ptOk x) from hq3.trans ⟨fun hh => ⟨HO1.out, HO2.out, hh⟩, fun hh => hh.2.2⟩)
      clear hb3 hq3 y10 y11 y12 y13 y14
      go_wp2_with fail
      go_ret
      exact Tells.of HE.out HB3.out
end Go.Proofs.Ytpgbhkkdbkecoaa

/- TreT -/
namespace Go.Proofs.Ytpgbhkkdbkecoaa
open Go.RowKit Go.Deep
set_option maxRecDepth 100000

/-- What IndexFunc answers: -1 exactly if P. -/
def IdxAns (P : Prop) (w : World) (e : Ending) (w' : World) : Prop := ∃ v : Int, e = .returned (.int .i64 v) ∧ (0 ≤ v ↔ ¬ P) ∧ Below w.heap.size w w'
theorem IdxAns.of {P : Prop} {v : Int} {w w' : World} (h : 0 ≤ v ↔ ¬ P) (hb : Below w.heap.size w w') : IdxAns P w (.returned (.int .i64 v)) w' := ⟨v, rfl, h, hb⟩
set_option maxHeartbeats 1000000 in
theorem noTerm_any (x : TB) (w : World) (h : BsF 0 w x.sl ∧ x.t.fits) : Calls Try.prog 103 #[.agg #[.int .i64 x.t.k, .slice x.t.a x.t.len x.t.cap, .int .i64 x.t.n, .int .i64 x.t.s]] w (Tells (¬ x.td.ok = true) w) := by
  have HP : Hid (∀ W, Below w.heap.size w W → Calls Try.prog 99 #[.agg #[.int .i64 x.t.k, .slice x.t.a x.t.len x.t.cap, .int .i64 x.t.n, .int .i64 x.t.s]] W (Tells (x.td.ok = true) W)) := fun W hb => (implTermOk_any x.t.k x.t.n x.t.s x.t.a x.t.len x.t.cap x.b W (h.1.upper (Upper.of_below hb)).1 h.2.1 h.2.2.1 h.2.2.2.1 h.2.2.2.2).mono fun e w' ⟨h1, h2⟩ => ⟨_, h1, Iff.rfl, h2⟩
  clear h
  go_enter Try.func103, Try.ntmps103
  go_wp2_with fail
  refine (HP.out _ (bl_a _)).mono ?_
  rintro e w1 ⟨q1, rfl, hq1, hb1⟩
  have HB : Hid (Below w.heap.size w w1) := bl_trans (bl_a _) hb1
  have HE : Hid ((!q1) = true ↔ ¬ x.td.ok = true) := (show ((!q1) = true ↔ _) by
    rw [← hq1]
    cases q1 <;> simp)
  clear hq1 hb1 HP
  go_wp2_with fail
  go_ret
  exact Tells.of HE.out HB.out
set_option maxHeartbeats 4000000 in
theorem indexTerm_any (a : Option Addr) (n cap : Nat) (f : Nat → TB) (w : World) (hn : n ≤ 1048576) (hR : KRow 0 w 4 a n (fun i => enc4 (f i).t)) (hk : ∀ i, i < n → BsF 0 w (f i).sl ∧ (f i).t.fits) :
    Calls Try.prog 116 #[.slice a n cap, .func (.func 103) #[] #[]] w (IdxAns (∀ i, i < n → (f i).td.ok = true) w) := by
  have HNP : Hid (∀ i, i < n → ∀ W, Below w.heap.size w W → Calls Try.prog 103 #[.agg #[.int .i64 (f i).t.k, .slice (f i).t.a (f i).t.len (f i).t.cap, .int .i64 (f i).t.n, .int .i64 (f i).t.s]] W (Tells (¬ (f i).td.ok = true) W)) := fun i hi W hb => noTerm_any (f i) W (⟨(hk i hi).1.upper (Upper.of_below hb), (hk i hi).2⟩)
  by_cases hn1 : n = 0
  · subst hn1
    clear hR hk
    go_enter Try.func116, Try.ntmps116
    go_wp2_with fail
    go_loopw [8] (fun i wr => i = .int .i64 0 ∧ Hid (Below w.heap.size w wr)) (fun _ _ => 0)
    case atStart => exact ⟨rfl, Below.refl _ _⟩
    case round =>
      obtain ⟨rfl, HB⟩ := hrel
      go_wp2_with fail
      go_ret
      exact IdxAns.of ⟨fun h => absurd h (by decide), fun h => absurd (fun i hi => absurd hi (Nat.not_lt_zero _)) h⟩ HB.out
  obtain ⟨b, off, rfl, _, hbk, hck⟩ := hR.resolve_left hn1
  have HCK : Hid (∀ i, i < n → ∀ c u, (enc4 (f i).t)[c]? = some u → w.cell? ⟨b, off + i * 4 + c, none⟩ = some u) := hck
  clear hck hR hk hn1
  go_enter Try.func116, Try.ntmps116
  go_wp2_with fail
  go_loopw [8] (fun i wr => ∃ k : Nat, k ≤ n ∧ i = .int .i64 k ∧ Hid (∀ j, j < k → (f j).td.ok = true) ∧ Hid (Below w.heap.size w wr)) (fun i _ => n - (intOf i).toNat)
  case atStart => exact ⟨0, Nat.zero_le _, rfl, fun j hj => absurd hj (Nat.not_lt_zero _), Below.refl _ _⟩
  case round =>
    obtain ⟨k, hk, rfl, HOK, HB⟩ := hrel
    by_cases hlk : k < n
    rotate_left
    · obtain rfl : k = n := by omega
      have hlkz : ¬ (k : Int) < (k : Int) := by omega
      go_wp2_with fail
      go_ret
      exact IdxAns.of ⟨fun h => absurd h (by decide), fun h => absurd HOK.out h⟩ HB.out
    have hlkz : (k : Int) < (n : Int) := by omega
    have hcx : wr.rangeAt b (off + k * 4) [.int .i64 (f k).t.k, .slice (f k).t.a (f k).t.len (f k).t.cap, .int .i64 (f k).t.n, .int .i64 (f k).t.s] := fun c u hu => (HB.out.cell (p := ⟨b, off + k * 4 + c, none⟩) hbk).trans (HCK.out k hlk c u hu)
    go_wp2_with (with_reducible refine wpl_at ?_; refine wpList_load_mid rfl 36 _ rfl _ _ rfl [.int .i64 (f k).t.k, .slice (f k).t.a (f k).t.len (f k).t.cap, .int .i64 (f k).t.n, .int .i64 (f k).t.s] _ hcx Try.underlying36 rfl (by kernel_rfl) ?_; try simp only [Act.put, List.setIfInBounds_toArray, List.set_cons_zero, List.set_cons_succ])
    refine (HNP.out k hlk wr HB.out).mono ?_
    rintro e w1 ⟨q1, rfl, hq1, hb1⟩
    have HB1 : Hid (Below w.heap.size w w1) := bl_trans HB.out hb1
    clear hb1 hcx HB
    cases q1 with
    | true =>
      have HNO : Hid (¬ (f k).td.ok = true) := hq1.1 rfl
      clear hq1
      go_wp2_with fail
      go_ret
      exact IdxAns.of ⟨fun _ h => HNO.out (h k hlk), fun _ => by omega⟩ HB1.out
    | false =>
      have HYE : Hid ((f k).td.ok = true) := (show (f k).td.ok = true from Classical.byContradiction fun hh => by have h := hq1.2 hh; cases h)
      clear hq1
      go_wp2_with fail
      go_roundw
      case rel =>
        refine ⟨k + 1, by omega, by go_num, fun j hj => ?_, HB1⟩
        by_cases e : j = k
        · subst e
          exact HYE.out
        · exact HOK.out j (by omega)
      case measure => simp [intOf]; omega
theorem containsTerm_any (a : Option Addr) (n cap : Nat) (f : Nat → TB) (w : World) (hn : n ≤ 1048576) (hR : KRow 0 w 4 a n (fun i => enc4 (f i).t)) (hk : ∀ i, i < n → BsF 0 w (f i).sl ∧ (f i).t.fits) :
    Calls Try.prog 102 #[.slice a n cap, .func (.func 103) #[] #[]] w (Tells (¬ ∀ i, i < n → (f i).td.ok = true) w) := by
  have IX := indexTerm_any a n cap f w hn hR hk
  obtain ⟨P, hP⟩ : ∃ P : Prop, P = (∀ i, i < n → (f i).td.ok = true) := ⟨_, rfl⟩
  rw [← hP] at IX ⊢
  clear hP hR hk hn
  go_enter Try.func102, Try.ntmps102
  go_wp2_with fail
  refine IX.mono ?_
  rintro e w1 ⟨v, rfl, hv, hb⟩
  have HV : Hid (0 ≤ v ↔ ¬ P) := hv
  have HB : Hid (Below w.heap.size w w1) := hb
  clear IX hv hb
  go_wp2_with fail
  go_ret
  refine Tells.of ?_ HB.out
  rw [← HV.out]
  simp
theorem valuesOk_any (a : Option Addr) (n cap : Nat) (f : Nat → TB) (w : World) (hn : n ≤ 1048576) (hR : KRow 0 w 4 a n (fun i => enc4 (f i).t)) (hk : ∀ i, i < n → BsF 0 w (f i).sl ∧ (f i).t.fits) :
    Calls Try.prog 87 #[.slice a n cap] w (Tells (n ≤ 8 ∧ ∀ i, i < n → (f i).td.ok = true) w) := by
  have CN := containsTerm_any a n cap f w hn hR hk
  obtain ⟨P, hP⟩ : ∃ P : Prop, P = (∀ i, i < n → (f i).td.ok = true) := ⟨_, rfl⟩
  rw [← hP] at CN ⊢
  clear hP hR hk hn
  by_cases hl : n ≤ 8
  · have hlz : (n : Int) ≤ 8 := by omega
    have HL : Hid (n ≤ 8) := hl
    clear hl
    go_enter Try.func87, Try.ntmps87
    go_wp2_with fail
    refine CN.mono ?_
    rintro e w1 ⟨q1, rfl, hq1, hb1⟩
    have HB : Hid (Below w.heap.size w w1) := hb1
    have HE : Hid ((!q1) = true ↔ n ≤ 8 ∧ P) := (show ((!q1) = true ↔ _) by
      cases q1 with
      | true => exact ⟨fun h => (by cases h), fun h => absurd h.2 (hq1.1 rfl)⟩
      | false => exact ⟨fun _ => ⟨HL.out, Classical.byContradiction fun hh => by have h := hq1.2 hh; cases h⟩, fun _ => rfl⟩)
    clear hq1 hb1 CN
    go_wp2_with fail
    go_ret
    exact Tells.of HE.out HB.out
  · have hlz : ¬ (n : Int) ≤ 8 := by omega
    have HNO : Hid (¬ (n ≤ 8 ∧ P)) := fun hh => hl hh.1
    clear hl CN
    go_enter Try.func87, Try.ntmps87
    go_wp2_with fail
    go_ret
    exact Tells.no HNO.out (Below.refl _ _)
end Go.Proofs.Ytpgbhkkdbkecoaa

/- TreU -/
namespace Go.Proofs.Ytpgbhkkdbkecoaa
open Go.RowKit Go.Deep
set_option maxRecDepth 100000

/-- An operation that has nothing but its kind and its Kids. -/
def BareA (d : AN) : Prop := d.pn = 0 ∧ zeroE d.e ∧ d.v.b = [] ∧ d.tb = []
theorem BareA.mk {d : AN} (h1 : d.pn = 0) (h2 : zeroE d.e) (h3 : d.v.b = []) (h4 : d.tb = []) : BareA d := And.intro h1 (And.intro h2 (And.intro h3 h4))
def ET0 : ET := .mk ⟨0, 0, ⟨none, 0, 0, []⟩, ⟨⟨0, none, 0, 0, 0, 0⟩, []⟩, none, 0, 0⟩ (fun _ => .nil)
theorem ET0_lies (w : World) : ET0.lies 0 w := ⟨bs_nil w, bs_nil w, ⟨by decide, by decide, by decide, by decide⟩, Nat.zero_le _, .inl rfl, fun i hi => absurd hi (Nat.not_lt_zero _)⟩
theorem ET0_zero : zeroE ET0 := ⟨rfl, rfl, rfl, zeroT0, rfl⟩
end Go.Proofs.Ytpgbhkkdbkecoaa

/- TreV -/
namespace Go.Proofs.Ytpgbhkkdbkecoaa
open Go.RowKit Go.Deep
set_option maxRecDepth 100000

/-- What an operation's own cells must be, its expression aside. -/
structure HasA (d : AN) : Prop where
  k0 : 0 ≤ d.k
  k7 : d.k ≤ 7
  n : d.n = kidsA d.k
  p0 : d.k ≠ 0 → d.pn = 0
  pn : d.pn ≤ 120
  t0 : d.k ≠ 7 → d.tb = []
  tn : d.tb.length ≤ 8
  e0 : ¬ hasE d.k → zeroE d.e
  v1 : hasV d.k → nameOk d.v.b = true
  v0 : ¬ hasV d.k → d.v.b = []
  pt : ∀ i, i < d.pn → ptOk (d.pat i)
  tm : ∀ x ∈ d.tb, x.td.ok = true
theorem HasA.node {d : AN} : NodeA d ↔ HasA d ∧ (hasE d.k → eOk 120 d.e 1) :=
  ⟨fun h => ⟨⟨h.k0, h.k7, h.n, h.p0, h.pn, h.t0, h.tn, h.e0, h.v1, h.v0, h.pt, h.tm⟩, h.e1⟩, fun h => ⟨h.1.k0, h.1.k7, h.1.n, h.1.p0, h.1.pn, h.1.t0, h.1.tn, h.2, h.1.e0, h.1.v1, h.1.v0, h.1.pt, h.1.tm⟩⟩
theorem tb_all {l : List TB} : (∀ i, i < l.length → (tbG l i).td.ok = true) ↔ ∀ x ∈ l, x.td.ok = true := by
  constructor
  · intro h x hx
    obtain ⟨i, hi, rfl⟩ := List.getElem_of_mem hx
    have := h i hi
    rwa [(tbG_at hi).1] at this
  · intro h i hi
    rw [(tbG_at hi).1]
    exact h _ (tbG_at hi).2
theorem tb_lies {w : World} {a : Option Addr} {l : List TB} (h : TRowF 0 w a l) : ∀ i, i < l.length → BsF 0 w (tbG l i).sl ∧ (tbG l i).t.fits := fun i hi => by
  rw [(tbG_at hi).1]
  exact h.2.2 _ (tbG_at hi).2
end Go.Proofs.Ytpgbhkkdbkecoaa
