/- Texts put together: TrxE TrxF -/
import Derived.Test.YtpgbhkkdbkecoaaNk25
import Derived.Test.YtpgbhkkdbkecoaaNk28
/- TrxE -/
namespace Go.Proofs.Ytpgbhkkdbkecoaa
open Go.RowKit Go.Deep
set_option maxRecDepth 100000

/-- The walk stops at a load of that type. -/
theorem wpq_stop {P : Program} {ops : Array Oper} {rest : List Oper} {op : Oper} {a : Act} {w : World} {Q : Exit → Act → World → Prop} (ty : TypeId) (x : Operand) (_ : op.op = .load ty x) (h : Hid (wpList P ops Q (op :: rest) a w)) : wpList P ops Q (op :: rest) a w := h
theorem isZeroI_any (x : IB) (w : World) (h : x.lies 0 w) : Calls Try.prog 117 #[.agg #[.slice x.v.a x.v.len x.v.cap, .int .i64 x.t.t.k, .slice x.t.t.a x.t.t.len x.t.t.cap, .int .i64 x.t.t.n, .int .i64 x.t.t.s]] w (Tells (zeroI x) w) := by
  have HL : Hid (x.v.b = [] ↔ x.v.len = 0) := nil_len h.1.1.1
  have HZ : Hid (∀ W, Below w.heap.size w W → Calls Try.prog 112 #[.agg #[.int .i64 x.t.t.k, .slice x.t.t.a x.t.t.len x.t.t.cap, .int .i64 x.t.t.n, .int .i64 x.t.t.s]] W (Tells (zeroT x.t.td) W)) := fun W hb => isZeroT_any x.t W (h.2.1.upper (Upper.of_below hb))
  obtain ⟨P, hP⟩ : ∃ P, P = zeroI x := ⟨_, rfl⟩
  have HP : Hid (P ↔ (x.v.b = [] ∧ zeroT x.t.td)) := (show (P ↔ _) by rw [hP]; exact Iff.rfl)
  rw [← hP]
  clear h hP
  by_cases h2 : x.v.len = 0
  rotate_left
  · go_enter Try.func117, Try.ntmps117
    go_wp2
    go_ret
    exact Tells.no (fun hp => h2 (HL.out.1 (HP.out.1 hp).1)) (bl_a _)
  have H3 : Hid (x.v.b = []) := HL.out.2 h2
  have Z := HZ.out
  go_enter Try.func117, Try.ntmps117
  go_wp2_with fail
  refine (Z _ (bl_a _)).mono ?_
  rintro e w1 ⟨q1, rfl, hq1, hb1⟩
  have HQ : Hid (q1 = true ↔ P) := (show (q1 = true ↔ P) from hq1.trans ⟨fun h => HP.out.2 ⟨H3.out, h⟩, fun h => (HP.out.1 h).2⟩)
  have HB : Hid (Below w.heap.size w w1) := bl_trans (bl_a _) hb1
  clear Z hq1 hb1
  go_wp2_with fail
  go_ret
  exact Tells.of HQ.out HB.out
set_option maxHeartbeats 2000000 in
theorem isZeroP_any (x : PB) (w : World) (h : x.lies 0 w) : Calls Try.prog 104 #[.agg #[.slice x.s.v.a x.s.v.len x.s.v.cap, .int .i64 x.s.t.t.k, .slice x.s.t.t.a x.s.t.t.len x.s.t.t.cap, .int .i64 x.s.t.t.n, .int .i64 x.s.t.t.s, .slice x.p.v.a x.p.v.len x.p.v.cap, .int .i64 x.p.t.t.k, .slice x.p.t.t.a x.p.t.t.len x.p.t.t.cap, .int .i64 x.p.t.t.n, .int .i64 x.p.t.t.s, .slice x.o.v.a x.o.v.len x.o.v.cap, .int .i64 x.o.t.t.k, .slice x.o.t.t.a x.o.t.t.len x.o.t.t.cap, .int .i64 x.o.t.t.n, .int .i64 x.o.t.t.s]] w (Tells (zeroP x) w) := by
  have HZ1 : Hid (∀ W, Below w.heap.size w W → Calls Try.prog 117 #[.agg #[.slice x.s.v.a x.s.v.len x.s.v.cap, .int .i64 x.s.t.t.k, .slice x.s.t.t.a x.s.t.t.len x.s.t.t.cap, .int .i64 x.s.t.t.n, .int .i64 x.s.t.t.s]] W (Tells (zeroI x.s) W)) := fun W hb => isZeroI_any x.s W (h.1.upper (Upper.of_below hb))
  have HZ2 : Hid (∀ W, Below w.heap.size w W → Calls Try.prog 117 #[.agg #[.slice x.p.v.a x.p.v.len x.p.v.cap, .int .i64 x.p.t.t.k, .slice x.p.t.t.a x.p.t.t.len x.p.t.t.cap, .int .i64 x.p.t.t.n, .int .i64 x.p.t.t.s]] W (Tells (zeroI x.p) W)) := fun W hb => isZeroI_any x.p W (h.2.1.upper (Upper.of_below hb))
  have HZ3 : Hid (∀ W, Below w.heap.size w W → Calls Try.prog 117 #[.agg #[.slice x.o.v.a x.o.v.len x.o.v.cap, .int .i64 x.o.t.t.k, .slice x.o.t.t.a x.o.t.t.len x.o.t.t.cap, .int .i64 x.o.t.t.n, .int .i64 x.o.t.t.s]] W (Tells (zeroI x.o) W)) := fun W hb => isZeroI_any x.o W (h.2.2.upper (Upper.of_below hb))
  obtain ⟨P, hP⟩ : ∃ P, P = zeroP x := ⟨_, rfl⟩
  have HP : Hid (P ↔ (zeroI x.s ∧ zeroI x.p ∧ zeroI x.o)) := (show (P ↔ _) by rw [hP]; exact Iff.rfl)
  rw [← hP]
  clear h hP
  go_enter Try.func104, Try.ntmps104
  go_wp2_with fail
  refine (HZ1.out _ (bl_a _)).mono ?_
  rintro e w1 ⟨q1, rfl, hq1, hb1⟩
  have HX : Hid (Box w1 w.heap.size [.slice x.s.v.a x.s.v.len x.s.v.cap, .int .i64 x.s.t.t.k, .slice x.s.t.t.a x.s.t.t.len x.s.t.t.cap, .int .i64 x.s.t.t.n, .int .i64 x.s.t.t.s, .slice x.p.v.a x.p.v.len x.p.v.cap, .int .i64 x.p.t.t.k, .slice x.p.t.t.a x.p.t.t.len x.p.t.t.cap, .int .i64 x.p.t.t.n, .int .i64 x.p.t.t.s, .slice x.o.v.a x.o.v.len x.o.v.cap, .int .i64 x.o.t.t.k, .slice x.o.t.t.a x.o.t.t.len x.o.t.t.cap, .int .i64 x.o.t.t.n, .int .i64 x.o.t.t.s]) := (Box.new w #[.slice x.s.v.a x.s.v.len x.s.v.cap, .int .i64 x.s.t.t.k, .slice x.s.t.t.a x.s.t.t.len x.s.t.t.cap, .int .i64 x.s.t.t.n, .int .i64 x.s.t.t.s, .slice x.p.v.a x.p.v.len x.p.v.cap, .int .i64 x.p.t.t.k, .slice x.p.t.t.a x.p.t.t.len x.p.t.t.cap, .int .i64 x.p.t.t.n, .int .i64 x.p.t.t.s, .slice x.o.v.a x.o.v.len x.o.v.cap, .int .i64 x.o.t.t.k, .slice x.o.t.t.a x.o.t.t.len x.o.t.t.cap, .int .i64 x.o.t.t.n, .int .i64 x.o.t.t.s] 59 (0, 0)).below hb1
  have HB1 : Hid (Below w.heap.size w w1) := bl_trans (bl_a _) hb1
  clear hb1 HZ1
  cases q1 with
  | false =>
    have HNO : Hid (¬ P) := fun hh => by have h := hq1.2 (HP.out.1 hh).1; cases h
    clear hq1
    go_wp2_with fail
    go_ret
    exact Tells.no HNO.out HB1.out
  | true =>
    have H1 : Hid (zeroI x.s) := hq1.1 rfl
    have lr : w1.rangeAt w.heap.size 5 [.slice x.p.v.a x.p.v.len x.p.v.cap, .int .i64 x.p.t.t.k, .slice x.p.t.t.a x.p.t.t.len x.p.t.t.cap, .int .i64 x.p.t.t.n, .int .i64 x.p.t.t.s] := HX.out.range 5 _ rfl
    clear hq1
    go_wp2_with (with_reducible refine wpq_at ?_; refine wpq_stop 57 _ rfl ?_)
    change wpList _ _ _ _ _ _
    refine wpq_load ?hw 57 _ rfl w.heap.size 5 rfl [.slice x.p.v.a x.p.v.len x.p.v.cap, .int .i64 x.p.t.t.k, .slice x.p.t.t.a x.p.t.t.len x.p.t.t.cap, .int .i64 x.p.t.t.n, .int .i64 x.p.t.t.s] _ lr Try.underlying57 rfl (by kernel_rfl) ?_
    case hw => rfl
    simp only [Act.put, List.setIfInBounds_toArray, List.set_cons_zero, List.set_cons_succ]
    go_wp2_with fail
    refine (HZ2.out _ HB1.out).mono ?_
    rintro e w2 ⟨q2, rfl, hq2, hb2⟩
    have HX2 : Hid (Box w2 w.heap.size [.slice x.s.v.a x.s.v.len x.s.v.cap, .int .i64 x.s.t.t.k, .slice x.s.t.t.a x.s.t.t.len x.s.t.t.cap, .int .i64 x.s.t.t.n, .int .i64 x.s.t.t.s, .slice x.p.v.a x.p.v.len x.p.v.cap, .int .i64 x.p.t.t.k, .slice x.p.t.t.a x.p.t.t.len x.p.t.t.cap, .int .i64 x.p.t.t.n, .int .i64 x.p.t.t.s, .slice x.o.v.a x.o.v.len x.o.v.cap, .int .i64 x.o.t.t.k, .slice x.o.t.t.a x.o.t.t.len x.o.t.t.cap, .int .i64 x.o.t.t.n, .int .i64 x.o.t.t.s]) := HX.out.below hb2
    have HB2 : Hid (Below w.heap.size w w2) := bl_trans HB1.out hb2
    clear hb2 HZ2 HB1 lr HX
    cases q2 with
    | false =>
      have HNO : Hid (¬ P) := fun hh => by have h := hq2.2 (HP.out.1 hh).2.1; cases h
      clear hq2
      go_wp2_with fail
      go_ret
      exact Tells.no HNO.out HB2.out
    | true =>
      have H2 : Hid (zeroI x.p) := hq2.1 rfl
      have lr : w2.rangeAt w.heap.size 10 [.slice x.o.v.a x.o.v.len x.o.v.cap, .int .i64 x.o.t.t.k, .slice x.o.t.t.a x.o.t.t.len x.o.t.t.cap, .int .i64 x.o.t.t.n, .int .i64 x.o.t.t.s] := HX2.out.range 10 _ rfl
      clear hq2
      go_wp2_with (with_reducible refine wpq_at ?_; refine wpq_stop 57 _ rfl ?_)
      change wpList _ _ _ _ _ _
      refine wpq_load ?hw 57 _ rfl w.heap.size 10 rfl [.slice x.o.v.a x.o.v.len x.o.v.cap, .int .i64 x.o.t.t.k, .slice x.o.t.t.a x.o.t.t.len x.o.t.t.cap, .int .i64 x.o.t.t.n, .int .i64 x.o.t.t.s] _ lr Try.underlying57 rfl (by kernel_rfl) ?_
      case hw => rfl
      simp only [Act.put, List.setIfInBounds_toArray, List.set_cons_zero, List.set_cons_succ]
      go_wp2_with fail
      refine (HZ3.out _ HB2.out).mono ?_
      rintro e w3 ⟨q3, rfl, hq3, hb3⟩
      have HB3 : Hid (Below w.heap.size w w3) := bl_trans HB2.out hb3
      have HQ : Hid (q3 = true ↔ P) := (show (q3 = true ↔ P) from hq3.trans ⟨fun h => HP.out.2 ⟨H1.out, H2.out, h⟩, fun h => (HP.out.1 h).2.2⟩)
      clear hb3 hq3 lr HX2
      go_wp2_with fail
      go_ret
      exact Tells.of HQ.out HB3.out
theorem isWithin_tells (n a b : Int) (w : World) : Calls Try.prog 84 #[.int .i64 n, .int .i64 a, .int .i64 b] w (Tells (a ≤ n ∧ n ≤ b) w) := by
  obtain ⟨P, hP⟩ : ∃ P, P = (a ≤ n ∧ n ≤ b) := ⟨_, rfl⟩
  have HP : Hid (P ↔ (a ≤ n ∧ n ≤ b)) := (show (P ↔ _) by rw [hP])
  rw [← hP]
  clear hP
  by_cases h1 : a ≤ n
  · by_cases h2 : n ≤ b
    · go_enter Try.func84, Try.ntmps84
      go_wp2
      go_ret
      exact Tells.of ⟨fun _ => HP.out.2 ⟨h1, h2⟩, fun _ => by simp; try omega⟩ (Below.refl _ _)
    · go_enter Try.func84, Try.ntmps84
      go_wp2
      go_ret
      refine Tells.of ⟨fun h => ?_, fun hp => by have := (HP.out.1 hp).2; omega⟩ (Below.refl _ _)
      exfalso
      simp at h
      try omega
  · go_enter Try.func84, Try.ntmps84
    go_wp2
    go_ret
    exact Tells.no (fun hp => by have := (HP.out.1 hp).1; omega) (Below.refl _ _)
def qKids (k : Int) : Int := if k = 1 ∨ k = 2 ∨ k = 3 ∨ k = 4 then 2 else if k = 0 ∨ k = 5 ∨ k = 6 then 1 else 0
theorem planKidCount_any (k : Int) (w : World) : Calls Try.prog 83 #[.int .i64 k] w fun e w' => e = .returned (.int .i64 (qKids k)) ∧ w' = w := by
  go_enter Try.func83, Try.ntmps83
  go_wp2
  all_goals go_ret
  all_goals refine ⟨?_, rfl⟩
  all_goals (unfold qKids; simp_all)
set_option maxHeartbeats 1000000 in
theorem hasExprP_any (d : PN) (w : World) : Calls Try.prog 66 #[.agg #[.int .i64 d.k, .int .i64 d.ord, .slice d.p.s.v.a d.p.s.v.len d.p.s.v.cap, .int .i64 d.p.s.t.t.k, .slice d.p.s.t.t.a d.p.s.t.t.len d.p.s.t.t.cap, .int .i64 d.p.s.t.t.n, .int .i64 d.p.s.t.t.s, .slice d.p.p.v.a d.p.p.v.len d.p.p.v.cap, .int .i64 d.p.p.t.t.k, .slice d.p.p.t.t.a d.p.p.t.t.len d.p.p.t.t.cap, .int .i64 d.p.p.t.t.n, .int .i64 d.p.p.t.t.s, .slice d.p.o.v.a d.p.o.v.len d.p.o.v.cap, .int .i64 d.p.o.t.t.k, .slice d.p.o.t.t.a d.p.o.t.t.len d.p.o.t.t.cap, .int .i64 d.p.o.t.t.n, .int .i64 d.p.o.t.t.s, .int .i64 d.e.d.k, .int .i64 d.e.d.op, .slice d.e.d.v.a d.e.d.v.len d.e.d.v.cap, .int .i64 d.e.d.t.t.k, .slice d.e.d.t.t.a d.e.d.t.t.len d.e.d.t.t.cap, .int .i64 d.e.d.t.t.n, .int .i64 d.e.d.t.t.s, .slice d.e.d.ka d.e.d.n d.e.d.kc, .slice d.v.a d.v.len d.v.cap, .slice d.ta d.tb.length d.tc, .slice d.ka d.n d.kc]] w (Tells (hasE d.k) w) := by
  obtain ⟨P, hP⟩ : ∃ P, P = hasE d.k := ⟨_, rfl⟩
  have HP : Hid (P ↔ (d.k = 2 ∨ d.k = 5 ∨ d.k = 6)) := (show (P ↔ _) by rw [hP]; exact Iff.rfl)
  rw [← hP]
  clear hP
  have x0 : (w.alloc (.cells #[.int .i64 d.k, .int .i64 d.ord, .slice d.p.s.v.a d.p.s.v.len d.p.s.v.cap, .int .i64 d.p.s.t.t.k, .slice d.p.s.t.t.a d.p.s.t.t.len d.p.s.t.t.cap, .int .i64 d.p.s.t.t.n, .int .i64 d.p.s.t.t.s, .slice d.p.p.v.a d.p.p.v.len d.p.p.v.cap, .int .i64 d.p.p.t.t.k, .slice d.p.p.t.t.a d.p.p.t.t.len d.p.p.t.t.cap, .int .i64 d.p.p.t.t.n, .int .i64 d.p.p.t.t.s, .slice d.p.o.v.a d.p.o.v.len d.p.o.v.cap, .int .i64 d.p.o.t.t.k, .slice d.p.o.t.t.a d.p.o.t.t.len d.p.o.t.t.cap, .int .i64 d.p.o.t.t.n, .int .i64 d.p.o.t.t.s, .int .i64 d.e.d.k, .int .i64 d.e.d.op, .slice d.e.d.v.a d.e.d.v.len d.e.d.v.cap, .int .i64 d.e.d.t.t.k, .slice d.e.d.t.t.a d.e.d.t.t.len d.e.d.t.t.cap, .int .i64 d.e.d.t.t.n, .int .i64 d.e.d.t.t.s, .slice d.e.d.ka d.e.d.n d.e.d.kc, .slice d.v.a d.v.len d.v.cap, .slice d.ta d.tb.length d.tc, .slice d.ka d.n d.kc] 62)).cell? ⟨w.heap.size, 0, none⟩ = some (.int .i64 d.k) := (Box.new w #[.int .i64 d.k, .int .i64 d.ord, .slice d.p.s.v.a d.p.s.v.len d.p.s.v.cap, .int .i64 d.p.s.t.t.k, .slice d.p.s.t.t.a d.p.s.t.t.len d.p.s.t.t.cap, .int .i64 d.p.s.t.t.n, .int .i64 d.p.s.t.t.s, .slice d.p.p.v.a d.p.p.v.len d.p.p.v.cap, .int .i64 d.p.p.t.t.k, .slice d.p.p.t.t.a d.p.p.t.t.len d.p.p.t.t.cap, .int .i64 d.p.p.t.t.n, .int .i64 d.p.p.t.t.s, .slice d.p.o.v.a d.p.o.v.len d.p.o.v.cap, .int .i64 d.p.o.t.t.k, .slice d.p.o.t.t.a d.p.o.t.t.len d.p.o.t.t.cap, .int .i64 d.p.o.t.t.n, .int .i64 d.p.o.t.t.s, .int .i64 d.e.d.k, .int .i64 d.e.d.op, .slice d.e.d.v.a d.e.d.v.len d.e.d.v.cap, .int .i64 d.e.d.t.t.k, .slice d.e.d.t.t.a d.e.d.t.t.len d.e.d.t.t.cap, .int .i64 d.e.d.t.t.n, .int .i64 d.e.d.t.t.s, .slice d.e.d.ka d.e.d.n d.e.d.kc, .slice d.v.a d.v.len d.v.cap, .slice d.ta d.tb.length d.tc, .slice d.ka d.n d.kc] 62 (0, 0)).2 0 _ rfl
  have HB : Hid (Below w.heap.size w (w.alloc (.cells #[.int .i64 d.k, .int .i64 d.ord, .slice d.p.s.v.a d.p.s.v.len d.p.s.v.cap, .int .i64 d.p.s.t.t.k, .slice d.p.s.t.t.a d.p.s.t.t.len d.p.s.t.t.cap, .int .i64 d.p.s.t.t.n, .int .i64 d.p.s.t.t.s, .slice d.p.p.v.a d.p.p.v.len d.p.p.v.cap, .int .i64 d.p.p.t.t.k, .slice d.p.p.t.t.a d.p.p.t.t.len d.p.p.t.t.cap, .int .i64 d.p.p.t.t.n, .int .i64 d.p.p.t.t.s, .slice d.p.o.v.a d.p.o.v.len d.p.o.v.cap, .int .i64 d.p.o.t.t.k, .slice d.p.o.t.t.a d.p.o.t.t.len d.p.o.t.t.cap, .int .i64 d.p.o.t.t.n, .int .i64 d.p.o.t.t.s, .int .i64 d.e.d.k, .int .i64 d.e.d.op, .slice d.e.d.v.a d.e.d.v.len d.e.d.v.cap, .int .i64 d.e.d.t.t.k, .slice d.e.d.t.t.a d.e.d.t.t.len d.e.d.t.t.cap, .int .i64 d.e.d.t.t.n, .int .i64 d.e.d.t.t.s, .slice d.e.d.ka d.e.d.n d.e.d.kc, .slice d.v.a d.v.len d.v.cap, .slice d.ta d.tb.length d.tc, .slice d.ka d.n d.kc] 62))) := bl_a _
  go_enter Try.func66, Try.ntmps66
  go_upto_region 1 with fail
  generalize (w.alloc (.cells #[.int .i64 d.k, .int .i64 d.ord, .slice d.p.s.v.a d.p.s.v.len d.p.s.v.cap, .int .i64 d.p.s.t.t.k, .slice d.p.s.t.t.a d.p.s.t.t.len d.p.s.t.t.cap, .int .i64 d.p.s.t.t.n, .int .i64 d.p.s.t.t.s, .slice d.p.p.v.a d.p.p.v.len d.p.p.v.cap, .int .i64 d.p.p.t.t.k, .slice d.p.p.t.t.a d.p.p.t.t.len d.p.p.t.t.cap, .int .i64 d.p.p.t.t.n, .int .i64 d.p.p.t.t.s, .slice d.p.o.v.a d.p.o.v.len d.p.o.v.cap, .int .i64 d.p.o.t.t.k, .slice d.p.o.t.t.a d.p.o.t.t.len d.p.o.t.t.cap, .int .i64 d.p.o.t.t.n, .int .i64 d.p.o.t.t.s, .int .i64 d.e.d.k, .int .i64 d.e.d.op, .slice d.e.d.v.a d.e.d.v.len d.e.d.v.cap, .int .i64 d.e.d.t.t.k, .slice d.e.d.t.t.a d.e.d.t.t.len d.e.d.t.t.cap, .int .i64 d.e.d.t.t.n, .int .i64 d.e.d.t.t.s, .slice d.e.d.ka d.e.d.n d.e.d.kc, .slice d.v.a d.v.len d.v.cap, .slice d.ta d.tb.length d.tc, .slice d.ka d.n d.kc] 62)) = W1 at *
  by_cases h2 : d.k = 2
  · have HY : Hid P := HP.out.2 (by omega)
    go_wp2
    go_ret
    exact Tells.yes HY.out HB.out
  by_cases h5 : d.k = 5
  · have HY : Hid P := HP.out.2 (by omega)
    go_wp2
    go_ret
    exact Tells.yes HY.out HB.out
  by_cases h6 : d.k = 6
  · have HY : Hid P := HP.out.2 (by omega)
    go_wp2
    go_ret
    exact Tells.yes HY.out HB.out
  have HN : Hid (¬ P) := fun hh => by have := HP.out.1 hh; omega
  go_wp2
  go_ret
  refine Tells.of ⟨fun h => ?_, fun hp => absurd hp HN.out⟩ HB.out
  exfalso
  simp at h
  omega
/-- A plan that has nothing but its kind and its Kids. -/
def BareP (d : PN) : Prop := d.ord = 0 ∧ zeroP d.p ∧ zeroE d.e ∧ d.v.b = [] ∧ d.tb = []
theorem BareP.mk {d : PN} (h0 : d.ord = 0) (h1 : zeroP d.p) (h2 : zeroE d.e) (h3 : d.v.b = []) (h4 : d.tb = []) : BareP d := And.intro h0 (And.intro h1 (And.intro h2 (And.intro h3 h4)))
set_option maxHeartbeats 2000000 in
theorem isBareP_any (d : PN) (w : World) (hp : d.p.lies 0 w) (he : d.e.lies 0 w) (hv : BsF 0 w d.v) : Calls Try.prog 88 #[.agg #[.int .i64 d.k, .int .i64 d.ord, .slice d.p.s.v.a d.p.s.v.len d.p.s.v.cap, .int .i64 d.p.s.t.t.k, .slice d.p.s.t.t.a d.p.s.t.t.len d.p.s.t.t.cap, .int .i64 d.p.s.t.t.n, .int .i64 d.p.s.t.t.s, .slice d.p.p.v.a d.p.p.v.len d.p.p.v.cap, .int .i64 d.p.p.t.t.k, .slice d.p.p.t.t.a d.p.p.t.t.len d.p.p.t.t.cap, .int .i64 d.p.p.t.t.n, .int .i64 d.p.p.t.t.s, .slice d.p.o.v.a d.p.o.v.len d.p.o.v.cap, .int .i64 d.p.o.t.t.k, .slice d.p.o.t.t.a d.p.o.t.t.len d.p.o.t.t.cap, .int .i64 d.p.o.t.t.n, .int .i64 d.p.o.t.t.s, .int .i64 d.e.d.k, .int .i64 d.e.d.op, .slice d.e.d.v.a d.e.d.v.len d.e.d.v.cap, .int .i64 d.e.d.t.t.k, .slice d.e.d.t.t.a d.e.d.t.t.len d.e.d.t.t.cap, .int .i64 d.e.d.t.t.n, .int .i64 d.e.d.t.t.s, .slice d.e.d.ka d.e.d.n d.e.d.kc, .slice d.v.a d.v.len d.v.cap, .slice d.ta d.tb.length d.tc, .slice d.ka d.n d.kc]] w (Tells (BareP d) w) := by
  have HL : Hid (d.v.b = [] ↔ d.v.len = 0) := nil_len hv.1.1
  have HZP : Hid (∀ W, Below w.heap.size w W → Calls Try.prog 104 #[.agg #[.slice d.p.s.v.a d.p.s.v.len d.p.s.v.cap, .int .i64 d.p.s.t.t.k, .slice d.p.s.t.t.a d.p.s.t.t.len d.p.s.t.t.cap, .int .i64 d.p.s.t.t.n, .int .i64 d.p.s.t.t.s, .slice d.p.p.v.a d.p.p.v.len d.p.p.v.cap, .int .i64 d.p.p.t.t.k, .slice d.p.p.t.t.a d.p.p.t.t.len d.p.p.t.t.cap, .int .i64 d.p.p.t.t.n, .int .i64 d.p.p.t.t.s, .slice d.p.o.v.a d.p.o.v.len d.p.o.v.cap, .int .i64 d.p.o.t.t.k, .slice d.p.o.t.t.a d.p.o.t.t.len d.p.o.t.t.cap, .int .i64 d.p.o.t.t.n, .int .i64 d.p.o.t.t.s]] W (Tells (zeroP d.p) W)) := fun W hb => isZeroP_any d.p W (hp.upper (Upper.of_below hb))
  have HZ : Hid (∀ W, Below w.heap.size w W → Calls Try.prog 105 #[.agg #[.int .i64 d.e.d.k, .int .i64 d.e.d.op, .slice d.e.d.v.a d.e.d.v.len d.e.d.v.cap, .int .i64 d.e.d.t.t.k, .slice d.e.d.t.t.a d.e.d.t.t.len d.e.d.t.t.cap, .int .i64 d.e.d.t.t.n, .int .i64 d.e.d.t.t.s, .slice d.e.d.ka d.e.d.n d.e.d.kc]] W (Tells (zeroE d.e) W)) := fun W hb => isZeroE_any d.e W (ET.lies.upper (Upper.of_below hb) he)
  obtain ⟨P, hP⟩ : ∃ P, P = BareP d := ⟨_, rfl⟩
  have HP : Hid (P ↔ (d.ord = 0 ∧ zeroP d.p ∧ zeroE d.e ∧ d.v.b = [] ∧ d.tb = [])) := (show (P ↔ _) by rw [hP]; exact Iff.rfl)
  rw [← hP]
  obtain ⟨nt, hnt⟩ : ∃ nt, nt = d.tb.length := ⟨_, rfl⟩
  rw [← hnt]
  have HT : Hid (d.tb = [] ↔ nt = 0) := (show (_ ↔ _) by rw [hnt]; exact tb_nil)
  clear he hv hp hP hnt
  have HX : Hid (Box (w.alloc (.cells #[.int .i64 d.k, .int .i64 d.ord, .slice d.p.s.v.a d.p.s.v.len d.p.s.v.cap, .int .i64 d.p.s.t.t.k, .slice d.p.s.t.t.a d.p.s.t.t.len d.p.s.t.t.cap, .int .i64 d.p.s.t.t.n, .int .i64 d.p.s.t.t.s, .slice d.p.p.v.a d.p.p.v.len d.p.p.v.cap, .int .i64 d.p.p.t.t.k, .slice d.p.p.t.t.a d.p.p.t.t.len d.p.p.t.t.cap, .int .i64 d.p.p.t.t.n, .int .i64 d.p.p.t.t.s, .slice d.p.o.v.a d.p.o.v.len d.p.o.v.cap, .int .i64 d.p.o.t.t.k, .slice d.p.o.t.t.a d.p.o.t.t.len d.p.o.t.t.cap, .int .i64 d.p.o.t.t.n, .int .i64 d.p.o.t.t.s, .int .i64 d.e.d.k, .int .i64 d.e.d.op, .slice d.e.d.v.a d.e.d.v.len d.e.d.v.cap, .int .i64 d.e.d.t.t.k, .slice d.e.d.t.t.a d.e.d.t.t.len d.e.d.t.t.cap, .int .i64 d.e.d.t.t.n, .int .i64 d.e.d.t.t.s, .slice d.e.d.ka d.e.d.n d.e.d.kc, .slice d.v.a d.v.len d.v.cap, .slice d.ta nt d.tc, .slice d.ka d.n d.kc] 62)) w.heap.size (cellsT d d.k nt)) := Box.new w #[.int .i64 d.k, .int .i64 d.ord, .slice d.p.s.v.a d.p.s.v.len d.p.s.v.cap, .int .i64 d.p.s.t.t.k, .slice d.p.s.t.t.a d.p.s.t.t.len d.p.s.t.t.cap, .int .i64 d.p.s.t.t.n, .int .i64 d.p.s.t.t.s, .slice d.p.p.v.a d.p.p.v.len d.p.p.v.cap, .int .i64 d.p.p.t.t.k, .slice d.p.p.t.t.a d.p.p.t.t.len d.p.p.t.t.cap, .int .i64 d.p.p.t.t.n, .int .i64 d.p.p.t.t.s, .slice d.p.o.v.a d.p.o.v.len d.p.o.v.cap, .int .i64 d.p.o.t.t.k, .slice d.p.o.t.t.a d.p.o.t.t.len d.p.o.t.t.cap, .int .i64 d.p.o.t.t.n, .int .i64 d.p.o.t.t.s, .int .i64 d.e.d.k, .int .i64 d.e.d.op, .slice d.e.d.v.a d.e.d.v.len d.e.d.v.cap, .int .i64 d.e.d.t.t.k, .slice d.e.d.t.t.a d.e.d.t.t.len d.e.d.t.t.cap, .int .i64 d.e.d.t.t.n, .int .i64 d.e.d.t.t.s, .slice d.e.d.ka d.e.d.n d.e.d.kc, .slice d.v.a d.v.len d.v.cap, .slice d.ta nt d.tc, .slice d.ka d.n d.kc] 62 (0, 0)
  have HB : Hid (Below w.heap.size w (w.alloc (.cells #[.int .i64 d.k, .int .i64 d.ord, .slice d.p.s.v.a d.p.s.v.len d.p.s.v.cap, .int .i64 d.p.s.t.t.k, .slice d.p.s.t.t.a d.p.s.t.t.len d.p.s.t.t.cap, .int .i64 d.p.s.t.t.n, .int .i64 d.p.s.t.t.s, .slice d.p.p.v.a d.p.p.v.len d.p.p.v.cap, .int .i64 d.p.p.t.t.k, .slice d.p.p.t.t.a d.p.p.t.t.len d.p.p.t.t.cap, .int .i64 d.p.p.t.t.n, .int .i64 d.p.p.t.t.s, .slice d.p.o.v.a d.p.o.v.len d.p.o.v.cap, .int .i64 d.p.o.t.t.k, .slice d.p.o.t.t.a d.p.o.t.t.len d.p.o.t.t.cap, .int .i64 d.p.o.t.t.n, .int .i64 d.p.o.t.t.s, .int .i64 d.e.d.k, .int .i64 d.e.d.op, .slice d.e.d.v.a d.e.d.v.len d.e.d.v.cap, .int .i64 d.e.d.t.t.k, .slice d.e.d.t.t.a d.e.d.t.t.len d.e.d.t.t.cap, .int .i64 d.e.d.t.t.n, .int .i64 d.e.d.t.t.s, .slice d.e.d.ka d.e.d.n d.e.d.kc, .slice d.v.a d.v.len d.v.cap, .slice d.ta nt d.tc, .slice d.ka d.n d.kc] 62))) := bl_a _
  go_enter Try.func88, Try.ntmps88
  go_upto_region 1 with fail
  generalize (w.alloc (.cells #[.int .i64 d.k, .int .i64 d.ord, .slice d.p.s.v.a d.p.s.v.len d.p.s.v.cap, .int .i64 d.p.s.t.t.k, .slice d.p.s.t.t.a d.p.s.t.t.len d.p.s.t.t.cap, .int .i64 d.p.s.t.t.n, .int .i64 d.p.s.t.t.s, .slice d.p.p.v.a d.p.p.v.len d.p.p.v.cap, .int .i64 d.p.p.t.t.k, .slice d.p.p.t.t.a d.p.p.t.t.len d.p.p.t.t.cap, .int .i64 d.p.p.t.t.n, .int .i64 d.p.p.t.t.s, .slice d.p.o.v.a d.p.o.v.len d.p.o.v.cap, .int .i64 d.p.o.t.t.k, .slice d.p.o.t.t.a d.p.o.t.t.len d.p.o.t.t.cap, .int .i64 d.p.o.t.t.n, .int .i64 d.p.o.t.t.s, .int .i64 d.e.d.k, .int .i64 d.e.d.op, .slice d.e.d.v.a d.e.d.v.len d.e.d.v.cap, .int .i64 d.e.d.t.t.k, .slice d.e.d.t.t.a d.e.d.t.t.len d.e.d.t.t.cap, .int .i64 d.e.d.t.t.n, .int .i64 d.e.d.t.t.s, .slice d.e.d.ka d.e.d.n d.e.d.kc, .slice d.v.a d.v.len d.v.cap, .slice d.ta nt d.tc, .slice d.ka d.n d.kc] 62)) = W1 at *
  have x1 := HX.out.2 1 _ rfl
  by_cases h1 : d.ord = 0
  rotate_left
  · go_wp2
    go_ret
    exact Tells.no (fun hp => h1 (HP.out.1 hp).1) HB.out
  have H1 : Hid (d.ord = 0) := h1
  have he1 : (d.ord == 0) = true := by simp [h1]
  have lr : W1.rangeAt w.heap.size 2 [.slice d.p.s.v.a d.p.s.v.len d.p.s.v.cap, .int .i64 d.p.s.t.t.k, .slice d.p.s.t.t.a d.p.s.t.t.len d.p.s.t.t.cap, .int .i64 d.p.s.t.t.n, .int .i64 d.p.s.t.t.s, .slice d.p.p.v.a d.p.p.v.len d.p.p.v.cap, .int .i64 d.p.p.t.t.k, .slice d.p.p.t.t.a d.p.p.t.t.len d.p.p.t.t.cap, .int .i64 d.p.p.t.t.n, .int .i64 d.p.p.t.t.s, .slice d.p.o.v.a d.p.o.v.len d.p.o.v.cap, .int .i64 d.p.o.t.t.k, .slice d.p.o.t.t.a d.p.o.t.t.len d.p.o.t.t.cap, .int .i64 d.p.o.t.t.n, .int .i64 d.p.o.t.t.s] := HX.out.range 2 _ rfl
  clear h1
  go_wp2_with (with_reducible refine wpq_at ?_; refine wpq_stop 59 _ rfl ?_)
  change wpList _ _ _ _ _ _
  refine wpq_load ?hw 59 _ rfl w.heap.size 2 rfl [.slice d.p.s.v.a d.p.s.v.len d.p.s.v.cap, .int .i64 d.p.s.t.t.k, .slice d.p.s.t.t.a d.p.s.t.t.len d.p.s.t.t.cap, .int .i64 d.p.s.t.t.n, .int .i64 d.p.s.t.t.s, .slice d.p.p.v.a d.p.p.v.len d.p.p.v.cap, .int .i64 d.p.p.t.t.k, .slice d.p.p.t.t.a d.p.p.t.t.len d.p.p.t.t.cap, .int .i64 d.p.p.t.t.n, .int .i64 d.p.p.t.t.s, .slice d.p.o.v.a d.p.o.v.len d.p.o.v.cap, .int .i64 d.p.o.t.t.k, .slice d.p.o.t.t.a d.p.o.t.t.len d.p.o.t.t.cap, .int .i64 d.p.o.t.t.n, .int .i64 d.p.o.t.t.s] _ lr Try.underlying59 rfl (by kernel_rfl) ?_
  case hw => rfl
  simp only [Act.put, List.setIfInBounds_toArray, List.set_cons_zero, List.set_cons_succ]
  go_wp2_with fail
  refine (HZP.out _ HB.out).mono ?_
  rintro e w1 ⟨q1, rfl, hq1, hb1⟩
  have HX1 : Hid (Box w1 w.heap.size (cellsT d d.k nt)) := HX.out.below hb1
  have HB1 : Hid (Below w.heap.size w w1) := bl_trans HB.out hb1
  clear hb1 HX HB lr x1 he1
  cases q1 with
  | false =>
    have HNO : Hid (¬ P) := fun hh => by have h := hq1.2 (HP.out.1 hh).2.1; cases h
    clear hq1
    go_wp2_with fail
    go_ret
    exact Tells.no HNO.out HB1.out
  | true =>
    have HP1 : Hid (zeroP d.p) := hq1.1 rfl
    have lr : w1.rangeAt w.heap.size 17 [.int .i64 d.e.d.k, .int .i64 d.e.d.op, .slice d.e.d.v.a d.e.d.v.len d.e.d.v.cap, .int .i64 d.e.d.t.t.k, .slice d.e.d.t.t.a d.e.d.t.t.len d.e.d.t.t.cap, .int .i64 d.e.d.t.t.n, .int .i64 d.e.d.t.t.s, .slice d.e.d.ka d.e.d.n d.e.d.kc] := HX1.out.range 17 _ rfl
    clear hq1
    go_wp2_with (with_reducible refine wpq_at ?_; refine wpq_stop 39 _ rfl ?_)
    change wpList _ _ _ _ _ _
    refine wpq_load ?hw 39 _ rfl w.heap.size 17 rfl [.int .i64 d.e.d.k, .int .i64 d.e.d.op, .slice d.e.d.v.a d.e.d.v.len d.e.d.v.cap, .int .i64 d.e.d.t.t.k, .slice d.e.d.t.t.a d.e.d.t.t.len d.e.d.t.t.cap, .int .i64 d.e.d.t.t.n, .int .i64 d.e.d.t.t.s, .slice d.e.d.ka d.e.d.n d.e.d.kc] _ lr Try.underlying39 rfl (by kernel_rfl) ?_
    case hw => rfl
    simp only [Act.put, List.setIfInBounds_toArray, List.set_cons_zero, List.set_cons_succ]
    go_wp2_with fail
    refine (HZ.out _ HB1.out).mono ?_
    rintro e w2 ⟨q2, rfl, hq2, hb2⟩
    have HX2 : Hid (Box w2 w.heap.size (cellsT d d.k nt)) := HX1.out.below hb2
    have HB2 : Hid (Below w.heap.size w w2) := bl_trans HB1.out hb2
    clear hb2 HX1 HB1 lr
    cases q2 with
    | false =>
      have HNO : Hid (¬ P) := fun hh => by have h := hq2.2 (HP.out.1 hh).2.2.1; cases h
      clear hq2
      go_wp2_with fail
      go_ret
      exact Tells.no HNO.out HB2.out
    | true =>
      have HE : Hid (zeroE d.e) := hq2.1 rfl
      clear hq2
      have x25 := HX2.out.2 25 _ rfl
      have x26 := HX2.out.2 26 _ rfl
      by_cases h2 : d.v.len = 0
      rotate_left
      · go_wp2
        go_ret
        exact Tells.no (fun hp => h2 (HL.out.1 (HP.out.1 hp).2.2.2.1)) HB2.out
      by_cases h3 : nt = 0
      rotate_left
      · go_wp2
        go_ret
        refine Tells.of ⟨fun h => ?_, fun hp => absurd (HT.out.1 (HP.out.1 hp).2.2.2.2) h3⟩ HB2.out
        exfalso
        simp at h
        omega
      have HY : Hid P := HP.out.2 ⟨H1.out, HP1.out, HE.out, HL.out.2 h2, HT.out.2 h3⟩
      go_wp2
      go_ret
      exact Tells.yes HY.out HB2.out
end Go.Proofs.Ytpgbhkkdbkecoaa

/- TrxF -/
namespace Go.Proofs.Ytpgbhkkdbkecoaa
open Go.RowKit Go.Deep
set_option maxRecDepth 100000

/-- What a plan's own cells must be, its expression aside. -/
structure HasP (d : PN) : Prop where
  k0 : 0 ≤ d.k
  k8 : d.k ≤ 8
  o0 : 0 ≤ d.ord
  o5 : d.ord ≤ 5
  n : d.n = kidsP d.k
  p1 : d.k = 0 → ptOk d.p
  p0 : d.k ≠ 0 → zeroP d.p
  oz : d.k ≠ 0 → d.ord = 0
  t0 : d.k ≠ 7 → d.tb = []
  tn : d.tb.length ≤ 8
  e0 : ¬ hasE d.k → zeroE d.e
  v1 : hasV d.k → nameOk d.v.b = true
  v0 : ¬ hasV d.k → d.v.b = []
  tm : ∀ x ∈ d.tb, x.td.ok = true
theorem HasP.node {d : PN} : NodeP d ↔ HasP d ∧ (hasE d.k → eOk 120 d.e 1) :=
  ⟨fun h => ⟨⟨h.k0, h.k8, h.o0, h.o5, h.n, h.p1, h.p0, h.oz, h.t0, h.tn, h.e0, h.v1, h.v0, h.tm⟩, h.e1⟩, fun h => ⟨h.1.k0, h.1.k8, h.1.o0, h.1.o5, h.1.n, h.1.p1, h.1.p0, h.1.oz, h.1.t0, h.1.tn, h.2, h.1.e0, h.1.v1, h.1.v0, h.1.tm⟩⟩
def IB0 : IB := ⟨⟨none, 0, 0, []⟩, ⟨⟨0, none, 0, 0, 0, 0⟩, []⟩⟩
def PB0 : PB := ⟨IB0, IB0, IB0⟩
theorem IB0_lies (w : World) : IB0.lies 0 w := ⟨bs_nil w, bs_nil w, ⟨by decide, by decide, by decide, by decide⟩⟩
theorem PB0_lies (w : World) : PB0.lies 0 w := ⟨IB0_lies w, IB0_lies w, IB0_lies w⟩
theorem IB0_zero : zeroI IB0 := ⟨rfl, zeroT0⟩
theorem PB0_zero : zeroP PB0 := ⟨IB0_zero, IB0_zero, IB0_zero⟩
theorem oneE : (#[.int .i64 0, .int .i64 0, .slice none 0 0, .int .i64 0, .slice none 0 0, .int .i64 0, .int .i64 0, .slice none 0 0] : Array Value).all (·.oneCell') = true := all_oneCell_toArray (cs := [.int .i64 0, .int .i64 0, .slice none 0 0, .int .i64 0, .slice none 0 0, .int .i64 0, .int .i64 0, .slice none 0 0]) (by simp [Value.oneCell'])
theorem oneP : (#[.slice none 0 0, .int .i64 0, .slice none 0 0, .int .i64 0, .int .i64 0, .slice none 0 0, .int .i64 0, .slice none 0 0, .int .i64 0, .int .i64 0, .slice none 0 0, .int .i64 0, .slice none 0 0, .int .i64 0, .int .i64 0] : Array Value).all (·.oneCell') = true := all_oneCell_toArray (cs := [.slice none 0 0, .int .i64 0, .slice none 0 0, .int .i64 0, .int .i64 0, .slice none 0 0, .int .i64 0, .slice none 0 0, .int .i64 0, .int .i64 0, .slice none 0 0, .int .i64 0, .slice none 0 0, .int .i64 0, .int .i64 0]) (by simp [Value.oneCell'])
theorem PN.one (d : PN) : d.cells.toArray.all (·.oneCell') = true := all_oneCell_toArray (cs := d.cells) (by intro v hv; unfold PN.cells at hv; simp only [List.mem_cons, List.not_mem_nil, or_false] at hv; rcases hv with rfl | rfl | rfl | rfl | rfl | rfl | rfl | rfl | rfl | rfl | rfl | rfl | rfl | rfl | rfl | rfl | rfl | rfl | rfl | rfl | rfl | rfl | rfl | rfl | rfl | rfl | rfl | rfl <;> rfl)
theorem setL_eq : ∀ (vs L : List Value) (o : Nat), o + vs.length ≤ L.length → setL L o vs = L.take o ++ (vs ++ L.drop (o + vs.length))
  | [], L, o, _ => by simp [setL]
  | v :: r, L, o, h => by
    have hl : o + 1 + r.length ≤ L.length := by simp only [List.length_cons] at h; omega
    have ho : o < L.length := by omega
    have ih := setL_eq r (L.set o v) (o + 1) (by simpa using hl)
    show setL (L.set o v) (o + 1) r = _
    rw [ih]
    have e1 : (L.set o v).take (o + 1) = L.take o ++ [v] := by
      rw [List.set_eq_take_append_cons_drop, if_pos ho, show o + 1 = (L.take o).length + 1 by simp; omega, List.take_length_add_append]
      rfl
    have e2 : (L.set o v).drop (o + 1 + r.length) = L.drop (o + 1 + r.length) := by
      apply List.drop_set_of_lt
      omega
    rw [e1, e2, show o + (v :: r).length = o + 1 + r.length by simp only [List.length_cons]; omega]
    simp
theorem OB.put {w : World} {b : Nat} {L : List Value} (h : OB w b L) (vs : List Value) (o : Nat) (L' : List Value) (hl : o + vs.length ≤ L.length) (e : L.take o ++ (vs ++ L.drop (o + vs.length)) = L') : OB (w.setCells b o vs) b L' := by
  have := h.sets vs o
  rwa [setL_eq vs L o hl, e] at this
end Go.Proofs.Ytpgbhkkdbkecoaa
