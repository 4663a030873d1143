/- Texts put together: TrxD TreO TreP TreP0 -/
import Derived.Test.YtpgbhkkdbkecoaaNk24
import Derived.Test.YtpgbhkkdbkecoaaNk23
/- TrxD -/
namespace Go.Proofs.Ytpgbhkkdbkecoaa
open Go.RowKit Go.Deep
set_option maxRecDepth 100000

/-- A load of a struct whose guard says yes. -/
theorem wpq_load {P : Program} {ops : Array Oper} {rest : List Oper} {op : Oper} {a : Act} {w : World} {Q : Exit → Act → World → Prop} (hw : Region.wanted op (yielded ops a.tmps) = true) (ty : TypeId) (x : Operand) (ho : op.op = .load ty x)
    (b o : Nat) (hx : a.eval x = .pointer (some ⟨b, o, none⟩)) (cs : List Value) (d : TypeDesc) (hc : w.rangeAt b o cs)
    (hu : P.underlying ty = some d) (hd : d.isRow = true) (hi : (P.info? ty).map (·.size) = some cs.length)
    (h : wpList P ops Q rest (a.put op.dst (.agg cs.toArray)) w) : wpList P ops Q (op :: rest) a w :=
  BigFrame.wpList_want hw fun _ hK => wp_load_mid ty x ho b o hx cs d hc hu hd hi (hK _ _ h)
/-- A plan that may be. -/
def planOk (e : PT) : Prop := pOk e 1 ∧ psz e ≤ 1440 ∧ (pV e []).length ≤ 8
set_option maxHeartbeats 4000000 in
theorem specPlanOk_any (e : PT) (w : World) (h : e.lies 0 w) : Calls Try.prog 11 #[.agg #[.int .i64 e.d.k, .int .i64 e.d.ord, .slice e.d.p.s.v.a e.d.p.s.v.len e.d.p.s.v.cap, .int .i64 e.d.p.s.t.t.k, .slice e.d.p.s.t.t.a e.d.p.s.t.t.len e.d.p.s.t.t.cap, .int .i64 e.d.p.s.t.t.n, .int .i64 e.d.p.s.t.t.s, .slice e.d.p.p.v.a e.d.p.p.v.len e.d.p.p.v.cap, .int .i64 e.d.p.p.t.t.k, .slice e.d.p.p.t.t.a e.d.p.p.t.t.len e.d.p.p.t.t.cap, .int .i64 e.d.p.p.t.t.n, .int .i64 e.d.p.p.t.t.s, .slice e.d.p.o.v.a e.d.p.o.v.len e.d.p.o.v.cap, .int .i64 e.d.p.o.t.t.k, .slice e.d.p.o.t.t.a e.d.p.o.t.t.len e.d.p.o.t.t.cap, .int .i64 e.d.p.o.t.t.n, .int .i64 e.d.p.o.t.t.s, .int .i64 e.d.e.d.k, .int .i64 e.d.e.d.op, .slice e.d.e.d.v.a e.d.e.d.v.len e.d.e.d.v.cap, .int .i64 e.d.e.d.t.t.k, .slice e.d.e.d.t.t.a e.d.e.d.t.t.len e.d.e.d.t.t.cap, .int .i64 e.d.e.d.t.t.n, .int .i64 e.d.e.d.t.t.s, .slice e.d.e.d.ka e.d.e.d.n e.d.e.d.kc, .slice e.d.v.a e.d.v.len e.d.v.cap, .slice e.d.ta e.d.tb.length e.d.tc, .slice e.d.ka e.d.n e.d.kc]] w (Tells (planOk e) w) := by
  have A1 := fun (W : World) (g : Nat) (hb : Below w.heap.size w W) (hg : w.heap.size ≤ g) (hc : Ctr W g 1440) => l7planOk_any e 1 1440 g w W h hb hg hc (by omega) (by omega) (by omega) (by omega)
  have HV : Hid (∀ W, Below w.heap.size w W → pc e ≤ 1000000 → Calls Try.prog 37 #[.slice none 0 0, .agg #[.int .i64 e.d.k, .int .i64 e.d.ord, .slice e.d.p.s.v.a e.d.p.s.v.len e.d.p.s.v.cap, .int .i64 e.d.p.s.t.t.k, .slice e.d.p.s.t.t.a e.d.p.s.t.t.len e.d.p.s.t.t.cap, .int .i64 e.d.p.s.t.t.n, .int .i64 e.d.p.s.t.t.s, .slice e.d.p.p.v.a e.d.p.p.v.len e.d.p.p.v.cap, .int .i64 e.d.p.p.t.t.k, .slice e.d.p.p.t.t.a e.d.p.p.t.t.len e.d.p.p.t.t.cap, .int .i64 e.d.p.p.t.t.n, .int .i64 e.d.p.p.t.t.s, .slice e.d.p.o.v.a e.d.p.o.v.len e.d.p.o.v.cap, .int .i64 e.d.p.o.t.t.k, .slice e.d.p.o.t.t.a e.d.p.o.t.t.len e.d.p.o.t.t.cap, .int .i64 e.d.p.o.t.t.n, .int .i64 e.d.p.o.t.t.s, .int .i64 e.d.e.d.k, .int .i64 e.d.e.d.op, .slice e.d.e.d.v.a e.d.e.d.v.len e.d.e.d.v.cap, .int .i64 e.d.e.d.t.t.k, .slice e.d.e.d.t.t.a e.d.e.d.t.t.len e.d.e.d.t.t.cap, .int .i64 e.d.e.d.t.t.n, .int .i64 e.d.e.d.t.t.s, .slice e.d.e.d.ka e.d.e.d.n e.d.e.d.kc, .slice e.d.v.a e.d.v.len e.d.v.cap, .slice e.d.ta e.d.tb.length e.d.tc, .slice e.d.ka e.d.n e.d.kc]] W (AddAns w W.heap.size (.slice none 0 0) (pV e []) W)) := fun W hb ha => l7vars_any e (.slice none 0 0) [] W.heap.size w W h (VL.nil _ _ _) hb (by simpa using ha) (Nat.le_refl _) hb.size
  have HAC : Hid (pOk e 1 → pc e ≤ 5 * psz e) := fun h => pc_le h
  clear h
  go_enter Try.func11, Try.ntmps11
  go_upto_region 2 with fail
  obtain ⟨W1, hW1⟩ : ∃ W1, W1 = (w.alloc (.cells #[.int .i64 e.d.k, .int .i64 e.d.ord, .slice e.d.p.s.v.a e.d.p.s.v.len e.d.p.s.v.cap, .int .i64 e.d.p.s.t.t.k, .slice e.d.p.s.t.t.a e.d.p.s.t.t.len e.d.p.s.t.t.cap, .int .i64 e.d.p.s.t.t.n, .int .i64 e.d.p.s.t.t.s, .slice e.d.p.p.v.a e.d.p.p.v.len e.d.p.p.v.cap, .int .i64 e.d.p.p.t.t.k, .slice e.d.p.p.t.t.a e.d.p.p.t.t.len e.d.p.p.t.t.cap, .int .i64 e.d.p.p.t.t.n, .int .i64 e.d.p.p.t.t.s, .slice e.d.p.o.v.a e.d.p.o.v.len e.d.p.o.v.cap, .int .i64 e.d.p.o.t.t.k, .slice e.d.p.o.t.t.a e.d.p.o.t.t.len e.d.p.o.t.t.cap, .int .i64 e.d.p.o.t.t.n, .int .i64 e.d.p.o.t.t.s, .int .i64 e.d.e.d.k, .int .i64 e.d.e.d.op, .slice e.d.e.d.v.a e.d.e.d.v.len e.d.e.d.v.cap, .int .i64 e.d.e.d.t.t.k, .slice e.d.e.d.t.t.a e.d.e.d.t.t.len e.d.e.d.t.t.cap, .int .i64 e.d.e.d.t.t.n, .int .i64 e.d.e.d.t.t.s, .slice e.d.e.d.ka e.d.e.d.n e.d.e.d.kc, .slice e.d.v.a e.d.v.len e.d.v.cap, .slice e.d.ta e.d.tb.length e.d.tc, .slice e.d.ka e.d.n e.d.kc] 62)).alloc (.cells #[.int .i64 1440] 3) := ⟨_, rfl⟩
  have HX : Hid (Box W1 w.heap.size e.d.cells) := (show Box _ _ _ by rw [hW1]; exact (Box.new w #[.int .i64 e.d.k, .int .i64 e.d.ord, .slice e.d.p.s.v.a e.d.p.s.v.len e.d.p.s.v.cap, .int .i64 e.d.p.s.t.t.k, .slice e.d.p.s.t.t.a e.d.p.s.t.t.len e.d.p.s.t.t.cap, .int .i64 e.d.p.s.t.t.n, .int .i64 e.d.p.s.t.t.s, .slice e.d.p.p.v.a e.d.p.p.v.len e.d.p.p.v.cap, .int .i64 e.d.p.p.t.t.k, .slice e.d.p.p.t.t.a e.d.p.p.t.t.len e.d.p.p.t.t.cap, .int .i64 e.d.p.p.t.t.n, .int .i64 e.d.p.p.t.t.s, .slice e.d.p.o.v.a e.d.p.o.v.len e.d.p.o.v.cap, .int .i64 e.d.p.o.t.t.k, .slice e.d.p.o.t.t.a e.d.p.o.t.t.len e.d.p.o.t.t.cap, .int .i64 e.d.p.o.t.t.n, .int .i64 e.d.p.o.t.t.s, .int .i64 e.d.e.d.k, .int .i64 e.d.e.d.op, .slice e.d.e.d.v.a e.d.e.d.v.len e.d.e.d.v.cap, .int .i64 e.d.e.d.t.t.k, .slice e.d.e.d.t.t.a e.d.e.d.t.t.len e.d.e.d.t.t.cap, .int .i64 e.d.e.d.t.t.n, .int .i64 e.d.e.d.t.t.s, .slice e.d.e.d.ka e.d.e.d.n e.d.e.d.kc, .slice e.d.v.a e.d.v.len e.d.v.cap, .slice e.d.ta e.d.tb.length e.d.tc, .slice e.d.ka e.d.n e.d.kc] 62 _).below (bl_a _))
  have HC : Hid (Ctr W1 (w.heap.size + 1) 1440) := (show Ctr _ _ _ by rw [hW1]; exact ⟨by simp, by simp [go_sem], by simp [go_sem]⟩)
  have HB : Hid (Below w.heap.size w W1) := (show Below _ _ _ by rw [hW1]; exact bl_alloc (bl_a _) _)
  rw [← hW1]
  clear hW1
  have A2 := A1 W1 (w.heap.size + 1) HB.out (Nat.le_succ _) HC.out
  have lr : W1.rangeAt w.heap.size 0 [.int .i64 e.d.k, .int .i64 e.d.ord, .slice e.d.p.s.v.a e.d.p.s.v.len e.d.p.s.v.cap, .int .i64 e.d.p.s.t.t.k, .slice e.d.p.s.t.t.a e.d.p.s.t.t.len e.d.p.s.t.t.cap, .int .i64 e.d.p.s.t.t.n, .int .i64 e.d.p.s.t.t.s, .slice e.d.p.p.v.a e.d.p.p.v.len e.d.p.p.v.cap, .int .i64 e.d.p.p.t.t.k, .slice e.d.p.p.t.t.a e.d.p.p.t.t.len e.d.p.p.t.t.cap, .int .i64 e.d.p.p.t.t.n, .int .i64 e.d.p.p.t.t.s, .slice e.d.p.o.v.a e.d.p.o.v.len e.d.p.o.v.cap, .int .i64 e.d.p.o.t.t.k, .slice e.d.p.o.t.t.a e.d.p.o.t.t.len e.d.p.o.t.t.cap, .int .i64 e.d.p.o.t.t.n, .int .i64 e.d.p.o.t.t.s, .int .i64 e.d.e.d.k, .int .i64 e.d.e.d.op, .slice e.d.e.d.v.a e.d.e.d.v.len e.d.e.d.v.cap, .int .i64 e.d.e.d.t.t.k, .slice e.d.e.d.t.t.a e.d.e.d.t.t.len e.d.e.d.t.t.cap, .int .i64 e.d.e.d.t.t.n, .int .i64 e.d.e.d.t.t.s, .slice e.d.e.d.ka e.d.e.d.n e.d.e.d.kc, .slice e.d.v.a e.d.v.len e.d.v.cap, .slice e.d.ta e.d.tb.length e.d.tc, .slice e.d.ka e.d.n e.d.kc] := HX.out.range 0 _ rfl
  clear A1
  go_wp2_with (with_reducible refine wpq_at ?_; refine wpList_load_mid rfl 62 _ rfl w.heap.size 0 rfl [.int .i64 e.d.k, .int .i64 e.d.ord, .slice e.d.p.s.v.a e.d.p.s.v.len e.d.p.s.v.cap, .int .i64 e.d.p.s.t.t.k, .slice e.d.p.s.t.t.a e.d.p.s.t.t.len e.d.p.s.t.t.cap, .int .i64 e.d.p.s.t.t.n, .int .i64 e.d.p.s.t.t.s, .slice e.d.p.p.v.a e.d.p.p.v.len e.d.p.p.v.cap, .int .i64 e.d.p.p.t.t.k, .slice e.d.p.p.t.t.a e.d.p.p.t.t.len e.d.p.p.t.t.cap, .int .i64 e.d.p.p.t.t.n, .int .i64 e.d.p.p.t.t.s, .slice e.d.p.o.v.a e.d.p.o.v.len e.d.p.o.v.cap, .int .i64 e.d.p.o.t.t.k, .slice e.d.p.o.t.t.a e.d.p.o.t.t.len e.d.p.o.t.t.cap, .int .i64 e.d.p.o.t.t.n, .int .i64 e.d.p.o.t.t.s, .int .i64 e.d.e.d.k, .int .i64 e.d.e.d.op, .slice e.d.e.d.v.a e.d.e.d.v.len e.d.e.d.v.cap, .int .i64 e.d.e.d.t.t.k, .slice e.d.e.d.t.t.a e.d.e.d.t.t.len e.d.e.d.t.t.cap, .int .i64 e.d.e.d.t.t.n, .int .i64 e.d.e.d.t.t.s, .slice e.d.e.d.ka e.d.e.d.n e.d.e.d.kc, .slice e.d.v.a e.d.v.len e.d.v.cap, .slice e.d.ta e.d.tb.length e.d.tc, .slice e.d.ka e.d.n e.d.kc] _ lr Try.underlying62 rfl (by kernel_rfl) ?_; try simp only [Act.put, List.setIfInBounds_toArray, List.set_cons_zero, List.set_cons_succ])
  refine A2.mono ?_
  rintro r w2 ⟨q, L', rfl, hq, _, hc2, hp2⟩
  have HB2 : Hid (Below w.heap.size w w2) := HB.out.trans (hp2.below (Nat.le_succ _) HB.out.size)
  have HX2 : Hid (Box w2 w.heap.size e.d.cells) := HX.out.past hp2 (by omega)
  clear A2 lr hc2 hp2
  cases q with
  | false =>
    have HNO : Hid (¬ planOk e) := fun hh => by
      have h1 := hq.2 ⟨hh.1, by have := hh.2.1; omega⟩
      cases h1
    clear hq
    go_wp2_with fail
    go_ret
    exact Tells.no HNO.out HB2.out
  | true =>
    obtain ⟨h1, h2⟩ := hq.1 rfl
    have HOK : Hid (pOk e 1 ∧ psz e ≤ 1440) := ⟨h1, by omega⟩
    have V := HV.out w2 HB2.out (by have h3 := HAC.out h1; omega)
    clear hq h1 h2
    have lr : w2.rangeAt w.heap.size 0 [.int .i64 e.d.k, .int .i64 e.d.ord, .slice e.d.p.s.v.a e.d.p.s.v.len e.d.p.s.v.cap, .int .i64 e.d.p.s.t.t.k, .slice e.d.p.s.t.t.a e.d.p.s.t.t.len e.d.p.s.t.t.cap, .int .i64 e.d.p.s.t.t.n, .int .i64 e.d.p.s.t.t.s, .slice e.d.p.p.v.a e.d.p.p.v.len e.d.p.p.v.cap, .int .i64 e.d.p.p.t.t.k, .slice e.d.p.p.t.t.a e.d.p.p.t.t.len e.d.p.p.t.t.cap, .int .i64 e.d.p.p.t.t.n, .int .i64 e.d.p.p.t.t.s, .slice e.d.p.o.v.a e.d.p.o.v.len e.d.p.o.v.cap, .int .i64 e.d.p.o.t.t.k, .slice e.d.p.o.t.t.a e.d.p.o.t.t.len e.d.p.o.t.t.cap, .int .i64 e.d.p.o.t.t.n, .int .i64 e.d.p.o.t.t.s, .int .i64 e.d.e.d.k, .int .i64 e.d.e.d.op, .slice e.d.e.d.v.a e.d.e.d.v.len e.d.e.d.v.cap, .int .i64 e.d.e.d.t.t.k, .slice e.d.e.d.t.t.a e.d.e.d.t.t.len e.d.e.d.t.t.cap, .int .i64 e.d.e.d.t.t.n, .int .i64 e.d.e.d.t.t.s, .slice e.d.e.d.ka e.d.e.d.n e.d.e.d.kc, .slice e.d.v.a e.d.v.len e.d.v.cap, .slice e.d.ta e.d.tb.length e.d.tc, .slice e.d.ka e.d.n e.d.kc] := HX2.out.range 0 _ rfl
    go_wp2_with (with_reducible refine wpq_at ?_; refine Hid.out ?_)
    change wpList _ _ _ _ _ _
    refine wpq_load ?hw 62 _ rfl w.heap.size 0 rfl [.int .i64 e.d.k, .int .i64 e.d.ord, .slice e.d.p.s.v.a e.d.p.s.v.len e.d.p.s.v.cap, .int .i64 e.d.p.s.t.t.k, .slice e.d.p.s.t.t.a e.d.p.s.t.t.len e.d.p.s.t.t.cap, .int .i64 e.d.p.s.t.t.n, .int .i64 e.d.p.s.t.t.s, .slice e.d.p.p.v.a e.d.p.p.v.len e.d.p.p.v.cap, .int .i64 e.d.p.p.t.t.k, .slice e.d.p.p.t.t.a e.d.p.p.t.t.len e.d.p.p.t.t.cap, .int .i64 e.d.p.p.t.t.n, .int .i64 e.d.p.p.t.t.s, .slice e.d.p.o.v.a e.d.p.o.v.len e.d.p.o.v.cap, .int .i64 e.d.p.o.t.t.k, .slice e.d.p.o.t.t.a e.d.p.o.t.t.len e.d.p.o.t.t.cap, .int .i64 e.d.p.o.t.t.n, .int .i64 e.d.p.o.t.t.s, .int .i64 e.d.e.d.k, .int .i64 e.d.e.d.op, .slice e.d.e.d.v.a e.d.e.d.v.len e.d.e.d.v.cap, .int .i64 e.d.e.d.t.t.k, .slice e.d.e.d.t.t.a e.d.e.d.t.t.len e.d.e.d.t.t.cap, .int .i64 e.d.e.d.t.t.n, .int .i64 e.d.e.d.t.t.s, .slice e.d.e.d.ka e.d.e.d.n e.d.e.d.kc, .slice e.d.v.a e.d.v.len e.d.v.cap, .slice e.d.ta e.d.tb.length e.d.tc, .slice e.d.ka e.d.n e.d.kc] _ lr Try.underlying62 rfl (by kernel_rfl) ?_
    case hw => rfl
    simp only [Act.put, List.setIfInBounds_toArray, List.set_cons_zero, List.set_cons_succ]
    go_wp2_with fail
    refine V.mono ?_
    rintro r w3 ⟨v3, L3, rfl, hV3, hR3, hK3⟩
    obtain ⟨a3, c3, rfl, _⟩ := hV3.form
    have hb3 : Below w2.heap.size w2 w3 := hK3.low (fun g hg => by cases hg) (Nat.le_refl _)
    have HB3 : Hid (Below w.heap.size w w3) := bl_trans HB2.out hb3
    obtain ⟨n3, hn3⟩ : ∃ n3, n3 = L3.length := ⟨_, rfl⟩
    have HE : Hid ((decide ((n3 : Int) ≤ 8)) = true ↔ planOk e) := by
      show (_ ↔ _)
      rw [decide_eq_true_iff]
      have h4 : (pV e []).length = n3 := by rw [← hR3, List.length_map, hn3]
      exact ⟨fun h => ⟨HOK.out.1, HOK.out.2, by omega⟩, fun h => by have := h.2.2; omega⟩
    rw [← hn3]
    clear V hV3 hR3 hK3 hb3 hn3 lr
    go_wp2_with fail
    go_ret
    exact Tells.of HE.out HB3.out
end Go.Proofs.Ytpgbhkkdbkecoaa

/- TreO -/
namespace Go.Proofs.Ytpgbhkkdbkecoaa
open Go.RowKit Go.Deep
set_option maxRecDepth 100000

theorem spares_any (g : Nat) (L n : Int) (w : World) (hc : Ctr w g L) (h0 : -100000 ≤ L) (h1 : L ≤ 100000) (h2 : 0 ≤ n) (h3 : n ≤ 1048576) :
    Calls Try.prog 78 #[.pointer (some ⟨g, 0, none⟩), .int .i64 n] w fun e w' => e = .returned (.bool (decide (0 ≤ L - n))) ∧ Ctr w' g (L - n) ∧ Past g w w' := by
  have HC : Hid (Ctr (w.setCell ⟨g, 0, none⟩ (.int .i64 (L - n))) g (L - n) ∧ Past g w (w.setCell ⟨g, 0, none⟩ (.int .i64 (L - n)))) := ⟨hc.set _, (Past.refl g w).set 0 _⟩
  have c0 := hc.cell
  have f0 := hc.fr
  have c1 : (w.setCell ⟨g, 0, none⟩ (.int .i64 (L - n))).cell? ⟨g, 0, none⟩ = some (.int .i64 (L - n)) := (hc.set _).cell
  have hwr : IntKind.i64.wrap (L - n) = L - n := by rw [IntKind.wrap_i64]; omega
  clear hc
  go_enter Try.func78, Try.ntmps78
  go_wp2_with fail
  go_ret
  exact ⟨by simp, HC.out⟩
theorem isTooDeep_any (p q : Int) (w : World) : Calls Try.prog 82 #[.agg #[.int .i64 p, .int .i64 q]] w (Tells (q < p) w) := by
  go_enter Try.func82, Try.ntmps82
  go_wp2_with fail
  go_ret
  exact Tells.of (by simp) (bl_a _)
/-- What admits answers. -/
def AdAns (P : Prop) (g : Nat) (L : Int) (w : World) (e : Ending) (w' : World) : Prop := ∃ q : Bool, e = .returned (.bool q) ∧ (q = true ↔ P) ∧ Ctr w' g L ∧ Past g w w'
theorem admits_any (g : Nat) (L p q : Int) (w : World) (hc : Ctr w g L) (h0 : 0 ≤ L) (h1 : L ≤ 100000) :
    Calls Try.prog 64 #[.pointer (some ⟨g, 0, none⟩), .agg #[.int .i64 p, .int .i64 q]] w (AdAns (1 ≤ L ∧ p ≤ q) g (L - 1) w) := by
  have SP := fun o => spares_any g L 1 (w.alloc o) (hc.below (bl_a o)) (by omega) h1 (by omega) (by omega)
  have hg := hc.lt
  clear hc
  go_enter Try.func64, Try.ntmps64
  go_wp2_with fail
  refine (SP _).mono ?_
  rintro e w1 ⟨rfl, hc1, hp1⟩
  have HC1 : Hid (Ctr w1 g (L - 1)) := hc1
  have HP1 : Hid (Past g w w1) := (Past.of_below (bl_a _)).trans hp1
  have x0 : w1.cell? ⟨w.heap.size, 0, none⟩ = some (.int .i64 p) := (hp1.cell (p := ⟨w.heap.size, 0, none⟩) (by simp) (by show w.heap.size ≠ g; omega)).trans (by simp [go_sem])
  have x1 : w1.cell? ⟨w.heap.size, 1, none⟩ = some (.int .i64 q) := (hp1.cell (p := ⟨w.heap.size, 1, none⟩) (by simp) (by show w.heap.size ≠ g; omega)).trans (by simp [go_sem])
  clear SP hc1 hp1
  by_cases hL : 0 ≤ L - 1
  · have hLd : decide (0 ≤ L - 1) = true := by simp; omega
    have TD := isTooDeep_any p q w1
    rw [hLd]
    go_wp2_with fail
    refine TD.mono ?_
    rintro e w2 ⟨q2, rfl, hq2, hb2⟩
    have HC2 : Hid (Ctr w2 g (L - 1)) := HC1.out.below hb2
    have HP2 : Hid (Past g w w2) := HP1.out.trans (Past.of_below hb2)
    have HE : Hid ((!q2) = true ↔ (1 ≤ L ∧ p ≤ q)) := by
      show (_ ↔ _)
      cases q2 with
      | true => exact ⟨fun h => (by cases h), fun h => by have := hq2.1 rfl; omega⟩
      | false => exact ⟨fun _ => ⟨by omega, by
          apply Classical.byContradiction
          intro hn
          have := hq2.2 (by omega)
          cases this⟩, fun _ => rfl⟩
    clear TD hq2 hb2 x0 x1
    go_wp2_with fail
    go_ret
    exact ⟨_, rfl, HE.out, HC2.out, HP2.out⟩
  · have hLd : decide (0 ≤ L - 1) = false := by simp; omega
    rw [hLd]
    go_wp2_with fail
    go_ret
    exact ⟨false, rfl, ⟨fun h => (by cases h), fun h => absurd h.1 (by omega)⟩, HC1.out, HP1.out⟩
theorem placeBelow_any (p q : Int) (w : World) (h0 : 0 ≤ p) (h1 : p ≤ 100000) : Calls Try.prog 68 #[.agg #[.int .i64 p, .int .i64 q]] w fun e w' => e = .returned (.agg #[.int .i64 (p + 1), .int .i64 q]) ∧ Below w.heap.size w w' := by
  go_enter Try.func68, Try.ntmps68
  go_wp2_with fail
  refine bodyPost_ret (v := .agg #[.int .i64 (p + 1), .int .i64 q]) (by simp [results, Try.results68, go_sem]) rfl ?_
  exact ⟨rfl, bl_alloc (bl_a _) _⟩
theorem isZeroT_any (x : TB) (w : World) (h : BsF 0 w x.sl) :
    Calls Try.prog 112 #[.agg #[.int .i64 x.t.k, .slice x.t.a x.t.len x.t.cap, .int .i64 x.t.n, .int .i64 x.t.s]] w (Tells (zeroT x.td) w) := by
  have HL : Hid (x.b = [] ↔ x.t.len = 0) := nil_len h.1.1
  clear h
  by_cases h0 : x.t.k = 0
  rotate_left
  · go_enter Try.func112, Try.ntmps112
    go_wp2
    go_ret
    exact Tells.no (P := zeroT x.td) (fun hp => h0 hp.1) (bl_a _)
  by_cases h1 : x.t.len = 0
  rotate_left
  · go_enter Try.func112, Try.ntmps112
    go_wp2
    go_ret
    exact Tells.no (P := zeroT x.td) (fun hp => h1 (HL.out.1 hp.2.1)) (bl_a _)
  by_cases h2 : x.t.n = 0
  rotate_left
  · go_enter Try.func112, Try.ntmps112
    go_wp2
    go_ret
    exact Tells.no (P := zeroT x.td) (fun hp => h2 hp.2.2.1) (bl_a _)
  by_cases h3 : x.t.s = 0
  rotate_left
  · have h3' : (x.t.s == 0) = false := by simp [h3]
    go_enter Try.func112, Try.ntmps112
    go_wp2
    go_ret
    exact Tells.no (P := zeroT x.td) (fun hp => h3 hp.2.2.2) (bl_a _)
  · have HP : Hid (zeroT x.td) := ⟨h0, HL.out.2 h1, h2, h3⟩
    go_enter Try.func112, Try.ntmps112
    go_wp2
    go_ret
    exact Tells.yes HP.out (bl_a _)
theorem isBare_any (d : EN) (w : World) (hv : BsF 0 w d.v) (ht : BsF 0 w d.t.sl) : Calls Try.prog 107 #[.agg #[.int .i64 d.k, .int .i64 d.op, .slice d.v.a d.v.len d.v.cap, .int .i64 d.t.t.k, .slice d.t.t.a d.t.t.len d.t.t.cap, .int .i64 d.t.t.n, .int .i64 d.t.t.s, .slice d.ka d.n d.kc]] w (Tells (d.op = 0 ∧ d.v.b = [] ∧ zeroT d.t.td) w) := by
  have HL : Hid (d.v.b = [] ↔ d.v.len = 0) := nil_len hv.1.1
  have HZ : Hid (∀ W, Below w.heap.size w W → Calls Try.prog 112 #[.agg #[.int .i64 d.t.t.k, .slice d.t.t.a d.t.t.len d.t.t.cap, .int .i64 d.t.t.n, .int .i64 d.t.t.s]] W (Tells (zeroT d.t.td) W)) := fun W hb => isZeroT_any d.t W (ht.upper (Upper.of_below hb))
  obtain ⟨P, hP⟩ : ∃ P, P = (d.op = 0 ∧ d.v.b = [] ∧ zeroT d.t.td) := ⟨_, rfl⟩
  have HP : Hid (P ↔ (d.op = 0 ∧ d.v.b = [] ∧ zeroT d.t.td)) := (show (P ↔ _) by rw [hP])
  rw [← hP]
  clear hv ht hP
  by_cases h1 : d.op = 0
  rotate_left
  · go_enter Try.func107, Try.ntmps107
    go_wp2
    go_ret
    exact Tells.no (fun hp => h1 (HP.out.1 hp).1) (bl_a _)
  by_cases h2 : d.v.len = 0
  rotate_left
  · go_enter Try.func107, Try.ntmps107
    go_wp2
    go_ret
    exact Tells.no (fun hp => h2 (HL.out.1 (HP.out.1 hp).2.1)) (bl_a _)
  have H3 : Hid (d.op = 0 ∧ d.v.b = []) := ⟨h1, HL.out.2 h2⟩
  have Z := HZ.out
  go_enter Try.func107, Try.ntmps107
  go_wp2_with fail
  refine (Z _ (bl_a _)).mono ?_
  rintro e w1 ⟨q1, rfl, hq1, hb1⟩
  have HQ : Hid (q1 = true ↔ P) := (show (q1 = true ↔ P) from hq1.trans ⟨fun h => HP.out.2 ⟨H3.out.1, H3.out.2, h⟩, fun h => (HP.out.1 h).2.2⟩)
  have HB : Hid (Below w.heap.size w w1) := bl_trans (bl_a _) hb1
  clear Z hq1 hb1
  go_wp2_with fail
  go_ret
  exact Tells.of HQ.out HB.out
theorem isZeroE_any (e : ET) (w : World) (h : e.lies 0 w) : Calls Try.prog 105 #[.agg #[.int .i64 e.d.k, .int .i64 e.d.op, .slice e.d.v.a e.d.v.len e.d.v.cap, .int .i64 e.d.t.t.k, .slice e.d.t.t.a e.d.t.t.len e.d.t.t.cap, .int .i64 e.d.t.t.n, .int .i64 e.d.t.t.s, .slice e.d.ka e.d.n e.d.kc]] w (Tells (zeroE e) w) := by
  cases e with
  | nil => exact False.elim h
  | mk d kid =>
  obtain ⟨hv, ht, _⟩ := h
  show Calls Try.prog 105 #[.agg #[.int .i64 d.k, .int .i64 d.op, .slice d.v.a d.v.len d.v.cap, .int .i64 d.t.t.k, .slice d.t.t.a d.t.t.len d.t.t.cap, .int .i64 d.t.t.n, .int .i64 d.t.t.s, .slice d.ka d.n d.kc]] w (Tells (zeroE (.mk d kid)) w)
  have HZ : Hid (∀ W, Below w.heap.size w W → Calls Try.prog 107 #[.agg #[.int .i64 d.k, .int .i64 d.op, .slice d.v.a d.v.len d.v.cap, .int .i64 d.t.t.k, .slice d.t.t.a d.t.t.len d.t.t.cap, .int .i64 d.t.t.n, .int .i64 d.t.t.s, .slice d.ka d.n d.kc]] W (Tells (d.op = 0 ∧ d.v.b = [] ∧ zeroT d.t.td) W)) := fun W hb => isBare_any d W (hv.upper (Upper.of_below hb)) (ht.upper (Upper.of_below hb))
  obtain ⟨P, hP⟩ : ∃ P, P = zeroE (.mk d kid) := ⟨_, rfl⟩
  have HP : Hid (P ↔ (d.k = 0 ∧ d.op = 0 ∧ d.v.b = [] ∧ zeroT d.t.td ∧ d.n = 0)) := (show (P ↔ _) by rw [hP]; exact Iff.rfl)
  rw [← hP]
  clear hv ht hP
  by_cases h0 : d.k = 0
  rotate_left
  · go_enter Try.func105, Try.ntmps105
    go_wp2
    go_ret
    exact Tells.no (fun hp => h0 (HP.out.1 hp).1) (bl_a _)
  by_cases h5 : d.n = 0
  rotate_left
  · go_enter Try.func105, Try.ntmps105
    go_wp2
    go_ret
    exact Tells.no (fun hp => h5 (HP.out.1 hp).2.2.2.2) (bl_a _)
  have H3 : Hid (d.k = 0 ∧ d.n = 0) := ⟨h0, h5⟩
  have Z := HZ.out
  rw [h0, h5] at Z ⊢
  clear HZ h0 h5
  go_enter Try.func105, Try.ntmps105
  go_wp2_with fail
  refine (Z _ (bl_a _)).mono ?_
  rintro e w1 ⟨q1, rfl, hq1, hb1⟩
  have HQ : Hid (q1 = true ↔ P) := (show (q1 = true ↔ P) from hq1.trans ⟨fun h => HP.out.2 ⟨H3.out.1, h.1, h.2.1, h.2.2, H3.out.2⟩, fun h => ⟨(HP.out.1 h).2.1, (HP.out.1 h).2.2.1, (HP.out.1 h).2.2.2.1⟩⟩)
  have HB : Hid (Below w.heap.size w w1) := bl_trans (bl_a _) hb1
  clear Z hq1 hb1
  go_wp2_with fail
  go_ret
  exact Tells.of HQ.out HB.out
/-- How few and how many Kids. -/
def kLo (k : Int) : Int := if k = 2 then 2 else if k = 3 ∨ k = 7 then 1 else if k = 5 then 3 else if k = 6 then 1 else 0
def kHi (k : Int) : Int := if k = 2 then 2 else if k = 3 ∨ k = 7 then 1 else if k = 5 then 3 else if k = 6 then 4 else 0
theorem kidCount_any (k : Int) (w : World) : Calls Try.prog 106 #[.int .i64 k] w fun e w' => e = .returned (.tuple #[.int .i64 (kLo k), .int .i64 (kHi k)]) ∧ w' = w := by
  go_enter Try.func106, Try.ntmps106
  go_wp2
  all_goals go_ret2
  all_goals refine ⟨?_, rfl⟩
  all_goals (unfold kLo kHi; simp_all <;> omega)
end Go.Proofs.Ytpgbhkkdbkecoaa

/- TreP -/
namespace Go.Proofs.Ytpgbhkkdbkecoaa
open Go.RowKit Go.Deep
set_option maxRecDepth 100000

def BareN (d : EN) : Prop := d.op = 0 ∧ d.v.b = [] ∧ zeroT d.t.td

theorem BareN.mk {d : EN} (h1 : d.op = 0) (h2 : d.v.b = []) (h3 : zeroT d.t.td) : BareN d := And.intro h1 (And.intro h2 h3)

theorem wpl_at {P : Program} {ops : Array Oper} {rest : List Oper} {op : Oper} {a : Act} {w : World} {Q : Exit → Act → World → Prop} (h : wpList P ops Q (op :: rest) a w) : wpList P ops Q (op :: rest) a w := h

theorem zeroT0 : zeroT (TB.td ⟨⟨0, none, 0, 0, 0, 0⟩, []⟩) := by unfold zeroT; exact ⟨rfl, rfl, rfl, rfl⟩

end Go.Proofs.Ytpgbhkkdbkecoaa

/- TreP0 -/
namespace Go.Proofs.Ytpgbhkkdbkecoaa
open Go.RowKit Go.Deep
set_option maxRecDepth 100000


set_option maxHeartbeats 4000000 in
theorem hasOwnE_0 (d : EN) (w : World) (hkv : d.k = 0) (hv : BsF 0 w d.v) (ht : BsF 0 w d.t.sl) (_hf : d.t.t.fits) (hn : d.n ≤ 1048576) : Calls Try.prog 89 #[.agg #[.int .i64 d.k, .int .i64 d.op, .slice d.v.a d.v.len d.v.cap, .int .i64 d.t.t.k, .slice d.t.t.a d.t.t.len d.t.t.cap, .int .i64 d.t.t.n, .int .i64 d.t.t.s, .slice d.ka d.n d.kc]] w (Tells (nodeOk d) w) := by
  have KC := fun W => kidCount_any 0 W
  have e1 : kLo 0 = 0 := by decide
  have e2 : kHi 0 = 0 := by decide
  rw [e1, e2] at KC
  clear e1 e2
  have WI := fun W => within_any (d.n : Int) 0 0 W
  have HIB : Hid (∀ W, Below w.heap.size w W → Calls Try.prog 107 #[.agg #[.int .i64 0, .int .i64 d.op, .slice none 0 0, .int .i64 d.t.t.k, .slice d.t.t.a d.t.t.len d.t.t.cap, .int .i64 d.t.t.n, .int .i64 d.t.t.s, .slice d.ka d.n d.kc]] W (Tells (BareN ⟨0, d.op, ⟨none, 0, 0, []⟩, d.t, d.ka, d.kc, d.n⟩) W)) := fun W hb => isBare_any ⟨0, d.op, ⟨none, 0, 0, []⟩, d.t, d.ka, d.kc, d.n⟩ W (bs_nil W) (ht.upper (Upper.of_below hb))
  have HKO : Hid (kOk d.k d.n ↔ ((0 : Int) ≤ (d.n : Int) ∧ (d.n : Int) ≤ 0)) := (show (_ ↔ _) by rw [hkv]; unfold kOk; omega)
  have HKV : Hid (d.k = 0) := hkv
  have HIN : Hid (∀ W, Below w.heap.size w W → Calls Try.prog 86 #[.slice d.v.a d.v.len d.v.cap] W fun e w' => e = .returned (.bool (nameOk d.v.b)) ∧ w' = W) := fun W hb => isName_any d.v.a d.v.len d.v.cap d.v.b W (hv.upper (Upper.of_below hb)).1
  rw [hkv]
  clear hv ht hkv
  go_enter Try.func89, Try.ntmps89
  go_wp2_with fail
  refine (KC _).mono ?_
  rintro e w1 ⟨rfl, rfl⟩
  clear KC
  go_wp2_with fail
  refine (WI _).mono ?_
  rintro e w1 ⟨rfl, rfl⟩
  clear WI
  by_cases hkn : (0 : Int) ≤ (d.n : Int) ∧ (d.n : Int) ≤ 0
  rotate_left
  · have hw2 : (decide ((0 : Int) ≤ (d.n : Int)) && decide ((d.n : Int) ≤ 0)) = false := by simp; omega
    have HNO : Hid (¬ nodeOk d) := fun hh => hkn (HKO.out.1 hh.1)
    rw [hw2]
    clear hkn hw2
    go_wp2_with fail
    go_ret
    exact Tells.no HNO.out (bl_a _)
  have hw2 : (decide ((0 : Int) ≤ (d.n : Int)) && decide ((d.n : Int) ≤ 0)) = true := by simp; omega
  have HK : Hid (kOk d.k d.n) := HKO.out.2 hkn
  rw [hw2]
  clear hkn hw2 HKO
  have IN := HIN.out
  cases hnm : nameOk d.v.b with
  | false =>
    rw [hnm] at IN
    have HNO : Hid (¬ nodeOk d) := fun hh => by have h := hh.2.1 (by rw [HKV.out]; simp); rw [hnm] at h; cases h
    clear hnm
    go_wp2_with fail
    refine (IN _ (bl_alloc (bl_a _) _)).mono ?_
    rintro e w3 ⟨rfl, rfl⟩
    clear IN
    go_wp2_with fail
    go_ret
    exact Tells.no HNO.out (bl_alloc (bl_a _) _)
  | true =>
    rw [hnm] at IN
    have HNM : Hid (nameOk d.v.b = true) := hnm
    clear hnm
    go_wp2_with fail
    refine (IN _ (bl_alloc (bl_a _) _)).mono ?_
    rintro e w3 ⟨rfl, rfl⟩
    clear IN
    go_wp2_with fail
    refine (HIB.out _ (bl_alloc (bl_a _) _)).mono ?_
    rintro e w9 ⟨q9, rfl, hq9, hb9⟩
    have HE : Hid (q9 = true ↔ nodeOk d) := (show (q9 = true ↔ nodeOk d) from hq9.trans ⟨fun h => ⟨HK.out, fun _ => HNM.out, fun h2 => absurd (by rw [HKV.out]; simp) h2, fun h2 => absurd h2 (by rw [HKV.out]; decide), fun _ => h.2.2, ⟨by rw [h.1]; decide, by rw [h.1]; decide⟩, fun _ => h.1⟩, fun h => BareN.mk (h.2.2.2.2.2.2 (by rw [HKV.out]; decide)) rfl (h.2.2.2.2.1 (by rw [HKV.out]; decide))⟩)
    have HB9 : Hid (Below w.heap.size w w9) := bl_trans (bl_alloc (bl_a _) _) hb9
    clear hq9 hb9
    go_wp2_with fail
    go_ret
    exact Tells.of HE.out HB9.out

end Go.Proofs.Ytpgbhkkdbkecoaa
