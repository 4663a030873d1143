/- Texts put together: TreD -/
import Derived.Test.YtpgbhkkdbkecoaaNk07
import Derived.Deep.RegionHeld3
/- TreD -/
namespace Go.Proofs.Ytpgbhkkdbkecoaa
open Go.RowKit Go.Deep
set_option maxRecDepth 100000

theorem takeq {P : Program} {md : Region.Mode} {ops : Array Oper} {Q : Exit → Act → World → Prop} {S : World → Prop} {i : Nat} {oi : Oper} {v : Value} {fuel : Nat} {listed : Array Bool} {a : Act} {w : World} (d : Nat) (hi : ops[i]? = some oi) (hd : oi.dst = some d)
    (hs : Region.noSelect ops = true) (hf : Region.free md ops listed i = true) (hr : (Region.ready md ops listed).contains i = true)
    (hQ : ∀ c a w, Q (.panic c) (a.put (some d) v) w → Q (.panic c) a w) (hy : YieldsIf P ops S oi v a) (hS : S w)
    (h : wpAnyH P md ops Q S fuel (listed.setIfInBounds i true) (a.put (some d) v) w) : wpAnyH P md ops Q S (fuel + 1) listed a w :=
  wpAnyH_take hi hs hf hr (by rw [hd]; exact hQ) hy hS (by rw [hd]; exact h)
/-- It answers true. -/
def Yes (w : World) (e : Ending) (w' : World) : Prop := e = .returned (.bool true) ∧ Below w.heap.size w w'
theorem eqByteS_same (x y : SL) (w : World) (hx : BsF 0 w x) (hy : BsF 0 w y) (h : x.b = y.b) : Calls Try.prog 31 #[.slice x.a x.len x.cap, .slice y.a y.len y.cap] w (Yes w) := by
  refine (eqByteS_any x.a y.a x.len y.len x.cap y.cap x.b y.b w hx.1 hy.1).mono ?_
  rintro e w' ⟨rfl, q, rfl⟩
  exact ⟨by rw [h]; simp, below_drewN (Below.refl _ _) _⟩
theorem eqTerm_same (x y : TB) (w : World) (hx : BsF 0 w x.sl) (hy : BsF 0 w y.sl) (h : x.td = y.td) : Calls Try.prog 59 #[.agg #[.int .i64 x.t.k, .slice x.t.a x.t.len x.t.cap, .int .i64 x.t.n, .int .i64 x.t.s], .agg #[.int .i64 y.t.k, .slice y.t.a y.t.len y.t.cap, .int .i64 y.t.n, .int .i64 y.t.s]] w (Yes w) := by
  refine (eqTerm_any x.t.k x.t.n x.t.s y.t.k y.t.n y.t.s x.t.a y.t.a x.t.len x.t.cap y.t.len y.t.cap x.b y.b w hx.1 hy.1).mono ?_
  rintro e w' ⟨rfl, hb⟩
  simp only [TB.td, TD.mk.injEq] at h
  exact ⟨by simp [h], hb⟩

theorem eqItem_same (x y : IB) (w : World) (hx : x.lies 0 w) (hy : y.lies 0 w) (h : x.same y) : Calls Try.prog 69 #[.agg #[.slice x.v.a x.v.len x.v.cap, .int .i64 x.t.t.k, .slice x.t.t.a x.t.t.len x.t.t.cap, .int .i64 x.t.t.n, .int .i64 x.t.t.s], .agg #[.slice y.v.a y.v.len y.v.cap, .int .i64 y.t.t.k, .slice y.t.t.a y.t.t.len y.t.t.cap, .int .i64 y.t.t.n, .int .i64 y.t.t.s]] w (Yes w) := by
  have HZ1 : Hid (∀ (W : World), Below w.heap.size w W → Calls Try.prog 31 #[.slice x.v.a x.v.len x.v.cap, .slice y.v.a y.v.len y.v.cap] W (Yes W)) := fun W hb => eqByteS_same x.v y.v W (hx.1.upper (Upper.of_below hb)) (hy.1.upper (Upper.of_below hb)) h.1
  have HZ2 : Hid (∀ (W : World), Below w.heap.size w W → Calls Try.prog 59 #[.agg #[.int .i64 x.t.t.k, .slice x.t.t.a x.t.t.len x.t.t.cap, .int .i64 x.t.t.n, .int .i64 x.t.t.s], .agg #[.int .i64 y.t.t.k, .slice y.t.t.a y.t.t.len y.t.t.cap, .int .i64 y.t.t.n, .int .i64 y.t.t.s]] W (Yes W)) := fun W hb => eqTerm_same x.t y.t W (hx.2.1.upper (Upper.of_below hb)) (hy.2.1.upper (Upper.of_below hb)) h.2
  clear hx hy h
  go_enter Try.func69, Try.ntmps69
  have Z1 := HZ1.out
  go_wp2_with fail
  refine (Z1 _ (bl_alloc (bl_a _) _)).mono ?_
  rintro e w1 ⟨rfl, hb1⟩
  have HX1 : Hid (Box w1 w.heap.size [.slice x.v.a x.v.len x.v.cap, .int .i64 x.t.t.k, .slice x.t.t.a x.t.t.len x.t.t.cap, .int .i64 x.t.t.n, .int .i64 x.t.t.s]) := ((Box.new w #[.slice x.v.a x.v.len x.v.cap, .int .i64 x.t.t.k, .slice x.t.t.a x.t.t.len x.t.t.cap, .int .i64 x.t.t.n, .int .i64 x.t.t.s] 57 _).below (bl_a _)).below hb1
  have HY1 : Hid (Box w1 (w.heap.size + 1) [.slice y.v.a y.v.len y.v.cap, .int .i64 y.t.t.k, .slice y.t.t.a y.t.t.len y.t.t.cap, .int .i64 y.t.t.n, .int .i64 y.t.t.s]) := (show Box _ _ _ by have h := (Box.new (w.alloc (.cells #[.slice x.v.a x.v.len x.v.cap, .int .i64 x.t.t.k, .slice x.t.t.a x.t.t.len x.t.t.cap, .int .i64 x.t.t.n, .int .i64 x.t.t.s] 57)) #[.slice y.v.a y.v.len y.v.cap, .int .i64 y.t.t.k, .slice y.t.t.a y.t.t.len y.t.t.cap, .int .i64 y.t.t.n, .int .i64 y.t.t.s] 57 _).below hb1; simpa using h)
  have HB1 : Hid (Below w.heap.size w w1) := bl_trans (bl_alloc (bl_a _) _) hb1
  clear hb1 Z1 HZ1
  have la : w1.rangeAt w.heap.size 1 [.int .i64 x.t.t.k, .slice x.t.t.a x.t.t.len x.t.t.cap, .int .i64 x.t.t.n, .int .i64 x.t.t.s] := HX1.out.range 1 _ rfl
  have lb : w1.rangeAt (w.heap.size + 1) 1 [.int .i64 y.t.t.k, .slice y.t.t.a y.t.t.len y.t.t.cap, .int .i64 y.t.t.n, .int .i64 y.t.t.s] := HY1.out.range 1 _ rfl
  have Z2 := HZ2.out
  go_wp2_with (first | (refine wpList_load_mid rfl 36 _ rfl w.heap.size 1 rfl [.int .i64 x.t.t.k, .slice x.t.t.a x.t.t.len x.t.t.cap, .int .i64 x.t.t.n, .int .i64 x.t.t.s] _ la Try.underlying36 rfl (by kernel_rfl) ?_; try simp only [Act.put, List.setIfInBounds_toArray, List.set_cons_zero, List.set_cons_succ]) | (refine wpList_load_mid rfl 36 _ rfl (w.heap.size + 1) 1 rfl [.int .i64 y.t.t.k, .slice y.t.t.a y.t.t.len y.t.t.cap, .int .i64 y.t.t.n, .int .i64 y.t.t.s] _ lb Try.underlying36 rfl (by kernel_rfl) ?_; try simp only [Act.put, List.setIfInBounds_toArray, List.set_cons_zero, List.set_cons_succ]))
  refine (Z2 _ HB1.out).mono ?_
  rintro e w2 ⟨rfl, hb2⟩
  have HX2 : Hid (Box w2 w.heap.size [.slice x.v.a x.v.len x.v.cap, .int .i64 x.t.t.k, .slice x.t.t.a x.t.t.len x.t.t.cap, .int .i64 x.t.t.n, .int .i64 x.t.t.s]) := HX1.out.below hb2
  have HY2 : Hid (Box w2 (w.heap.size + 1) [.slice y.v.a y.v.len y.v.cap, .int .i64 y.t.t.k, .slice y.t.t.a y.t.t.len y.t.t.cap, .int .i64 y.t.t.n, .int .i64 y.t.t.s]) := HY1.out.below hb2
  have HB2 : Hid (Below w.heap.size w w2) := bl_trans HB1.out hb2
  clear hb2 Z2 HZ2 HX1 HY1 HB1 la lb
  go_wp2_with fail
  go_ret
  exact ⟨rfl, HB2.out⟩
set_option maxHeartbeats 1000000 in
theorem eqPat_same (x y : PB) (w : World) (hx : x.lies 0 w) (hy : y.lies 0 w) (h : x.same y) : Calls Try.prog 42 #[.agg #[.slice x.s.v.a x.s.v.len x.s.v.cap, .int .i64 x.s.t.t.k, .slice x.s.t.t.a x.s.t.t.len x.s.t.t.cap, .int .i64 x.s.t.t.n, .int .i64 x.s.t.t.s, .slice x.p.v.a x.p.v.len x.p.v.cap, .int .i64 x.p.t.t.k, .slice x.p.t.t.a x.p.t.t.len x.p.t.t.cap, .int .i64 x.p.t.t.n, .int .i64 x.p.t.t.s, .slice x.o.v.a x.o.v.len x.o.v.cap, .int .i64 x.o.t.t.k, .slice x.o.t.t.a x.o.t.t.len x.o.t.t.cap, .int .i64 x.o.t.t.n, .int .i64 x.o.t.t.s], .agg #[.slice y.s.v.a y.s.v.len y.s.v.cap, .int .i64 y.s.t.t.k, .slice y.s.t.t.a y.s.t.t.len y.s.t.t.cap, .int .i64 y.s.t.t.n, .int .i64 y.s.t.t.s, .slice y.p.v.a y.p.v.len y.p.v.cap, .int .i64 y.p.t.t.k, .slice y.p.t.t.a y.p.t.t.len y.p.t.t.cap, .int .i64 y.p.t.t.n, .int .i64 y.p.t.t.s, .slice y.o.v.a y.o.v.len y.o.v.cap, .int .i64 y.o.t.t.k, .slice y.o.t.t.a y.o.t.t.len y.o.t.t.cap, .int .i64 y.o.t.t.n, .int .i64 y.o.t.t.s]] w (Yes w) := by
  have HZ1 : Hid (∀ (W : World), Below w.heap.size w W → Calls Try.prog 69 #[.agg #[.slice x.s.v.a x.s.v.len x.s.v.cap, .int .i64 x.s.t.t.k, .slice x.s.t.t.a x.s.t.t.len x.s.t.t.cap, .int .i64 x.s.t.t.n, .int .i64 x.s.t.t.s], .agg #[.slice y.s.v.a y.s.v.len y.s.v.cap, .int .i64 y.s.t.t.k, .slice y.s.t.t.a y.s.t.t.len y.s.t.t.cap, .int .i64 y.s.t.t.n, .int .i64 y.s.t.t.s]] W (Yes W)) := fun W hb => eqItem_same x.s y.s W (hx.1.upper (Upper.of_below hb)) (hy.1.upper (Upper.of_below hb)) h.1
  have HZ2 : Hid (∀ (W : World), Below w.heap.size w W → Calls Try.prog 69 #[.agg #[.slice x.p.v.a x.p.v.len x.p.v.cap, .int .i64 x.p.t.t.k, .slice x.p.t.t.a x.p.t.t.len x.p.t.t.cap, .int .i64 x.p.t.t.n, .int .i64 x.p.t.t.s], .agg #[.slice y.p.v.a y.p.v.len y.p.v.cap, .int .i64 y.p.t.t.k, .slice y.p.t.t.a y.p.t.t.len y.p.t.t.cap, .int .i64 y.p.t.t.n, .int .i64 y.p.t.t.s]] W (Yes W)) := fun W hb => eqItem_same x.p y.p W (hx.2.1.upper (Upper.of_below hb)) (hy.2.1.upper (Upper.of_below hb)) h.2.1
  have HZ3 : Hid (∀ (W : World), Below w.heap.size w W → Calls Try.prog 69 #[.agg #[.slice x.o.v.a x.o.v.len x.o.v.cap, .int .i64 x.o.t.t.k, .slice x.o.t.t.a x.o.t.t.len x.o.t.t.cap, .int .i64 x.o.t.t.n, .int .i64 x.o.t.t.s], .agg #[.slice y.o.v.a y.o.v.len y.o.v.cap, .int .i64 y.o.t.t.k, .slice y.o.t.t.a y.o.t.t.len y.o.t.t.cap, .int .i64 y.o.t.t.n, .int .i64 y.o.t.t.s]] W (Yes W)) := fun W hb => eqItem_same x.o y.o W (hx.2.2.upper (Upper.of_below hb)) (hy.2.2.upper (Upper.of_below hb)) h.2.2
  clear hx hy h
  go_enter Try.func42, Try.ntmps42
  have Z1 := HZ1.out
  go_wp2_with fail
  refine (Z1 _ (bl_alloc (bl_a _) _)).mono ?_
  rintro e w1 ⟨rfl, hb1⟩
  have HX1 : Hid (Box w1 w.heap.size [.slice x.s.v.a x.s.v.len x.s.v.cap, .int .i64 x.s.t.t.k, .slice x.s.t.t.a x.s.t.t.len x.s.t.t.cap, .int .i64 x.s.t.t.n, .int .i64 x.s.t.t.s, .slice x.p.v.a x.p.v.len x.p.v.cap, .int .i64 x.p.t.t.k, .slice x.p.t.t.a x.p.t.t.len x.p.t.t.cap, .int .i64 x.p.t.t.n, .int .i64 x.p.t.t.s, .slice x.o.v.a x.o.v.len x.o.v.cap, .int .i64 x.o.t.t.k, .slice x.o.t.t.a x.o.t.t.len x.o.t.t.cap, .int .i64 x.o.t.t.n, .int .i64 x.o.t.t.s]) := ((Box.new w #[.slice x.s.v.a x.s.v.len x.s.v.cap, .int .i64 x.s.t.t.k, .slice x.s.t.t.a x.s.t.t.len x.s.t.t.cap, .int .i64 x.s.t.t.n, .int .i64 x.s.t.t.s, .slice x.p.v.a x.p.v.len x.p.v.cap, .int .i64 x.p.t.t.k, .slice x.p.t.t.a x.p.t.t.len x.p.t.t.cap, .int .i64 x.p.t.t.n, .int .i64 x.p.t.t.s, .slice x.o.v.a x.o.v.len x.o.v.cap, .int .i64 x.o.t.t.k, .slice x.o.t.t.a x.o.t.t.len x.o.t.t.cap, .int .i64 x.o.t.t.n, .int .i64 x.o.t.t.s] 59 _).below (bl_a _)).below hb1
  have HY1 : Hid (Box w1 (w.heap.size + 1) [.slice y.s.v.a y.s.v.len y.s.v.cap, .int .i64 y.s.t.t.k, .slice y.s.t.t.a y.s.t.t.len y.s.t.t.cap, .int .i64 y.s.t.t.n, .int .i64 y.s.t.t.s, .slice y.p.v.a y.p.v.len y.p.v.cap, .int .i64 y.p.t.t.k, .slice y.p.t.t.a y.p.t.t.len y.p.t.t.cap, .int .i64 y.p.t.t.n, .int .i64 y.p.t.t.s, .slice y.o.v.a y.o.v.len y.o.v.cap, .int .i64 y.o.t.t.k, .slice y.o.t.t.a y.o.t.t.len y.o.t.t.cap, .int .i64 y.o.t.t.n, .int .i64 y.o.t.t.s]) := (show Box _ _ _ by have h := (Box.new (w.alloc (.cells #[.slice x.s.v.a x.s.v.len x.s.v.cap, .int .i64 x.s.t.t.k, .slice x.s.t.t.a x.s.t.t.len x.s.t.t.cap, .int .i64 x.s.t.t.n, .int .i64 x.s.t.t.s, .slice x.p.v.a x.p.v.len x.p.v.cap, .int .i64 x.p.t.t.k, .slice x.p.t.t.a x.p.t.t.len x.p.t.t.cap, .int .i64 x.p.t.t.n, .int .i64 x.p.t.t.s, .slice x.o.v.a x.o.v.len x.o.v.cap, .int .i64 x.o.t.t.k, .slice x.o.t.t.a x.o.t.t.len x.o.t.t.cap, .int .i64 x.o.t.t.n, .int .i64 x.o.t.t.s] 59)) #[.slice y.s.v.a y.s.v.len y.s.v.cap, .int .i64 y.s.t.t.k, .slice y.s.t.t.a y.s.t.t.len y.s.t.t.cap, .int .i64 y.s.t.t.n, .int .i64 y.s.t.t.s, .slice y.p.v.a y.p.v.len y.p.v.cap, .int .i64 y.p.t.t.k, .slice y.p.t.t.a y.p.t.t.len y.p.t.t.cap, .int .i64 y.p.t.t.n, .int .i64 y.p.t.t.s, .slice y.o.v.a y.o.v.len y.o.v.cap, .int .i64 y.o.t.t.k, .slice y.o.t.t.a y.o.t.t.len y.o.t.t.cap, .int .i64 y.o.t.t.n, .int .i64 y.o.t.t.s] 59 _).below hb1; simpa using h)
  have HB1 : Hid (Below w.heap.size w w1) := bl_trans (bl_alloc (bl_a _) _) hb1
  clear hb1 Z1 HZ1
  have la : w1.rangeAt w.heap.size 5 [.slice x.p.v.a x.p.v.len x.p.v.cap, .int .i64 x.p.t.t.k, .slice x.p.t.t.a x.p.t.t.len x.p.t.t.cap, .int .i64 x.p.t.t.n, .int .i64 x.p.t.t.s] := HX1.out.range 5 _ rfl
  have lb : w1.rangeAt (w.heap.size + 1) 5 [.slice y.p.v.a y.p.v.len y.p.v.cap, .int .i64 y.p.t.t.k, .slice y.p.t.t.a y.p.t.t.len y.p.t.t.cap, .int .i64 y.p.t.t.n, .int .i64 y.p.t.t.s] := HY1.out.range 5 _ rfl
  have Z2 := HZ2.out
  go_wp2_with (first | (refine wpList_load_mid rfl 57 _ rfl w.heap.size 5 rfl [.slice x.p.v.a x.p.v.len x.p.v.cap, .int .i64 x.p.t.t.k, .slice x.p.t.t.a x.p.t.t.len x.p.t.t.cap, .int .i64 x.p.t.t.n, .int .i64 x.p.t.t.s] _ la Try.underlying57 rfl (by kernel_rfl) ?_; try simp only [Act.put, List.setIfInBounds_toArray, List.set_cons_zero, List.set_cons_succ]) | (refine wpList_load_mid rfl 57 _ rfl (w.heap.size + 1) 5 rfl [.slice y.p.v.a y.p.v.len y.p.v.cap, .int .i64 y.p.t.t.k, .slice y.p.t.t.a y.p.t.t.len y.p.t.t.cap, .int .i64 y.p.t.t.n, .int .i64 y.p.t.t.s] _ lb Try.underlying57 rfl (by kernel_rfl) ?_; try simp only [Act.put, List.setIfInBounds_toArray, List.set_cons_zero, List.set_cons_succ]))
  refine (Z2 _ HB1.out).mono ?_
  rintro e w2 ⟨rfl, hb2⟩
  have HX2 : Hid (Box w2 w.heap.size [.slice x.s.v.a x.s.v.len x.s.v.cap, .int .i64 x.s.t.t.k, .slice x.s.t.t.a x.s.t.t.len x.s.t.t.cap, .int .i64 x.s.t.t.n, .int .i64 x.s.t.t.s, .slice x.p.v.a x.p.v.len x.p.v.cap, .int .i64 x.p.t.t.k, .slice x.p.t.t.a x.p.t.t.len x.p.t.t.cap, .int .i64 x.p.t.t.n, .int .i64 x.p.t.t.s, .slice x.o.v.a x.o.v.len x.o.v.cap, .int .i64 x.o.t.t.k, .slice x.o.t.t.a x.o.t.t.len x.o.t.t.cap, .int .i64 x.o.t.t.n, .int .i64 x.o.t.t.s]) := HX1.out.below hb2
  have HY2 : Hid (Box w2 (w.heap.size + 1) [.slice y.s.v.a y.s.v.len y.s.v.cap, .int .i64 y.s.t.t.k, .slice y.s.t.t.a y.s.t.t.len y.s.t.t.cap, .int .i64 y.s.t.t.n, .int .i64 y.s.t.t.s, .slice y.p.v.a y.p.v.len y.p.v.cap, .int .i64 y.p.t.t.k, .slice y.p.t.t.a y.p.t.t.len y.p.t.t.cap, .int .i64 y.p.t.t.n, .int .i64 y.p.t.t.s, .slice y.o.v.a y.o.v.len y.o.v.cap, .int .i64 y.o.t.t.k, .slice y.o.t.t.a y.o.t.t.len y.o.t.t.cap, .int .i64 y.o.t.t.n, .int .i64 y.o.t.t.s]) := HY1.out.below hb2
  have HB2 : Hid (Below w.heap.size w w2) := bl_trans HB1.out hb2
  clear hb2 Z2 HZ2 HX1 HY1 HB1 la lb
  have la : w2.rangeAt w.heap.size 10 [.slice x.o.v.a x.o.v.len x.o.v.cap, .int .i64 x.o.t.t.k, .slice x.o.t.t.a x.o.t.t.len x.o.t.t.cap, .int .i64 x.o.t.t.n, .int .i64 x.o.t.t.s] := HX2.out.range 10 _ rfl
  have lb : w2.rangeAt (w.heap.size + 1) 10 [.slice y.o.v.a y.o.v.len y.o.v.cap, .int .i64 y.o.t.t.k, .slice y.o.t.t.a y.o.t.t.len y.o.t.t.cap, .int .i64 y.o.t.t.n, .int .i64 y.o.t.t.s] := HY2.out.range 10 _ rfl
  have Z3 := HZ3.out
  go_wp2_with (first | (refine wpList_load_mid rfl 57 _ rfl w.heap.size 10 rfl [.slice x.o.v.a x.o.v.len x.o.v.cap, .int .i64 x.o.t.t.k, .slice x.o.t.t.a x.o.t.t.len x.o.t.t.cap, .int .i64 x.o.t.t.n, .int .i64 x.o.t.t.s] _ la Try.underlying57 rfl (by kernel_rfl) ?_; try simp only [Act.put, List.setIfInBounds_toArray, List.set_cons_zero, List.set_cons_succ]) | (refine wpList_load_mid rfl 57 _ rfl (w.heap.size + 1) 10 rfl [.slice y.o.v.a y.o.v.len y.o.v.cap, .int .i64 y.o.t.t.k, .slice y.o.t.t.a y.o.t.t.len y.o.t.t.cap, .int .i64 y.o.t.t.n, .int .i64 y.o.t.t.s] _ lb Try.underlying57 rfl (by kernel_rfl) ?_; try simp only [Act.put, List.setIfInBounds_toArray, List.set_cons_zero, List.set_cons_succ]))
  refine (Z3 _ HB2.out).mono ?_
  rintro e w3 ⟨rfl, hb3⟩
  have HX3 : Hid (Box w3 w.heap.size [.slice x.s.v.a x.s.v.len x.s.v.cap, .int .i64 x.s.t.t.k, .slice x.s.t.t.a x.s.t.t.len x.s.t.t.cap, .int .i64 x.s.t.t.n, .int .i64 x.s.t.t.s, .slice x.p.v.a x.p.v.len x.p.v.cap, .int .i64 x.p.t.t.k, .slice x.p.t.t.a x.p.t.t.len x.p.t.t.cap, .int .i64 x.p.t.t.n, .int .i64 x.p.t.t.s, .slice x.o.v.a x.o.v.len x.o.v.cap, .int .i64 x.o.t.t.k, .slice x.o.t.t.a x.o.t.t.len x.o.t.t.cap, .int .i64 x.o.t.t.n, .int .i64 x.o.t.t.s]) := HX2.out.below hb3
  have HY3 : Hid (Box w3 (w.heap.size + 1) [.slice y.s.v.a y.s.v.len y.s.v.cap, .int .i64 y.s.t.t.k, .slice y.s.t.t.a y.s.t.t.len y.s.t.t.cap, .int .i64 y.s.t.t.n, .int .i64 y.s.t.t.s, .slice y.p.v.a y.p.v.len y.p.v.cap, .int .i64 y.p.t.t.k, .slice y.p.t.t.a y.p.t.t.len y.p.t.t.cap, .int .i64 y.p.t.t.n, .int .i64 y.p.t.t.s, .slice y.o.v.a y.o.v.len y.o.v.cap, .int .i64 y.o.t.t.k, .slice y.o.t.t.a y.o.t.t.len y.o.t.t.cap, .int .i64 y.o.t.t.n, .int .i64 y.o.t.t.s]) := HY2.out.below hb3
  have HB3 : Hid (Below w.heap.size w w3) := bl_trans HB2.out hb3
  clear hb3 Z3 HZ3 HX2 HY2 HB2 la lb
  go_wp2_with fail
  go_ret
  exact ⟨rfl, HB3.out⟩
set_option maxHeartbeats 4000000 in
theorem eqExprS_of (a a' : Option Addr) (cap cap' n : Nat) (x y : Nat → ET) (w : World) (hn : n ≤ 1048576) (hR : KRow 0 w 8 a n (fun i => (x i).d.cells)) (hR' : KRow 0 w 8 a' n (fun i => (y i).d.cells))
    (IH : ∀ i, i < n → ∀ (W : World), Below w.heap.size w W → Calls Try.prog 30 #[.agg #[.int .i64 (x i).d.k, .int .i64 (x i).d.op, .slice (x i).d.v.a (x i).d.v.len (x i).d.v.cap, .int .i64 (x i).d.t.t.k, .slice (x i).d.t.t.a (x i).d.t.t.len (x i).d.t.t.cap, .int .i64 (x i).d.t.t.n, .int .i64 (x i).d.t.t.s, .slice (x i).d.ka (x i).d.n (x i).d.kc], .agg #[.int .i64 (y i).d.k, .int .i64 (y i).d.op, .slice (y i).d.v.a (y i).d.v.len (y i).d.v.cap, .int .i64 (y i).d.t.t.k, .slice (y i).d.t.t.a (y i).d.t.t.len (y i).d.t.t.cap, .int .i64 (y i).d.t.t.n, .int .i64 (y i).d.t.t.s, .slice (y i).d.ka (y i).d.n (y i).d.kc]] W (Yes W)) :
    Calls Try.prog 60 #[.slice a n cap, .slice a' n cap'] w (Yes w) := by
  by_cases hn0 : n = 0
  · subst hn0
    clear hR hR' IH hn
    go_enter Try.func60, Try.ntmps60
    go_wp2
    refine wp_loop_rounds 1 ?_
    rw [rounds_succ]
    go_wp2
    go_ret
    exact ⟨rfl, Below.refl _ _⟩
  obtain ⟨b, off, rfl, _, hlt, hc⟩ := hR.resolve_left hn0
  obtain ⟨b', off', rfl, _, hlt', hc'⟩ := hR'.resolve_left hn0
  have HC : Hid (∀ i, i < n → ∀ c u, ((x i).d.cells)[c]? = some u → w.cell? ⟨b, off + i * 8 + c, none⟩ = some u) := hc
  have HC' : Hid (∀ i, i < n → ∀ c u, ((y i).d.cells)[c]? = some u → w.cell? ⟨b', off' + i * 8 + c, none⟩ = some u) := hc'
  have HI : Hid (∀ i, i < n → ∀ (W : World), Below w.heap.size w W → Calls Try.prog 30 #[.agg #[.int .i64 (x i).d.k, .int .i64 (x i).d.op, .slice (x i).d.v.a (x i).d.v.len (x i).d.v.cap, .int .i64 (x i).d.t.t.k, .slice (x i).d.t.t.a (x i).d.t.t.len (x i).d.t.t.cap, .int .i64 (x i).d.t.t.n, .int .i64 (x i).d.t.t.s, .slice (x i).d.ka (x i).d.n (x i).d.kc], .agg #[.int .i64 (y i).d.k, .int .i64 (y i).d.op, .slice (y i).d.v.a (y i).d.v.len (y i).d.v.cap, .int .i64 (y i).d.t.t.k, .slice (y i).d.t.t.a (y i).d.t.t.len (y i).d.t.t.cap, .int .i64 (y i).d.t.t.n, .int .i64 (y i).d.t.t.s, .slice (y i).d.ka (y i).d.n (y i).d.kc]] W (Yes W)) := IH
  clear hR hR' hc hc' IH
  go_enter Try.func60, Try.ntmps60
  go_wp2
  go_loopw [5] (fun i wr => ∃ k : Nat, k ≤ n ∧ i = .int .i64 k ∧ Hid (Below w.heap.size w wr)) (fun i _ => n - (intOf i).toNat)
  case atStart => exact ⟨0, Nat.zero_le _, rfl, Below.refl _ _⟩
  case round =>
    obtain ⟨k, hk, rfl, HB⟩ := hrel
    by_cases hlk : k < n
    · have hlkz : (k : Int) < (n : Int) := by omega
      have HRX : Hid (∀ w', Below wr.heap.size wr w' → w'.rangeAt b (off + k * 8) [.int .i64 (x k).d.k, .int .i64 (x k).d.op, .slice (x k).d.v.a (x k).d.v.len (x k).d.v.cap, .int .i64 (x k).d.t.t.k, .slice (x k).d.t.t.a (x k).d.t.t.len (x k).d.t.t.cap, .int .i64 (x k).d.t.t.n, .int .i64 (x k).d.t.t.s, .slice (x k).d.ka (x k).d.n (x k).d.kc]) := fun w' hw c u hu => ((bl_trans HB.out hw).cell (p := ⟨b, off + k * 8 + c, none⟩) hlt).trans (HC.out k hlk c u hu)
      have HRY : Hid (∀ w', Below wr.heap.size wr w' → w'.rangeAt b' (off' + k * 8) [.int .i64 (y k).d.k, .int .i64 (y k).d.op, .slice (y k).d.v.a (y k).d.v.len (y k).d.v.cap, .int .i64 (y k).d.t.t.k, .slice (y k).d.t.t.a (y k).d.t.t.len (y k).d.t.t.cap, .int .i64 (y k).d.t.t.n, .int .i64 (y k).d.t.t.s, .slice (y k).d.ka (y k).d.n (y k).d.kc]) := fun w' hw c u hu => ((bl_trans HB.out hw).cell (p := ⟨b', off' + k * 8 + c, none⟩) hlt').trans (HC'.out k hlk c u hu)
      have Z := HI.out k hlk wr.drew (bl_trans HB.out (Below.drew (Below.refl _ _)))
      go_wp2_with fail
      refine wp_region_held_drew (S := fun w' => Below wr.heap.size wr w') (by kernel_rfl) ?_ (fun hHeld => ?_)
      · exact Below.drew (Below.refl _ _)
      refine takeq (i := 0) 17 (v := ?v8) rfl rfl (by kernel_rfl) (by kernel_rfl) (by kernel_rfl) (fun _ _ _ h => h) (Or.inl ⟨by rfl, ?y8⟩) hHeld ?r8
      case y8 => (intro w' hSw; skip; go_simp; (try with_reducible rfl))
      try simp only [Act.put, List.setIfInBounds_toArray, List.set_cons_zero, List.set_cons_succ]
      refine takeq (i := 1) 18 (v := ?v9) rfl rfl (by kernel_rfl) (by kernel_rfl) (by kernel_rfl) (fun _ _ _ h => h) (Or.inl ⟨by rfl, ?y9⟩) hHeld ?r9
      case y9 => (intro w' hSw; skip; go_simp; (try with_reducible rfl))
      try simp only [Act.put, List.setIfInBounds_toArray, List.set_cons_zero, List.set_cons_succ]
      refine takeq (i := 2) 19 (v := ?v10) rfl rfl (by kernel_rfl) (by kernel_rfl) (by kernel_rfl) (fun _ _ _ h => h) (Or.inl ⟨by rfl, ?y10⟩) hHeld ?r10
      case y10 => (intro w' hSw; skip; go_simp; (try with_reducible rfl))
      try simp only [Act.put, List.setIfInBounds_toArray, List.set_cons_zero, List.set_cons_succ]
      refine takeq (i := 3) 20 (v := .agg #[.int .i64 (x k).d.k, .int .i64 (x k).d.op, .slice (x k).d.v.a (x k).d.v.len (x k).d.v.cap, .int .i64 (x k).d.t.t.k, .slice (x k).d.t.t.a (x k).d.t.t.len (x k).d.t.t.cap, .int .i64 (x k).d.t.t.n, .int .i64 (x k).d.t.t.s, .slice (x k).d.ka (x k).d.n (x k).d.kc]) rfl rfl (by kernel_rfl) (by kernel_rfl) (by kernel_rfl) (fun _ _ _ h => h) (yieldsIf_load_mid (by rfl) 39 _ rfl b (off + k * 8) rfl [.int .i64 (x k).d.k, .int .i64 (x k).d.op, .slice (x k).d.v.a (x k).d.v.len (x k).d.v.cap, .int .i64 (x k).d.t.t.k, .slice (x k).d.t.t.a (x k).d.t.t.len (x k).d.t.t.cap, .int .i64 (x k).d.t.t.n, .int .i64 (x k).d.t.t.s, .slice (x k).d.ka (x k).d.n (x k).d.kc] _ HRX.out Try.underlying39 rfl (by kernel_rfl)) hHeld ?_
      try simp only [Act.put, List.setIfInBounds_toArray, List.set_cons_zero, List.set_cons_succ]
      refine takeq (i := 4) 21 (v := ?v11) rfl rfl (by kernel_rfl) (by kernel_rfl) (by kernel_rfl) (fun _ _ _ h => h) (Or.inl ⟨by rfl, ?y11⟩) hHeld ?r11
      case y11 => (intro w' hSw; skip; go_simp; (try with_reducible rfl))
      try simp only [Act.put, List.setIfInBounds_toArray, List.set_cons_zero, List.set_cons_succ]
      refine takeq (i := 5) 22 (v := ?v12) rfl rfl (by kernel_rfl) (by kernel_rfl) (by kernel_rfl) (fun _ _ _ h => h) (Or.inl ⟨by rfl, ?y12⟩) hHeld ?r12
      case y12 => (intro w' hSw; skip; go_simp; (try with_reducible rfl))
      try simp only [Act.put, List.setIfInBounds_toArray, List.set_cons_zero, List.set_cons_succ]
      refine takeq (i := 6) 23 (v := ?v13) rfl rfl (by kernel_rfl) (by kernel_rfl) (by kernel_rfl) (fun _ _ _ h => h) (Or.inl ⟨by rfl, ?y13⟩) hHeld ?r13
      case y13 => (intro w' hSw; skip; go_simp; (try with_reducible rfl))
      try simp only [Act.put, List.setIfInBounds_toArray, List.set_cons_zero, List.set_cons_succ]
      refine takeq (i := 7) 24 (v := .agg #[.int .i64 (y k).d.k, .int .i64 (y k).d.op, .slice (y k).d.v.a (y k).d.v.len (y k).d.v.cap, .int .i64 (y k).d.t.t.k, .slice (y k).d.t.t.a (y k).d.t.t.len (y k).d.t.t.cap, .int .i64 (y k).d.t.t.n, .int .i64 (y k).d.t.t.s, .slice (y k).d.ka (y k).d.n (y k).d.kc]) rfl rfl (by kernel_rfl) (by kernel_rfl) (by kernel_rfl) (fun _ _ _ h => h) (yieldsIf_load_mid (by rfl) 39 _ rfl b' (off' + k * 8) rfl [.int .i64 (y k).d.k, .int .i64 (y k).d.op, .slice (y k).d.v.a (y k).d.v.len (y k).d.v.cap, .int .i64 (y k).d.t.t.k, .slice (y k).d.t.t.a (y k).d.t.t.len (y k).d.t.t.cap, .int .i64 (y k).d.t.t.n, .int .i64 (y k).d.t.t.s, .slice (y k).d.ka (y k).d.n (y k).d.kc] _ HRY.out Try.underlying39 rfl (by kernel_rfl)) hHeld ?_
      try simp only [Act.put, List.setIfInBounds_toArray, List.set_cons_zero, List.set_cons_succ]
      refine wpAnyH_ready (rs := [8]) (by kernel_rfl) (by simp) ?_
      refine AllReadyH.cons rfl (fun K hK => ?_) AllReadyH.nil
      go_simp
      refine Z.mono ?_
      rintro e w2 ⟨rfl, hb2⟩
      have HB2 : Hid (Below wr.heap.size wr w2) := (Below.drew (Below.refl _ _)).trans hb2
      clear hb2
      go_wp2_with fail
      refine hK.out _ _ ?_ (fun hHeld => ?_)
      · exact HB2.out
      clear hK K
      try simp only [Act.put, List.setIfInBounds_toArray, List.set_cons_zero, List.set_cons_succ]
      refine takeq (i := 9) 26 (v := ?v14) rfl rfl (by kernel_rfl) (by kernel_rfl) (by kernel_rfl) (fun _ _ _ h => h) (Or.inl ⟨by rfl, ?y14⟩) hHeld ?r14
      case y14 => (intro w' hSw; skip; go_simp; (try with_reducible rfl))
      try simp only [Act.put, List.setIfInBounds_toArray, List.set_cons_zero, List.set_cons_succ]
      refine wpAnyH_done (by kernel_rfl) ?_ _
      have HBq : Hid (Below w.heap.size w w2) := bl_trans HB.out HB2.out
      clear hHeld HRX HRY Z HB HB2
      go_wp2_with fail
      go_roundw
      case rel => exact ⟨k + 1, by omega, by go_num, HBq⟩
      case measure => simp [intOf]; omega
    · obtain rfl : k = n := by omega
      have hlkz : ¬ (k : Int) < (k : Int) := by omega
      go_wp2_with fail
      go_ret
      exact ⟨rfl, HB.out⟩

set_option maxHeartbeats 4000000 in
theorem eqTermS_of (a a' : Option Addr) (cap cap' n : Nat) (x y : Nat → TB) (w : World) (hn : n ≤ 1048576) (hR : KRow 0 w 4 a n (fun i => enc4 (x i).t)) (hR' : KRow 0 w 4 a' n (fun i => enc4 (y i).t))
    (IH : ∀ i, i < n → ∀ (W : World), Below w.heap.size w W → Calls Try.prog 59 #[.agg #[.int .i64 (x i).t.k, .slice (x i).t.a (x i).t.len (x i).t.cap, .int .i64 (x i).t.n, .int .i64 (x i).t.s], .agg #[.int .i64 (y i).t.k, .slice (y i).t.a (y i).t.len (y i).t.cap, .int .i64 (y i).t.n, .int .i64 (y i).t.s]] W (Yes W)) :
    Calls Try.prog 32 #[.slice a n cap, .slice a' n cap'] w (Yes w) := by
  by_cases hn0 : n = 0
  · subst hn0
    clear hR hR' IH hn
    go_enter Try.func32, Try.ntmps32
    go_wp2
    refine wp_loop_rounds 1 ?_
    rw [rounds_succ]
    go_wp2
    go_ret
    exact ⟨rfl, Below.refl _ _⟩
  obtain ⟨b, off, rfl, _, hlt, hc⟩ := hR.resolve_left hn0
  obtain ⟨b', off', rfl, _, hlt', hc'⟩ := hR'.resolve_left hn0
  have HC : Hid (∀ i, i < n → ∀ c u, (enc4 (x i).t)[c]? = some u → w.cell? ⟨b, off + i * 4 + c, none⟩ = some u) := hc
  have HC' : Hid (∀ i, i < n → ∀ c u, (enc4 (y i).t)[c]? = some u → w.cell? ⟨b', off' + i * 4 + c, none⟩ = some u) := hc'
  have HI : Hid (∀ i, i < n → ∀ (W : World), Below w.heap.size w W → Calls Try.prog 59 #[.agg #[.int .i64 (x i).t.k, .slice (x i).t.a (x i).t.len (x i).t.cap, .int .i64 (x i).t.n, .int .i64 (x i).t.s], .agg #[.int .i64 (y i).t.k, .slice (y i).t.a (y i).t.len (y i).t.cap, .int .i64 (y i).t.n, .int .i64 (y i).t.s]] W (Yes W)) := IH
  clear hR hR' hc hc' IH
  go_enter Try.func32, Try.ntmps32
  go_wp2
  go_loopw [5] (fun i wr => ∃ k : Nat, k ≤ n ∧ i = .int .i64 k ∧ Hid (Below w.heap.size w wr)) (fun i _ => n - (intOf i).toNat)
  case atStart => exact ⟨0, Nat.zero_le _, rfl, Below.refl _ _⟩
  case round =>
    obtain ⟨k, hk, rfl, HB⟩ := hrel
    by_cases hlk : k < n
    · have hlkz : (k : Int) < (n : Int) := by omega
      have HRX : Hid (∀ w', Below wr.heap.size wr w' → w'.rangeAt b (off + k * 4) [.int .i64 (x k).t.k, .slice (x k).t.a (x k).t.len (x k).t.cap, .int .i64 (x k).t.n, .int .i64 (x k).t.s]) := fun w' hw c u hu => ((bl_trans HB.out hw).cell (p := ⟨b, off + k * 4 + c, none⟩) hlt).trans (HC.out k hlk c u hu)
      have HRY : Hid (∀ w', Below wr.heap.size wr w' → w'.rangeAt b' (off' + k * 4) [.int .i64 (y k).t.k, .slice (y k).t.a (y k).t.len (y k).t.cap, .int .i64 (y k).t.n, .int .i64 (y k).t.s]) := fun w' hw c u hu => ((bl_trans HB.out hw).cell (p := ⟨b', off' + k * 4 + c, none⟩) hlt').trans (HC'.out k hlk c u hu)
      have Z := HI.out k hlk wr.drew (bl_trans HB.out (Below.drew (Below.refl _ _)))
      go_wp2_with fail
      refine wp_region_held_drew (S := fun w' => Below wr.heap.size wr w') (by kernel_rfl) ?_ (fun hHeld => ?_)
      · exact Below.drew (Below.refl _ _)
      refine takeq (i := 0) 17 (v := ?v15) rfl rfl (by kernel_rfl) (by kernel_rfl) (by kernel_rfl) (fun _ _ _ h => h) (Or.inl ⟨by rfl, ?y15⟩) hHeld ?r15
      case y15 => (intro w' hSw; skip; go_simp; (try with_reducible rfl))
      try simp only [Act.put, List.setIfInBounds_toArray, List.set_cons_zero, List.set_cons_succ]
      refine takeq (i := 1) 18 (v := ?v16) rfl rfl (by kernel_rfl) (by kernel_rfl) (by kernel_rfl) (fun _ _ _ h => h) (Or.inl ⟨by rfl, ?y16⟩) hHeld ?r16
      case y16 => (intro w' hSw; skip; go_simp; (try with_reducible rfl))
      try simp only [Act.put, List.setIfInBounds_toArray, List.set_cons_zero, List.set_cons_succ]
      refine takeq (i := 2) 19 (v := ?v17) rfl rfl (by kernel_rfl) (by kernel_rfl) (by kernel_rfl) (fun _ _ _ h => h) (Or.inl ⟨by rfl, ?y17⟩) hHeld ?r17
      case y17 => (intro w' hSw; skip; go_simp; (try with_reducible rfl))
      try simp only [Act.put, List.setIfInBounds_toArray, List.set_cons_zero, List.set_cons_succ]
      refine takeq (i := 3) 20 (v := .agg #[.int .i64 (x k).t.k, .slice (x k).t.a (x k).t.len (x k).t.cap, .int .i64 (x k).t.n, .int .i64 (x k).t.s]) rfl rfl (by kernel_rfl) (by kernel_rfl) (by kernel_rfl) (fun _ _ _ h => h) (yieldsIf_load_mid (by rfl) 36 _ rfl b (off + k * 4) rfl [.int .i64 (x k).t.k, .slice (x k).t.a (x k).t.len (x k).t.cap, .int .i64 (x k).t.n, .int .i64 (x k).t.s] _ HRX.out Try.underlying36 rfl (by kernel_rfl)) hHeld ?_
      try simp only [Act.put, List.setIfInBounds_toArray, List.set_cons_zero, List.set_cons_succ]
      refine takeq (i := 4) 21 (v := ?v18) rfl rfl (by kernel_rfl) (by kernel_rfl) (by kernel_rfl) (fun _ _ _ h => h) (Or.inl ⟨by rfl, ?y18⟩) hHeld ?r18
      case y18 => (intro w' hSw; skip; go_simp; (try with_reducible rfl))
      try simp only [Act.put, List.setIfInBounds_toArray, List.set_cons_zero, List.set_cons_succ]
      refine takeq (i := 5) 22 (v := ?v19) rfl rfl (by kernel_rfl) (by kernel_rfl) (by kernel_rfl) (fun _ _ _ h => h) (Or.inl ⟨by rfl, ?y19⟩) hHeld ?r19
      case y19 => (intro w' hSw; skip; go_simp; (try with_reducible rfl))
      try simp only [Act.put, List.setIfInBounds_toArray, List.set_cons_zero, List.set_cons_succ]
      refine takeq (i := 6) 23 (v := ?v20) rfl rfl (by kernel_rfl) (by kernel_rfl) (by kernel_rfl) (fun _ _ _ h => h) (Or.inl ⟨by rfl, ?y20⟩) hHeld ?r20
      case y20 => (intro w' hSw; skip; go_simp; (try with_reducible rfl))
      try simp only [Act.put, List.setIfInBounds_toArray, List.set_cons_zero, List.set_cons_succ]
      refine takeq (i := 7) 24 (v := .agg #[.int .i64 (y k).t.k, .slice (y k).t.a (y k).t.len (y k).t.cap, .int .i64 (y k).t.n, .int .i64 (y k).t.s]) rfl rfl (by kernel_rfl) (by kernel_rfl) (by kernel_rfl) (fun _ _ _ h => h) (yieldsIf_load_mid (by rfl) 36 _ rfl b' (off' + k * 4) rfl [.int .i64 (y k).t.k, .slice (y k).t.a (y k).t.len (y k).t.cap, .int .i64 (y k).t.n, .int .i64 (y k).t.s] _ HRY.out Try.underlying36 rfl (by kernel_rfl)) hHeld ?_
      try simp only [Act.put, List.setIfInBounds_toArray, List.set_cons_zero, List.set_cons_succ]
      refine wpAnyH_ready (rs := [8]) (by kernel_rfl) (by simp) ?_
      refine AllReadyH.cons rfl (fun K hK => ?_) AllReadyH.nil
      go_simp
      refine Z.mono ?_
      rintro e w2 ⟨rfl, hb2⟩
      have HB2 : Hid (Below wr.heap.size wr w2) := (Below.drew (Below.refl _ _)).trans hb2
      clear hb2
      go_wp2_with fail
      refine hK.out _ _ ?_ (fun hHeld => ?_)
      · exact HB2.out
      clear hK K
      try simp only [Act.put, List.setIfInBounds_toArray, List.set_cons_zero, List.set_cons_succ]
      refine takeq (i := 9) 26 (v := ?v21) rfl rfl (by kernel_rfl) (by kernel_rfl) (by kernel_rfl) (fun _ _ _ h => h) (Or.inl ⟨by rfl, ?y21⟩) hHeld ?r21
      case y21 => (intro w' hSw; skip; go_simp; (try with_reducible rfl))
      try simp only [Act.put, List.setIfInBounds_toArray, List.set_cons_zero, List.set_cons_succ]
      refine wpAnyH_done (by kernel_rfl) ?_ _
      have HBq : Hid (Below w.heap.size w w2) := bl_trans HB.out HB2.out
      clear hHeld HRX HRY Z HB HB2
      go_wp2_with fail
      go_roundw
      case rel => exact ⟨k + 1, by omega, by go_num, HBq⟩
      case measure => simp [intOf]; omega
    · obtain rfl : k = n := by omega
      have hlkz : ¬ (k : Int) < (k : Int) := by omega
      go_wp2_with fail
      go_ret
      exact ⟨rfl, HB.out⟩

theorem eqTermS_same (a a' : Option Addr) (cap cap' : Nat) (l l' : List TB) (w : World) (hn : l.length ≤ 1048576) (h : TRowF 0 w a l) (h' : TRowF 0 w a' l') (he : l.map TB.td = l'.map TB.td) :
    Calls Try.prog 32 #[.slice a l.length cap, .slice a' l'.length cap'] w (Yes w) := by
  have hl : l'.length = l.length := by have := congrArg List.length he; simpa using this.symm
  have h2 := trow_krow h'
  rw [hl] at h2 ⊢
  refine eqTermS_of a a' cap cap' l.length (tbG l) (tbG l') w hn (trow_krow h) h2 fun i hi W hW => ?_
  have m1 := tbG_at hi
  have m2 := tbG_at (l := l') (i := i) (by omega)
  refine eqTerm_same (tbG l i) (tbG l' i) W ?_ ?_ ?_
  · rw [m1.1]
    exact (h.2.2 _ m1.2).1.upper (Upper.of_below hW)
  · rw [m2.1]
    exact (h'.2.2 _ m2.2).1.upper (Upper.of_below hW)
  · rw [m1.1, m2.1]
    have e1 : (l.map TB.td)[i]? = (l'.map TB.td)[i]? := by rw [he]
    rw [List.getElem?_map, List.getElem?_map, List.getElem?_eq_getElem hi, List.getElem?_eq_getElem (by omega)] at e1
    exact Option.some.inj e1

set_option maxHeartbeats 4000000 in
theorem eqExpr_same (e : ET) : ∀ (e' : ET) (w : World), e.lies 0 w → e'.lies 0 w → e.same e' → Calls Try.prog 30 #[.agg #[.int .i64 e.d.k, .int .i64 e.d.op, .slice e.d.v.a e.d.v.len e.d.v.cap, .int .i64 e.d.t.t.k, .slice e.d.t.t.a e.d.t.t.len e.d.t.t.cap, .int .i64 e.d.t.t.n, .int .i64 e.d.t.t.s, .slice e.d.ka e.d.n e.d.kc], .agg #[.int .i64 e'.d.k, .int .i64 e'.d.op, .slice e'.d.v.a e'.d.v.len e'.d.v.cap, .int .i64 e'.d.t.t.k, .slice e'.d.t.t.a e'.d.t.t.len e'.d.t.t.cap, .int .i64 e'.d.t.t.n, .int .i64 e'.d.t.t.s, .slice e'.d.ka e'.d.n e'.d.kc]] w (Yes w) := by
  induction e with
  | nil => exact fun _ _ h => False.elim h
  | mk d kid ih =>
    intro e' w hx hy h
    cases e' with
    | nil => exact False.elim hy
    | mk d' kid' =>
    show Calls Try.prog 30 #[.agg #[.int .i64 d.k, .int .i64 d.op, .slice d.v.a d.v.len d.v.cap, .int .i64 d.t.t.k, .slice d.t.t.a d.t.t.len d.t.t.cap, .int .i64 d.t.t.n, .int .i64 d.t.t.s, .slice d.ka d.n d.kc], .agg #[.int .i64 d'.k, .int .i64 d'.op, .slice d'.v.a d'.v.len d'.v.cap, .int .i64 d'.t.t.k, .slice d'.t.t.a d'.t.t.len d'.t.t.cap, .int .i64 d'.t.t.n, .int .i64 d'.t.t.s, .slice d'.ka d'.n d'.kc]] w (Yes w)
    obtain ⟨hv, ht, _, hn, hR, hk⟩ := hx
    obtain ⟨hv', ht', _, _, hR', hk'⟩ := hy
    obtain ⟨e0, e1, ev, et, en, ek⟩ := h
    have HZ1 : Hid (∀ (W : World), Below w.heap.size w W → Calls Try.prog 31 #[.slice d.v.a d.v.len d.v.cap, .slice d'.v.a d'.v.len d'.v.cap] W (Yes W)) := fun W hb => eqByteS_same d.v d'.v W (hv.upper (Upper.of_below hb)) (hv'.upper (Upper.of_below hb)) ev
    have HZ2 : Hid (∀ (W : World), Below w.heap.size w W → Calls Try.prog 59 #[.agg #[.int .i64 d.t.t.k, .slice d.t.t.a d.t.t.len d.t.t.cap, .int .i64 d.t.t.n, .int .i64 d.t.t.s], .agg #[.int .i64 d'.t.t.k, .slice d'.t.t.a d'.t.t.len d'.t.t.cap, .int .i64 d'.t.t.n, .int .i64 d'.t.t.s]] W (Yes W)) := fun W hb => eqTerm_same d.t d'.t W (ht.upper (Upper.of_below hb)) (ht'.upper (Upper.of_below hb)) et
    have HZ3 : Hid (∀ (W : World), Below w.heap.size w W → Calls Try.prog 60 #[.slice d.ka d.n d.kc, .slice d'.ka d'.n d'.kc] W (Yes W)) := fun W hb => by
      rw [← en] at hR' ⊢
      exact eqExprS_of d.ka d'.ka d.kc d'.kc d.n kid kid' W hn (hR.upper (Upper.of_below hb)) (hR'.upper (Upper.of_below hb)) fun i hi W' hW => ih i (kid' i) W' (ET.lies.upper (Upper.of_below (bl_trans hb hW)) (hk i hi)) (ET.lies.upper (Upper.of_below (bl_trans hb hW)) (hk' i (by rw [← en]; exact hi))) (ek i hi)
    have k0 : (d.k == d'.k) = true := by simp [e0]
    have k1 : (d.op == d'.op) = true := by simp [e1]
    clear hv ht hn hR hk hv' ht' hR' hk' e0 e1 ev et en ek ih
    go_enter Try.func30, Try.ntmps30
    have Z1 := HZ1.out
    go_wp2_with fail
    refine (Z1 _ (bl_alloc (bl_a _) _)).mono ?_
    rintro e w1 ⟨rfl, hb1⟩
    have HX1 : Hid (Box w1 w.heap.size [.int .i64 d.k, .int .i64 d.op, .slice d.v.a d.v.len d.v.cap, .int .i64 d.t.t.k, .slice d.t.t.a d.t.t.len d.t.t.cap, .int .i64 d.t.t.n, .int .i64 d.t.t.s, .slice d.ka d.n d.kc]) := ((Box.new w #[.int .i64 d.k, .int .i64 d.op, .slice d.v.a d.v.len d.v.cap, .int .i64 d.t.t.k, .slice d.t.t.a d.t.t.len d.t.t.cap, .int .i64 d.t.t.n, .int .i64 d.t.t.s, .slice d.ka d.n d.kc] 39 _).below (bl_a _)).below hb1
    have HY1 : Hid (Box w1 (w.heap.size + 1) [.int .i64 d'.k, .int .i64 d'.op, .slice d'.v.a d'.v.len d'.v.cap, .int .i64 d'.t.t.k, .slice d'.t.t.a d'.t.t.len d'.t.t.cap, .int .i64 d'.t.t.n, .int .i64 d'.t.t.s, .slice d'.ka d'.n d'.kc]) := (show Box _ _ _ by have h := (Box.new (w.alloc (.cells #[.int .i64 d.k, .int .i64 d.op, .slice d.v.a d.v.len d.v.cap, .int .i64 d.t.t.k, .slice d.t.t.a d.t.t.len d.t.t.cap, .int .i64 d.t.t.n, .int .i64 d.t.t.s, .slice d.ka d.n d.kc] 39)) #[.int .i64 d'.k, .int .i64 d'.op, .slice d'.v.a d'.v.len d'.v.cap, .int .i64 d'.t.t.k, .slice d'.t.t.a d'.t.t.len d'.t.t.cap, .int .i64 d'.t.t.n, .int .i64 d'.t.t.s, .slice d'.ka d'.n d'.kc] 39 _).below hb1; simpa using h)
    have HB1 : Hid (Below w.heap.size w w1) := bl_trans (bl_alloc (bl_a _) _) hb1
    clear hb1 Z1 HZ1
    have la : w1.rangeAt w.heap.size 3 [.int .i64 d.t.t.k, .slice d.t.t.a d.t.t.len d.t.t.cap, .int .i64 d.t.t.n, .int .i64 d.t.t.s] := HX1.out.range 3 _ rfl
    have lb : w1.rangeAt (w.heap.size + 1) 3 [.int .i64 d'.t.t.k, .slice d'.t.t.a d'.t.t.len d'.t.t.cap, .int .i64 d'.t.t.n, .int .i64 d'.t.t.s] := HY1.out.range 3 _ rfl
    have Z2 := HZ2.out
    go_wp2_with (first | (refine wpList_load_mid rfl 36 _ rfl w.heap.size 3 rfl [.int .i64 d.t.t.k, .slice d.t.t.a d.t.t.len d.t.t.cap, .int .i64 d.t.t.n, .int .i64 d.t.t.s] _ la Try.underlying36 rfl (by kernel_rfl) ?_; try simp only [Act.put, List.setIfInBounds_toArray, List.set_cons_zero, List.set_cons_succ]) | (refine wpList_load_mid rfl 36 _ rfl (w.heap.size + 1) 3 rfl [.int .i64 d'.t.t.k, .slice d'.t.t.a d'.t.t.len d'.t.t.cap, .int .i64 d'.t.t.n, .int .i64 d'.t.t.s] _ lb Try.underlying36 rfl (by kernel_rfl) ?_; try simp only [Act.put, List.setIfInBounds_toArray, List.set_cons_zero, List.set_cons_succ]))
    refine (Z2 _ HB1.out).mono ?_
    rintro e w2 ⟨rfl, hb2⟩
    have HX2 : Hid (Box w2 w.heap.size [.int .i64 d.k, .int .i64 d.op, .slice d.v.a d.v.len d.v.cap, .int .i64 d.t.t.k, .slice d.t.t.a d.t.t.len d.t.t.cap, .int .i64 d.t.t.n, .int .i64 d.t.t.s, .slice d.ka d.n d.kc]) := HX1.out.below hb2
    have HY2 : Hid (Box w2 (w.heap.size + 1) [.int .i64 d'.k, .int .i64 d'.op, .slice d'.v.a d'.v.len d'.v.cap, .int .i64 d'.t.t.k, .slice d'.t.t.a d'.t.t.len d'.t.t.cap, .int .i64 d'.t.t.n, .int .i64 d'.t.t.s, .slice d'.ka d'.n d'.kc]) := HY1.out.below hb2
    have HB2 : Hid (Below w.heap.size w w2) := bl_trans HB1.out hb2
    clear hb2 Z2 HZ2 HX1 HY1 HB1 la lb
    have la := HX2.out.2 7 _ rfl
    have lb := HY2.out.2 7 _ rfl
    have Z3 := HZ3.out
    go_wp2_with fail
    refine (Z3 _ HB2.out).mono ?_
    rintro e w3 ⟨rfl, hb3⟩
    have HX3 : Hid (Box w3 w.heap.size [.int .i64 d.k, .int .i64 d.op, .slice d.v.a d.v.len d.v.cap, .int .i64 d.t.t.k, .slice d.t.t.a d.t.t.len d.t.t.cap, .int .i64 d.t.t.n, .int .i64 d.t.t.s, .slice d.ka d.n d.kc]) := HX2.out.below hb3
    have HY3 : Hid (Box w3 (w.heap.size + 1) [.int .i64 d'.k, .int .i64 d'.op, .slice d'.v.a d'.v.len d'.v.cap, .int .i64 d'.t.t.k, .slice d'.t.t.a d'.t.t.len d'.t.t.cap, .int .i64 d'.t.t.n, .int .i64 d'.t.t.s, .slice d'.ka d'.n d'.kc]) := HY2.out.below hb3
    have HB3 : Hid (Below w.heap.size w w3) := bl_trans HB2.out hb3
    clear hb3 Z3 HZ3 HX2 HY2 HB2 la lb
    go_wp2_with fail
    go_ret
    exact ⟨rfl, HB3.out⟩
set_option maxHeartbeats 4000000 in
theorem eqPlanS_of (a a' : Option Addr) (cap cap' n : Nat) (x y : Nat → PT) (w : World) (hn : n ≤ 1048576) (hR : KRow 0 w 28 a n (fun i => (x i).d.cells)) (hR' : KRow 0 w 28 a' n (fun i => (y i).d.cells))
    (IH : ∀ i, i < n → ∀ (W : World), Below w.heap.size w W → Calls Try.prog 14 #[.agg #[.int .i64 (x i).d.k, .int .i64 (x i).d.ord, .slice (x i).d.p.s.v.a (x i).d.p.s.v.len (x i).d.p.s.v.cap, .int .i64 (x i).d.p.s.t.t.k, .slice (x i).d.p.s.t.t.a (x i).d.p.s.t.t.len (x i).d.p.s.t.t.cap, .int .i64 (x i).d.p.s.t.t.n, .int .i64 (x i).d.p.s.t.t.s, .slice (x i).d.p.p.v.a (x i).d.p.p.v.len (x i).d.p.p.v.cap, .int .i64 (x i).d.p.p.t.t.k, .slice (x i).d.p.p.t.t.a (x i).d.p.p.t.t.len (x i).d.p.p.t.t.cap, .int .i64 (x i).d.p.p.t.t.n, .int .i64 (x i).d.p.p.t.t.s, .slice (x i).d.p.o.v.a (x i).d.p.o.v.len (x i).d.p.o.v.cap, .int .i64 (x i).d.p.o.t.t.k, .slice (x i).d.p.o.t.t.a (x i).d.p.o.t.t.len (x i).d.p.o.t.t.cap, .int .i64 (x i).d.p.o.t.t.n, .int .i64 (x i).d.p.o.t.t.s, .int .i64 (x i).d.e.d.k, .int .i64 (x i).d.e.d.op, .slice (x i).d.e.d.v.a (x i).d.e.d.v.len (x i).d.e.d.v.cap, .int .i64 (x i).d.e.d.t.t.k, .slice (x i).d.e.d.t.t.a (x i).d.e.d.t.t.len (x i).d.e.d.t.t.cap, .int .i64 (x i).d.e.d.t.t.n, .int .i64 (x i).d.e.d.t.t.s, .slice (x i).d.e.d.ka (x i).d.e.d.n (x i).d.e.d.kc, .slice (x i).d.v.a (x i).d.v.len (x i).d.v.cap, .slice (x i).d.ta (x i).d.tb.length (x i).d.tc, .slice (x i).d.ka (x i).d.n (x i).d.kc], .agg #[.int .i64 (y i).d.k, .int .i64 (y i).d.ord, .slice (y i).d.p.s.v.a (y i).d.p.s.v.len (y i).d.p.s.v.cap, .int .i64 (y i).d.p.s.t.t.k, .slice (y i).d.p.s.t.t.a (y i).d.p.s.t.t.len (y i).d.p.s.t.t.cap, .int .i64 (y i).d.p.s.t.t.n, .int .i64 (y i).d.p.s.t.t.s, .slice (y i).d.p.p.v.a (y i).d.p.p.v.len (y i).d.p.p.v.cap, .int .i64 (y i).d.p.p.t.t.k, .slice (y i).d.p.p.t.t.a (y i).d.p.p.t.t.len (y i).d.p.p.t.t.cap, .int .i64 (y i).d.p.p.t.t.n, .int .i64 (y i).d.p.p.t.t.s, .slice (y i).d.p.o.v.a (y i).d.p.o.v.len (y i).d.p.o.v.cap, .int .i64 (y i).d.p.o.t.t.k, .slice (y i).d.p.o.t.t.a (y i).d.p.o.t.t.len (y i).d.p.o.t.t.cap, .int .i64 (y i).d.p.o.t.t.n, .int .i64 (y i).d.p.o.t.t.s, .int .i64 (y i).d.e.d.k, .int .i64 (y i).d.e.d.op, .slice (y i).d.e.d.v.a (y i).d.e.d.v.len (y i).d.e.d.v.cap, .int .i64 (y i).d.e.d.t.t.k, .slice (y i).d.e.d.t.t.a (y i).d.e.d.t.t.len (y i).d.e.d.t.t.cap, .int .i64 (y i).d.e.d.t.t.n, .int .i64 (y i).d.e.d.t.t.s, .slice (y i).d.e.d.ka (y i).d.e.d.n (y i).d.e.d.kc, .slice (y i).d.v.a (y i).d.v.len (y i).d.v.cap, .slice (y i).d.ta (y i).d.tb.length (y i).d.tc, .slice (y i).d.ka (y i).d.n (y i).d.kc]] W (Yes W)) :
    Calls Try.prog 43 #[.slice a n cap, .slice a' n cap'] w (Yes w) := by
  by_cases hn0 : n = 0
  · subst hn0
    clear hR hR' IH hn
    go_enter Try.func43, Try.ntmps43
    go_wp2
    refine wp_loop_rounds 1 ?_
    rw [rounds_succ]
    go_wp2
    go_ret
    exact ⟨rfl, Below.refl _ _⟩
  obtain ⟨b, off, rfl, _, hlt, hc⟩ := hR.resolve_left hn0
  obtain ⟨b', off', rfl, _, hlt', hc'⟩ := hR'.resolve_left hn0
  have HC : Hid (∀ i, i < n → ∀ c u, ((x i).d.cells)[c]? = some u → w.cell? ⟨b, off + i * 28 + c, none⟩ = some u) := hc
  have HC' : Hid (∀ i, i < n → ∀ c u, ((y i).d.cells)[c]? = some u → w.cell? ⟨b', off' + i * 28 + c, none⟩ = some u) := hc'
  have HI : Hid (∀ i, i < n → ∀ (W : World), Below w.heap.size w W → Calls Try.prog 14 #[.agg #[.int .i64 (x i).d.k, .int .i64 (x i).d.ord, .slice (x i).d.p.s.v.a (x i).d.p.s.v.len (x i).d.p.s.v.cap, .int .i64 (x i).d.p.s.t.t.k, .slice (x i).d.p.s.t.t.a (x i).d.p.s.t.t.len (x i).d.p.s.t.t.cap, .int .i64 (x i).d.p.s.t.t.n, .int .i64 (x i).d.p.s.t.t.s, .slice (x i).d.p.p.v.a (x i).d.p.p.v.len (x i).d.p.p.v.cap, .int .i64 (x i).d.p.p.t.t.k, .slice (x i).d.p.p.t.t.a (x i).d.p.p.t.t.len (x i).d.p.p.t.t.cap, .int .i64 (x i).d.p.p.t.t.n, .int .i64 (x i).d.p.p.t.t.s, .slice (x i).d.p.o.v.a (x i).d.p.o.v.len (x i).d.p.o.v.cap, .int .i64 (x i).d.p.o.t.t.k, .slice (x i).d.p.o.t.t.a (x i).d.p.o.t.t.len (x i).d.p.o.t.t.cap, .int .i64 (x i).d.p.o.t.t.n, .int .i64 (x i).d.p.o.t.t.s, .int .i64 (x i).d.e.d.k, .int .i64 (x i).d.e.d.op, .slice (x i).d.e.d.v.a (x i).d.e.d.v.len (x i).d.e.d.v.cap, .int .i64 (x i).d.e.d.t.t.k, .slice (x i).d.e.d.t.t.a (x i).d.e.d.t.t.len (x i).d.e.d.t.t.cap, .int .i64 (x i).d.e.d.t.t.n, .int .i64 (x i).d.e.d.t.t.s, .slice (x i).d.e.d.ka (x i).d.e.d.n (x i).d.e.d.kc, .slice (x i).d.v.a (x i).d.v.len (x i).d.v.cap, .slice (x i).d.ta (x i).d.tb.length (x i).d.tc, .slice (x i).d.ka (x i).d.n (x i).d.kc], .agg #[.int .i64 (y i).d.k, .int .i64 (y i).d.ord, .slice (y i).d.p.s.v.a (y i).d.p.s.v.len (y i).d.p.s.v.cap, .int .i64 (y i).d.p.s.t.t.k, .slice (y i).d.p.s.t.t.a (y i).d.p.s.t.t.len (y i).d.p.s.t.t.cap, .int .i64 (y i).d.p.s.t.t.n, .int .i64 (y i).d.p.s.t.t.s, .slice (y i).d.p.p.v.a (y i).d.p.p.v.len (y i).d.p.p.v.cap, .int .i64 (y i).d.p.p.t.t.k, .slice (y i).d.p.p.t.t.a (y i).d.p.p.t.t.len (y i).d.p.p.t.t.cap, .int .i64 (y i).d.p.p.t.t.n, .int .i64 (y i).d.p.p.t.t.s, .slice (y i).d.p.o.v.a (y i).d.p.o.v.len (y i).d.p.o.v.cap, .int .i64 (y i).d.p.o.t.t.k, .slice (y i).d.p.o.t.t.a (y i).d.p.o.t.t.len (y i).d.p.o.t.t.cap, .int .i64 (y i).d.p.o.t.t.n, .int .i64 (y i).d.p.o.t.t.s, .int .i64 (y i).d.e.d.k, .int .i64 (y i).d.e.d.op, .slice (y i).d.e.d.v.a (y i).d.e.d.v.len (y i).d.e.d.v.cap, .int .i64 (y i).d.e.d.t.t.k, .slice (y i).d.e.d.t.t.a (y i).d.e.d.t.t.len (y i).d.e.d.t.t.cap, .int .i64 (y i).d.e.d.t.t.n, .int .i64 (y i).d.e.d.t.t.s, .slice (y i).d.e.d.ka (y i).d.e.d.n (y i).d.e.d.kc, .slice (y i).d.v.a (y i).d.v.len (y i).d.v.cap, .slice (y i).d.ta (y i).d.tb.length (y i).d.tc, .slice (y i).d.ka (y i).d.n (y i).d.kc]] W (Yes W)) := IH
  clear hR hR' hc hc' IH
  go_enter Try.func43, Try.ntmps43
  go_wp2
  go_loopw [5] (fun i wr => ∃ k : Nat, k ≤ n ∧ i = .int .i64 k ∧ Hid (Below w.heap.size w wr)) (fun i _ => n - (intOf i).toNat)
  case atStart => exact ⟨0, Nat.zero_le _, rfl, Below.refl _ _⟩
  case round =>
    obtain ⟨k, hk, rfl, HB⟩ := hrel
    by_cases hlk : k < n
    · have hlkz : (k : Int) < (n : Int) := by omega
      have HRX : Hid (∀ w', Below wr.heap.size wr w' → w'.rangeAt b (off + k * 28) [.int .i64 (x k).d.k, .int .i64 (x k).d.ord, .slice (x k).d.p.s.v.a (x k).d.p.s.v.len (x k).d.p.s.v.cap, .int .i64 (x k).d.p.s.t.t.k, .slice (x k).d.p.s.t.t.a (x k).d.p.s.t.t.len (x k).d.p.s.t.t.cap, .int .i64 (x k).d.p.s.t.t.n, .int .i64 (x k).d.p.s.t.t.s, .slice (x k).d.p.p.v.a (x k).d.p.p.v.len (x k).d.p.p.v.cap, .int .i64 (x k).d.p.p.t.t.k, .slice (x k).d.p.p.t.t.a (x k).d.p.p.t.t.len (x k).d.p.p.t.t.cap, .int .i64 (x k).d.p.p.t.t.n, .int .i64 (x k).d.p.p.t.t.s, .slice (x k).d.p.o.v.a (x k).d.p.o.v.len (x k).d.p.o.v.cap, .int .i64 (x k).d.p.o.t.t.k, .slice (x k).d.p.o.t.t.a (x k).d.p.o.t.t.len (x k).d.p.o.t.t.cap, .int .i64 (x k).d.p.o.t.t.n, .int .i64 (x k).d.p.o.t.t.s, .int .i64 (x k).d.e.d.k, .int .i64 (x k).d.e.d.op, .slice (x k).d.e.d.v.a (x k).d.e.d.v.len (x k).d.e.d.v.cap, .int .i64 (x k).d.e.d.t.t.k, .slice (x k).d.e.d.t.t.a (x k).d.e.d.t.t.len (x k).d.e.d.t.t.cap, .int .i64 (x k).d.e.d.t.t.n, .int .i64 (x k).d.e.d.t.t.s, .slice (x k).d.e.d.ka (x k).d.e.d.n (x k).d.e.d.kc, .slice (x k).d.v.a (x k).d.v.len (x k).d.v.cap, .slice (x k).d.ta (x k).d.tb.length (x k).d.tc, .slice (x k).d.ka (x k).d.n (x k).d.kc]) := fun w' hw c u hu => ((bl_trans HB.out hw).cell (p := ⟨b, off + k * 28 + c, none⟩) hlt).trans (HC.out k hlk c u hu)
      have HRY : Hid (∀ w', Below wr.heap.size wr w' → w'.rangeAt b' (off' + k * 28) [.int .i64 (y k).d.k, .int .i64 (y k).d.ord, .slice (y k).d.p.s.v.a (y k).d.p.s.v.len (y k).d.p.s.v.cap, .int .i64 (y k).d.p.s.t.t.k, .slice (y k).d.p.s.t.t.a (y k).d.p.s.t.t.len (y k).d.p.s.t.t.cap, .int .i64 (y k).d.p.s.t.t.n, .int .i64 (y k).d.p.s.t.t.s, .slice (y k).d.p.p.v.a (y k).d.p.p.v.len (y k).d.p.p.v.cap, .int .i64 (y k).d.p.p.t.t.k, .slice (y k).d.p.p.t.t.a (y k).d.p.p.t.t.len (y k).d.p.p.t.t.cap, .int .i64 (y k).d.p.p.t.t.n, .int .i64 (y k).d.p.p.t.t.s, .slice (y k).d.p.o.v.a (y k).d.p.o.v.len (y k).d.p.o.v.cap, .int .i64 (y k).d.p.o.t.t.k, .slice (y k).d.p.o.t.t.a (y k).d.p.o.t.t.len (y k).d.p.o.t.t.cap, .int .i64 (y k).d.p.o.t.t.n, .int .i64 (y k).d.p.o.t.t.s, .int .i64 (y k).d.e.d.k, .int .i64 (y k).d.e.d.op, .slice (y k).d.e.d.v.a (y k).d.e.d.v.len (y k).d.e.d.v.cap, .int .i64 (y k).d.e.d.t.t.k, .slice (y k).d.e.d.t.t.a (y k).d.e.d.t.t.len (y k).d.e.d.t.t.cap, .int .i64 (y k).d.e.d.t.t.n, .int .i64 (y k).d.e.d.t.t.s, .slice (y k).d.e.d.ka (y k).d.e.d.n (y k).d.e.d.kc, .slice (y k).d.v.a (y k).d.v.len (y k).d.v.cap, .slice (y k).d.ta (y k).d.tb.length (y k).d.tc, .slice (y k).d.ka (y k).d.n (y k).d.kc]) := fun w' hw c u hu => ((bl_trans HB.out hw).cell (p := ⟨b', off' + k * 28 + c, none⟩) hlt').trans (HC'.out k hlk c u hu)
      have Z := HI.out k hlk wr.drew (bl_trans HB.out (Below.drew (Below.refl _ _)))
      go_wp2_with fail
      refine wp_region_held_drew (S := fun w' => Below wr.heap.size wr w') (by kernel_rfl) ?_ (fun hHeld => ?_)
      · exact Below.drew (Below.refl _ _)
      refine takeq (i := 0) 17 (v := ?v29) rfl rfl (by kernel_rfl) (by kernel_rfl) (by kernel_rfl) (fun _ _ _ h => h) (Or.inl ⟨by rfl, ?y29⟩) hHeld ?r29
      case y29 => (intro w' hSw; skip; go_simp; (try with_reducible rfl))
      try simp only [Act.put, List.setIfInBounds_toArray, List.set_cons_zero, List.set_cons_succ]
      refine takeq (i := 1) 18 (v := ?v30) rfl rfl (by kernel_rfl) (by kernel_rfl) (by kernel_rfl) (fun _ _ _ h => h) (Or.inl ⟨by rfl, ?y30⟩) hHeld ?r30
      case y30 => (intro w' hSw; skip; go_simp; (try with_reducible rfl))
      try simp only [Act.put, List.setIfInBounds_toArray, List.set_cons_zero, List.set_cons_succ]
      refine takeq (i := 2) 19 (v := ?v31) rfl rfl (by kernel_rfl) (by kernel_rfl) (by kernel_rfl) (fun _ _ _ h => h) (Or.inl ⟨by rfl, ?y31⟩) hHeld ?r31
      case y31 => (intro w' hSw; skip; go_simp; (try with_reducible rfl))
      try simp only [Act.put, List.setIfInBounds_toArray, List.set_cons_zero, List.set_cons_succ]
      refine takeq (i := 3) 20 (v := .agg #[.int .i64 (x k).d.k, .int .i64 (x k).d.ord, .slice (x k).d.p.s.v.a (x k).d.p.s.v.len (x k).d.p.s.v.cap, .int .i64 (x k).d.p.s.t.t.k, .slice (x k).d.p.s.t.t.a (x k).d.p.s.t.t.len (x k).d.p.s.t.t.cap, .int .i64 (x k).d.p.s.t.t.n, .int .i64 (x k).d.p.s.t.t.s, .slice (x k).d.p.p.v.a (x k).d.p.p.v.len (x k).d.p.p.v.cap, .int .i64 (x k).d.p.p.t.t.k, .slice (x k).d.p.p.t.t.a (x k).d.p.p.t.t.len (x k).d.p.p.t.t.cap, .int .i64 (x k).d.p.p.t.t.n, .int .i64 (x k).d.p.p.t.t.s, .slice (x k).d.p.o.v.a (x k).d.p.o.v.len (x k).d.p.o.v.cap, .int .i64 (x k).d.p.o.t.t.k, .slice (x k).d.p.o.t.t.a (x k).d.p.o.t.t.len (x k).d.p.o.t.t.cap, .int .i64 (x k).d.p.o.t.t.n, .int .i64 (x k).d.p.o.t.t.s, .int .i64 (x k).d.e.d.k, .int .i64 (x k).d.e.d.op, .slice (x k).d.e.d.v.a (x k).d.e.d.v.len (x k).d.e.d.v.cap, .int .i64 (x k).d.e.d.t.t.k, .slice (x k).d.e.d.t.t.a (x k).d.e.d.t.t.len (x k).d.e.d.t.t.cap, .int .i64 (x k).d.e.d.t.t.n, .int .i64 (x k).d.e.d.t.t.s, .slice (x k).d.e.d.ka (x k).d.e.d.n (x k).d.e.d.kc, .slice (x k).d.v.a (x k).d.v.len (x k).d.v.cap, .slice (x k).d.ta (x k).d.tb.length (x k).d.tc, .slice (x k).d.ka (x k).d.n (x k).d.kc]) rfl rfl (by kernel_rfl) (by kernel_rfl) (by kernel_rfl) (fun _ _ _ h => h) (yieldsIf_load_mid (by rfl) 62 _ rfl b (off + k * 28) rfl [.int .i64 (x k).d.k, .int .i64 (x k).d.ord, .slice (x k).d.p.s.v.a (x k).d.p.s.v.len (x k).d.p.s.v.cap, .int .i64 (x k).d.p.s.t.t.k, .slice (x k).d.p.s.t.t.a (x k).d.p.s.t.t.len (x k).d.p.s.t.t.cap, .int .i64 (x k).d.p.s.t.t.n, .int .i64 (x k).d.p.s.t.t.s, .slice (x k).d.p.p.v.a (x k).d.p.p.v.len (x k).d.p.p.v.cap, .int .i64 (x k).d.p.p.t.t.k, .slice (x k).d.p.p.t.t.a (x k).d.p.p.t.t.len (x k).d.p.p.t.t.cap, .int .i64 (x k).d.p.p.t.t.n, .int .i64 (x k).d.p.p.t.t.s, .slice (x k).d.p.o.v.a (x k).d.p.o.v.len (x k).d.p.o.v.cap, .int .i64 (x k).d.p.o.t.t.k, .slice (x k).d.p.o.t.t.a (x k).d.p.o.t.t.len (x k).d.p.o.t.t.cap, .int .i64 (x k).d.p.o.t.t.n, .int .i64 (x k).d.p.o.t.t.s, .int .i64 (x k).d.e.d.k, .int .i64 (x k).d.e.d.op, .slice (x k).d.e.d.v.a (x k).d.e.d.v.len (x k).d.e.d.v.cap, .int .i64 (x k).d.e.d.t.t.k, .slice (x k).d.e.d.t.t.a (x k).d.e.d.t.t.len (x k).d.e.d.t.t.cap, .int .i64 (x k).d.e.d.t.t.n, .int .i64 (x k).d.e.d.t.t.s, .slice (x k).d.e.d.ka (x k).d.e.d.n (x k).d.e.d.kc, .slice (x k).d.v.a (x k).d.v.len (x k).d.v.cap, .slice (x k).d.ta (x k).d.tb.length (x k).d.tc, .slice (x k).d.ka (x k).d.n (x k).d.kc] _ HRX.out Try.underlying62 rfl (by kernel_rfl)) hHeld ?_
      try simp only [Act.put, List.setIfInBounds_toArray, List.set_cons_zero, List.set_cons_succ]
      refine takeq (i := 4) 21 (v := ?v32) rfl rfl (by kernel_rfl) (by kernel_rfl) (by kernel_rfl) (fun _ _ _ h => h) (Or.inl ⟨by rfl, ?y32⟩) hHeld ?r32
      case y32 => (intro w' hSw; skip; go_simp; (try with_reducible rfl))
      try simp only [Act.put, List.setIfInBounds_toArray, List.set_cons_zero, List.set_cons_succ]
      refine takeq (i := 5) 22 (v := ?v33) rfl rfl (by kernel_rfl) (by kernel_rfl) (by kernel_rfl) (fun _ _ _ h => h) (Or.inl ⟨by rfl, ?y33⟩) hHeld ?r33
      case y33 => (intro w' hSw; skip; go_simp; (try with_reducible rfl))
      try simp only [Act.put, List.setIfInBounds_toArray, List.set_cons_zero, List.set_cons_succ]
      refine takeq (i := 6) 23 (v := ?v34) rfl rfl (by kernel_rfl) (by kernel_rfl) (by kernel_rfl) (fun _ _ _ h => h) (Or.inl ⟨by rfl, ?y34⟩) hHeld ?r34
      case y34 => (intro w' hSw; skip; go_simp; (try with_reducible rfl))
      try simp only [Act.put, List.setIfInBounds_toArray, List.set_cons_zero, List.set_cons_succ]
      refine takeq (i := 7) 24 (v := .agg #[.int .i64 (y k).d.k, .int .i64 (y k).d.ord, .slice (y k).d.p.s.v.a (y k).d.p.s.v.len (y k).d.p.s.v.cap, .int .i64 (y k).d.p.s.t.t.k, .slice (y k).d.p.s.t.t.a (y k).d.p.s.t.t.len (y k).d.p.s.t.t.cap, .int .i64 (y k).d.p.s.t.t.n, .int .i64 (y k).d.p.s.t.t.s, .slice (y k).d.p.p.v.a (y k).d.p.p.v.len (y k).d.p.p.v.cap, .int .i64 (y k).d.p.p.t.t.k, .slice (y k).d.p.p.t.t.a (y k).d.p.p.t.t.len (y k).d.p.p.t.t.cap, .int .i64 (y k).d.p.p.t.t.n, .int .i64 (y k).d.p.p.t.t.s, .slice (y k).d.p.o.v.a (y k).d.p.o.v.len (y k).d.p.o.v.cap, .int .i64 (y k).d.p.o.t.t.k, .slice (y k).d.p.o.t.t.a (y k).d.p.o.t.t.len (y k).d.p.o.t.t.cap, .int .i64 (y k).d.p.o.t.t.n, .int .i64 (y k).d.p.o.t.t.s, .int .i64 (y k).d.e.d.k, .int .i64 (y k).d.e.d.op, .slice (y k).d.e.d.v.a (y k).d.e.d.v.len (y k).d.e.d.v.cap, .int .i64 (y k).d.e.d.t.t.k, .slice (y k).d.e.d.t.t.a (y k).d.e.d.t.t.len (y k).d.e.d.t.t.cap, .int .i64 (y k).d.e.d.t.t.n, .int .i64 (y k).d.e.d.t.t.s, .slice (y k).d.e.d.ka (y k).d.e.d.n (y k).d.e.d.kc, .slice (y k).d.v.a (y k).d.v.len (y k).d.v.cap, .slice (y k).d.ta (y k).d.tb.length (y k).d.tc, .slice (y k).d.ka (y k).d.n (y k).d.kc]) rfl rfl (by kernel_rfl) (by kernel_rfl) (by kernel_rfl) (fun _ _ _ h => h) (yieldsIf_load_mid (by rfl) 62 _ rfl b' (off' + k * 28) rfl [.int .i64 (y k).d.k, .int .i64 (y k).d.ord, .slice (y k).d.p.s.v.a (y k).d.p.s.v.len (y k).d.p.s.v.cap, .int .i64 (y k).d.p.s.t.t.k, .slice (y k).d.p.s.t.t.a (y k).d.p.s.t.t.len (y k).d.p.s.t.t.cap, .int .i64 (y k).d.p.s.t.t.n, .int .i64 (y k).d.p.s.t.t.s, .slice (y k).d.p.p.v.a (y k).d.p.p.v.len (y k).d.p.p.v.cap, .int .i64 (y k).d.p.p.t.t.k, .slice (y k).d.p.p.t.t.a (y k).d.p.p.t.t.len (y k).d.p.p.t.t.cap, .int .i64 (y k).d.p.p.t.t.n, .int .i64 (y k).d.p.p.t.t.s, .slice (y k).d.p.o.v.a (y k).d.p.o.v.len (y k).d.p.o.v.cap, .int .i64 (y k).d.p.o.t.t.k, .slice (y k).d.p.o.t.t.a (y k).d.p.o.t.t.len (y k).d.p.o.t.t.cap, .int .i64 (y k).d.p.o.t.t.n, .int .i64 (y k).d.p.o.t.t.s, .int .i64 (y k).d.e.d.k, .int .i64 (y k).d.e.d.op, .slice (y k).d.e.d.v.a (y k).d.e.d.v.len (y k).d.e.d.v.cap, .int .i64 (y k).d.e.d.t.t.k, .slice (y k).d.e.d.t.t.a (y k).d.e.d.t.t.len (y k).d.e.d.t.t.cap, .int .i64 (y k).d.e.d.t.t.n, .int .i64 (y k).d.e.d.t.t.s, .slice (y k).d.e.d.ka (y k).d.e.d.n (y k).d.e.d.kc, .slice (y k).d.v.a (y k).d.v.len (y k).d.v.cap, .slice (y k).d.ta (y k).d.tb.length (y k).d.tc, .slice (y k).d.ka (y k).d.n (y k).d.kc] _ HRY.out Try.underlying62 rfl (by kernel_rfl)) hHeld ?_
      try simp only [Act.put, List.setIfInBounds_toArray, List.set_cons_zero, List.set_cons_succ]
      refine wpAnyH_ready (rs := [8]) (by kernel_rfl) (by simp) ?_
      refine AllReadyH.cons rfl (fun K hK => ?_) AllReadyH.nil
      go_simp
      refine Z.mono ?_
      rintro e w2 ⟨rfl, hb2⟩
      have HB2 : Hid (Below wr.heap.size wr w2) := (Below.drew (Below.refl _ _)).trans hb2
      clear hb2
      go_wp2_with fail
      refine hK.out _ _ ?_ (fun hHeld => ?_)
      · exact HB2.out
      clear hK K
      try simp only [Act.put, List.setIfInBounds_toArray, List.set_cons_zero, List.set_cons_succ]
      refine takeq (i := 9) 26 (v := ?v35) rfl rfl (by kernel_rfl) (by kernel_rfl) (by kernel_rfl) (fun _ _ _ h => h) (Or.inl ⟨by rfl, ?y35⟩) hHeld ?r35
      case y35 => (intro w' hSw; skip; go_simp; (try with_reducible rfl))
      try simp only [Act.put, List.setIfInBounds_toArray, List.set_cons_zero, List.set_cons_succ]
      refine wpAnyH_done (by kernel_rfl) ?_ _
      have HBq : Hid (Below w.heap.size w w2) := bl_trans HB.out HB2.out
      clear hHeld HRX HRY Z HB HB2
      go_wp2_with fail
      go_roundw
      case rel => exact ⟨k + 1, by omega, by go_num, HBq⟩
      case measure => simp [intOf]; omega
    · obtain rfl : k = n := by omega
      have hlkz : ¬ (k : Int) < (k : Int) := by omega
      go_wp2_with fail
      go_ret
      exact ⟨rfl, HB.out⟩

set_option maxHeartbeats 4000000 in
theorem eqPlan_same (e : PT) : ∀ (e' : PT) (w : World), e.lies 0 w → e'.lies 0 w → e.same e' → Calls Try.prog 14 #[.agg #[.int .i64 e.d.k, .int .i64 e.d.ord, .slice e.d.p.s.v.a e.d.p.s.v.len e.d.p.s.v.cap, .int .i64 e.d.p.s.t.t.k, .slice e.d.p.s.t.t.a e.d.p.s.t.t.len e.d.p.s.t.t.cap, .int .i64 e.d.p.s.t.t.n, .int .i64 e.d.p.s.t.t.s, .slice e.d.p.p.v.a e.d.p.p.v.len e.d.p.p.v.cap, .int .i64 e.d.p.p.t.t.k, .slice e.d.p.p.t.t.a e.d.p.p.t.t.len e.d.p.p.t.t.cap, .int .i64 e.d.p.p.t.t.n, .int .i64 e.d.p.p.t.t.s, .slice e.d.p.o.v.a e.d.p.o.v.len e.d.p.o.v.cap, .int .i64 e.d.p.o.t.t.k, .slice e.d.p.o.t.t.a e.d.p.o.t.t.len e.d.p.o.t.t.cap, .int .i64 e.d.p.o.t.t.n, .int .i64 e.d.p.o.t.t.s, .int .i64 e.d.e.d.k, .int .i64 e.d.e.d.op, .slice e.d.e.d.v.a e.d.e.d.v.len e.d.e.d.v.cap, .int .i64 e.d.e.d.t.t.k, .slice e.d.e.d.t.t.a e.d.e.d.t.t.len e.d.e.d.t.t.cap, .int .i64 e.d.e.d.t.t.n, .int .i64 e.d.e.d.t.t.s, .slice e.d.e.d.ka e.d.e.d.n e.d.e.d.kc, .slice e.d.v.a e.d.v.len e.d.v.cap, .slice e.d.ta e.d.tb.length e.d.tc, .slice e.d.ka e.d.n e.d.kc], .agg #[.int .i64 e'.d.k, .int .i64 e'.d.ord, .slice e'.d.p.s.v.a e'.d.p.s.v.len e'.d.p.s.v.cap, .int .i64 e'.d.p.s.t.t.k, .slice e'.d.p.s.t.t.a e'.d.p.s.t.t.len e'.d.p.s.t.t.cap, .int .i64 e'.d.p.s.t.t.n, .int .i64 e'.d.p.s.t.t.s, .slice e'.d.p.p.v.a e'.d.p.p.v.len e'.d.p.p.v.cap, .int .i64 e'.d.p.p.t.t.k, .slice e'.d.p.p.t.t.a e'.d.p.p.t.t.len e'.d.p.p.t.t.cap, .int .i64 e'.d.p.p.t.t.n, .int .i64 e'.d.p.p.t.t.s, .slice e'.d.p.o.v.a e'.d.p.o.v.len e'.d.p.o.v.cap, .int .i64 e'.d.p.o.t.t.k, .slice e'.d.p.o.t.t.a e'.d.p.o.t.t.len e'.d.p.o.t.t.cap, .int .i64 e'.d.p.o.t.t.n, .int .i64 e'.d.p.o.t.t.s, .int .i64 e'.d.e.d.k, .int .i64 e'.d.e.d.op, .slice e'.d.e.d.v.a e'.d.e.d.v.len e'.d.e.d.v.cap, .int .i64 e'.d.e.d.t.t.k, .slice e'.d.e.d.t.t.a e'.d.e.d.t.t.len e'.d.e.d.t.t.cap, .int .i64 e'.d.e.d.t.t.n, .int .i64 e'.d.e.d.t.t.s, .slice e'.d.e.d.ka e'.d.e.d.n e'.d.e.d.kc, .slice e'.d.v.a e'.d.v.len e'.d.v.cap, .slice e'.d.ta e'.d.tb.length e'.d.tc, .slice e'.d.ka e'.d.n e'.d.kc]] w (Yes w) := by
  induction e with
  | nil => exact fun _ _ h => False.elim h
  | mk d kid ih =>
    intro e' w hx hy h
    cases e' with
    | nil => exact False.elim hy
    | mk d' kid' =>
    show Calls Try.prog 14 #[.agg #[.int .i64 d.k, .int .i64 d.ord, .slice d.p.s.v.a d.p.s.v.len d.p.s.v.cap, .int .i64 d.p.s.t.t.k, .slice d.p.s.t.t.a d.p.s.t.t.len d.p.s.t.t.cap, .int .i64 d.p.s.t.t.n, .int .i64 d.p.s.t.t.s, .slice d.p.p.v.a d.p.p.v.len d.p.p.v.cap, .int .i64 d.p.p.t.t.k, .slice d.p.p.t.t.a d.p.p.t.t.len d.p.p.t.t.cap, .int .i64 d.p.p.t.t.n, .int .i64 d.p.p.t.t.s, .slice d.p.o.v.a d.p.o.v.len d.p.o.v.cap, .int .i64 d.p.o.t.t.k, .slice d.p.o.t.t.a d.p.o.t.t.len d.p.o.t.t.cap, .int .i64 d.p.o.t.t.n, .int .i64 d.p.o.t.t.s, .int .i64 d.e.d.k, .int .i64 d.e.d.op, .slice d.e.d.v.a d.e.d.v.len d.e.d.v.cap, .int .i64 d.e.d.t.t.k, .slice d.e.d.t.t.a d.e.d.t.t.len d.e.d.t.t.cap, .int .i64 d.e.d.t.t.n, .int .i64 d.e.d.t.t.s, .slice d.e.d.ka d.e.d.n d.e.d.kc, .slice d.v.a d.v.len d.v.cap, .slice d.ta d.tb.length d.tc, .slice d.ka d.n d.kc], .agg #[.int .i64 d'.k, .int .i64 d'.ord, .slice d'.p.s.v.a d'.p.s.v.len d'.p.s.v.cap, .int .i64 d'.p.s.t.t.k, .slice d'.p.s.t.t.a d'.p.s.t.t.len d'.p.s.t.t.cap, .int .i64 d'.p.s.t.t.n, .int .i64 d'.p.s.t.t.s, .slice d'.p.p.v.a d'.p.p.v.len d'.p.p.v.cap, .int .i64 d'.p.p.t.t.k, .slice d'.p.p.t.t.a d'.p.p.t.t.len d'.p.p.t.t.cap, .int .i64 d'.p.p.t.t.n, .int .i64 d'.p.p.t.t.s, .slice d'.p.o.v.a d'.p.o.v.len d'.p.o.v.cap, .int .i64 d'.p.o.t.t.k, .slice d'.p.o.t.t.a d'.p.o.t.t.len d'.p.o.t.t.cap, .int .i64 d'.p.o.t.t.n, .int .i64 d'.p.o.t.t.s, .int .i64 d'.e.d.k, .int .i64 d'.e.d.op, .slice d'.e.d.v.a d'.e.d.v.len d'.e.d.v.cap, .int .i64 d'.e.d.t.t.k, .slice d'.e.d.t.t.a d'.e.d.t.t.len d'.e.d.t.t.cap, .int .i64 d'.e.d.t.t.n, .int .i64 d'.e.d.t.t.s, .slice d'.e.d.ka d'.e.d.n d'.e.d.kc, .slice d'.v.a d'.v.len d'.v.cap, .slice d'.ta d'.tb.length d'.tc, .slice d'.ka d'.n d'.kc]] w (Yes w)
    obtain ⟨hp, he, hv, ht, htn, hn, hR, hk⟩ := hx
    obtain ⟨hp', he', hv', ht', _, _, hR', hk'⟩ := hy
    obtain ⟨e0, e1, ep, ee, ev, et, en, ek⟩ := h
    have HZ1 : Hid (∀ (W : World), Below w.heap.size w W → Calls Try.prog 42 #[.agg #[.slice d.p.s.v.a d.p.s.v.len d.p.s.v.cap, .int .i64 d.p.s.t.t.k, .slice d.p.s.t.t.a d.p.s.t.t.len d.p.s.t.t.cap, .int .i64 d.p.s.t.t.n, .int .i64 d.p.s.t.t.s, .slice d.p.p.v.a d.p.p.v.len d.p.p.v.cap, .int .i64 d.p.p.t.t.k, .slice d.p.p.t.t.a d.p.p.t.t.len d.p.p.t.t.cap, .int .i64 d.p.p.t.t.n, .int .i64 d.p.p.t.t.s, .slice d.p.o.v.a d.p.o.v.len d.p.o.v.cap, .int .i64 d.p.o.t.t.k, .slice d.p.o.t.t.a d.p.o.t.t.len d.p.o.t.t.cap, .int .i64 d.p.o.t.t.n, .int .i64 d.p.o.t.t.s], .agg #[.slice d'.p.s.v.a d'.p.s.v.len d'.p.s.v.cap, .int .i64 d'.p.s.t.t.k, .slice d'.p.s.t.t.a d'.p.s.t.t.len d'.p.s.t.t.cap, .int .i64 d'.p.s.t.t.n, .int .i64 d'.p.s.t.t.s, .slice d'.p.p.v.a d'.p.p.v.len d'.p.p.v.cap, .int .i64 d'.p.p.t.t.k, .slice d'.p.p.t.t.a d'.p.p.t.t.len d'.p.p.t.t.cap, .int .i64 d'.p.p.t.t.n, .int .i64 d'.p.p.t.t.s, .slice d'.p.o.v.a d'.p.o.v.len d'.p.o.v.cap, .int .i64 d'.p.o.t.t.k, .slice d'.p.o.t.t.a d'.p.o.t.t.len d'.p.o.t.t.cap, .int .i64 d'.p.o.t.t.n, .int .i64 d'.p.o.t.t.s]] W (Yes W)) := fun W hb => eqPat_same d.p d'.p W (hp.upper (Upper.of_below hb)) (hp'.upper (Upper.of_below hb)) ep
    have HZ2 : Hid (∀ (W : World), Below w.heap.size w W → Calls Try.prog 30 #[.agg #[.int .i64 d.e.d.k, .int .i64 d.e.d.op, .slice d.e.d.v.a d.e.d.v.len d.e.d.v.cap, .int .i64 d.e.d.t.t.k, .slice d.e.d.t.t.a d.e.d.t.t.len d.e.d.t.t.cap, .int .i64 d.e.d.t.t.n, .int .i64 d.e.d.t.t.s, .slice d.e.d.ka d.e.d.n d.e.d.kc], .agg #[.int .i64 d'.e.d.k, .int .i64 d'.e.d.op, .slice d'.e.d.v.a d'.e.d.v.len d'.e.d.v.cap, .int .i64 d'.e.d.t.t.k, .slice d'.e.d.t.t.a d'.e.d.t.t.len d'.e.d.t.t.cap, .int .i64 d'.e.d.t.t.n, .int .i64 d'.e.d.t.t.s, .slice d'.e.d.ka d'.e.d.n d'.e.d.kc]] W (Yes W)) := fun W hb => eqExpr_same d.e d'.e W (ET.lies.upper (Upper.of_below hb) he) (ET.lies.upper (Upper.of_below hb) he') ee
    have HZ3 : Hid (∀ (W : World), Below w.heap.size w W → Calls Try.prog 31 #[.slice d.v.a d.v.len d.v.cap, .slice d'.v.a d'.v.len d'.v.cap] W (Yes W)) := fun W hb => eqByteS_same d.v d'.v W (hv.upper (Upper.of_below hb)) (hv'.upper (Upper.of_below hb)) ev
    have HZ4 : Hid (∀ (W : World), Below w.heap.size w W → Calls Try.prog 32 #[.slice d.ta d.tb.length d.tc, .slice d'.ta d'.tb.length d'.tc] W (Yes W)) := fun W hb => eqTermS_same d.ta d'.ta d.tc d'.tc d.tb d'.tb W htn (ht.upper (Upper.of_below hb)) (ht'.upper (Upper.of_below hb)) et
    have HZ5 : Hid (∀ (W : World), Below w.heap.size w W → Calls Try.prog 43 #[.slice d.ka d.n d.kc, .slice d'.ka d'.n d'.kc] W (Yes W)) := fun W hb => by
      rw [← en] at hR' ⊢
      exact eqPlanS_of d.ka d'.ka d.kc d'.kc d.n kid kid' W hn (hR.upper (Upper.of_below hb)) (hR'.upper (Upper.of_below hb)) fun i hi W' hW => ih i (kid' i) W' (PT.lies.upper (Upper.of_below (bl_trans hb hW)) (hk i hi)) (PT.lies.upper (Upper.of_below (bl_trans hb hW)) (hk' i (by rw [← en]; exact hi))) (ek i hi)
    have k0 : (d.k == d'.k) = true := by simp [e0]
    have k1 : (d.ord == d'.ord) = true := by simp [e1]
    clear hp he hv ht htn hn hR hk hp' he' hv' ht' hR' hk' e0 e1 ep ee ev et en ek ih
    go_enter Try.func14, Try.ntmps14
    have Z1 := HZ1.out
    go_wp2_with fail
    refine (Z1 _ (bl_alloc (bl_a _) _)).mono ?_
    rintro e w1 ⟨rfl, hb1⟩
    have HX1 : Hid (Box w1 w.heap.size [.int .i64 d.k, .int .i64 d.ord, .slice d.p.s.v.a d.p.s.v.len d.p.s.v.cap, .int .i64 d.p.s.t.t.k, .slice d.p.s.t.t.a d.p.s.t.t.len d.p.s.t.t.cap, .int .i64 d.p.s.t.t.n, .int .i64 d.p.s.t.t.s, .slice d.p.p.v.a d.p.p.v.len d.p.p.v.cap, .int .i64 d.p.p.t.t.k, .slice d.p.p.t.t.a d.p.p.t.t.len d.p.p.t.t.cap, .int .i64 d.p.p.t.t.n, .int .i64 d.p.p.t.t.s, .slice d.p.o.v.a d.p.o.v.len d.p.o.v.cap, .int .i64 d.p.o.t.t.k, .slice d.p.o.t.t.a d.p.o.t.t.len d.p.o.t.t.cap, .int .i64 d.p.o.t.t.n, .int .i64 d.p.o.t.t.s, .int .i64 d.e.d.k, .int .i64 d.e.d.op, .slice d.e.d.v.a d.e.d.v.len d.e.d.v.cap, .int .i64 d.e.d.t.t.k, .slice d.e.d.t.t.a d.e.d.t.t.len d.e.d.t.t.cap, .int .i64 d.e.d.t.t.n, .int .i64 d.e.d.t.t.s, .slice d.e.d.ka d.e.d.n d.e.d.kc, .slice d.v.a d.v.len d.v.cap, .slice d.ta d.tb.length d.tc, .slice d.ka d.n d.kc]) := ((Box.new w #[.int .i64 d.k, .int .i64 d.ord, .slice d.p.s.v.a d.p.s.v.len d.p.s.v.cap, .int .i64 d.p.s.t.t.k, .slice d.p.s.t.t.a d.p.s.t.t.len d.p.s.t.t.cap, .int .i64 d.p.s.t.t.n, .int .i64 d.p.s.t.t.s, .slice d.p.p.v.a d.p.p.v.len d.p.p.v.cap, .int .i64 d.p.p.t.t.k, .slice d.p.p.t.t.a d.p.p.t.t.len d.p.p.t.t.cap, .int .i64 d.p.p.t.t.n, .int .i64 d.p.p.t.t.s, .slice d.p.o.v.a d.p.o.v.len d.p.o.v.cap, .int .i64 d.p.o.t.t.k, .slice d.p.o.t.t.a d.p.o.t.t.len d.p.o.t.t.cap, .int .i64 d.p.o.t.t.n, .int .i64 d.p.o.t.t.s, .int .i64 d.e.d.k, .int .i64 d.e.d.op, .slice d.e.d.v.a d.e.d.v.len d.e.d.v.cap, .int .i64 d.e.d.t.t.k, .slice d.e.d.t.t.a d.e.d.t.t.len d.e.d.t.t.cap, .int .i64 d.e.d.t.t.n, .int .i64 d.e.d.t.t.s, .slice d.e.d.ka d.e.d.n d.e.d.kc, .slice d.v.a d.v.len d.v.cap, .slice d.ta d.tb.length d.tc, .slice d.ka d.n d.kc] 62 _).below (bl_a _)).below hb1
    have HY1 : Hid (Box w1 (w.heap.size + 1) [.int .i64 d'.k, .int .i64 d'.ord, .slice d'.p.s.v.a d'.p.s.v.len d'.p.s.v.cap, .int .i64 d'.p.s.t.t.k, .slice d'.p.s.t.t.a d'.p.s.t.t.len d'.p.s.t.t.cap, .int .i64 d'.p.s.t.t.n, .int .i64 d'.p.s.t.t.s, .slice d'.p.p.v.a d'.p.p.v.len d'.p.p.v.cap, .int .i64 d'.p.p.t.t.k, .slice d'.p.p.t.t.a d'.p.p.t.t.len d'.p.p.t.t.cap, .int .i64 d'.p.p.t.t.n, .int .i64 d'.p.p.t.t.s, .slice d'.p.o.v.a d'.p.o.v.len d'.p.o.v.cap, .int .i64 d'.p.o.t.t.k, .slice d'.p.o.t.t.a d'.p.o.t.t.len d'.p.o.t.t.cap, .int .i64 d'.p.o.t.t.n, .int .i64 d'.p.o.t.t.s, .int .i64 d'.e.d.k, .int .i64 d'.e.d.op, .slice d'.e.d.v.a d'.e.d.v.len d'.e.d.v.cap, .int .i64 d'.e.d.t.t.k, .slice d'.e.d.t.t.a d'.e.d.t.t.len d'.e.d.t.t.cap, .int .i64 d'.e.d.t.t.n, .int .i64 d'.e.d.t.t.s, .slice d'.e.d.ka d'.e.d.n d'.e.d.kc, .slice d'.v.a d'.v.len d'.v.cap, .slice d'.ta d'.tb.length d'.tc, .slice d'.ka d'.n d'.kc]) := (show Box _ _ _ by have h := (Box.new (w.alloc (.cells #[.int .i64 d.k, .int .i64 d.ord, .slice d.p.s.v.a d.p.s.v.len d.p.s.v.cap, .int .i64 d.p.s.t.t.k, .slice d.p.s.t.t.a d.p.s.t.t.len d.p.s.t.t.cap, .int .i64 d.p.s.t.t.n, .int .i64 d.p.s.t.t.s, .slice d.p.p.v.a d.p.p.v.len d.p.p.v.cap, .int .i64 d.p.p.t.t.k, .slice d.p.p.t.t.a d.p.p.t.t.len d.p.p.t.t.cap, .int .i64 d.p.p.t.t.n, .int .i64 d.p.p.t.t.s, .slice d.p.o.v.a d.p.o.v.len d.p.o.v.cap, .int .i64 d.p.o.t.t.k, .slice d.p.o.t.t.a d.p.o.t.t.len d.p.o.t.t.cap, .int .i64 d.p.o.t.t.n, .int .i64 d.p.o.t.t.s, .int .i64 d.e.d.k, .int .i64 d.e.d.op, .slice d.e.d.v.a d.e.d.v.len d.e.d.v.cap, .int .i64 d.e.d.t.t.k, .slice d.e.d.t.t.a d.e.d.t.t.len d.e.d.t.t.cap, .int .i64 d.e.d.t.t.n, .int .i64 d.e.d.t.t.s, .slice d.e.d.ka d.e.d.n d.e.d.kc, .slice d.v.a d.v.len d.v.cap, .slice d.ta d.tb.length d.tc, .slice d.ka d.n d.kc] 62)) #[.int .i64 d'.k, .int .i64 d'.ord, .slice d'.p.s.v.a d'.p.s.v.len d'.p.s.v.cap, .int .i64 d'.p.s.t.t.k, .slice d'.p.s.t.t.a d'.p.s.t.t.len d'.p.s.t.t.cap, .int .i64 d'.p.s.t.t.n, .int .i64 d'.p.s.t.t.s, .slice d'.p.p.v.a d'.p.p.v.len d'.p.p.v.cap, .int .i64 d'.p.p.t.t.k, .slice d'.p.p.t.t.a d'.p.p.t.t.len d'.p.p.t.t.cap, .int .i64 d'.p.p.t.t.n, .int .i64 d'.p.p.t.t.s, .slice d'.p.o.v.a d'.p.o.v.len d'.p.o.v.cap, .int .i64 d'.p.o.t.t.k, .slice d'.p.o.t.t.a d'.p.o.t.t.len d'.p.o.t.t.cap, .int .i64 d'.p.o.t.t.n, .int .i64 d'.p.o.t.t.s, .int .i64 d'.e.d.k, .int .i64 d'.e.d.op, .slice d'.e.d.v.a d'.e.d.v.len d'.e.d.v.cap, .int .i64 d'.e.d.t.t.k, .slice d'.e.d.t.t.a d'.e.d.t.t.len d'.e.d.t.t.cap, .int .i64 d'.e.d.t.t.n, .int .i64 d'.e.d.t.t.s, .slice d'.e.d.ka d'.e.d.n d'.e.d.kc, .slice d'.v.a d'.v.len d'.v.cap, .slice d'.ta d'.tb.length d'.tc, .slice d'.ka d'.n d'.kc] 62 _).below hb1; simpa using h)
    have HB1 : Hid (Below w.heap.size w w1) := bl_trans (bl_alloc (bl_a _) _) hb1
    clear hb1 Z1 HZ1
    have la : w1.rangeAt w.heap.size 17 [.int .i64 d.e.d.k, .int .i64 d.e.d.op, .slice d.e.d.v.a d.e.d.v.len d.e.d.v.cap, .int .i64 d.e.d.t.t.k, .slice d.e.d.t.t.a d.e.d.t.t.len d.e.d.t.t.cap, .int .i64 d.e.d.t.t.n, .int .i64 d.e.d.t.t.s, .slice d.e.d.ka d.e.d.n d.e.d.kc] := HX1.out.range 17 _ rfl
    have lb : w1.rangeAt (w.heap.size + 1) 17 [.int .i64 d'.e.d.k, .int .i64 d'.e.d.op, .slice d'.e.d.v.a d'.e.d.v.len d'.e.d.v.cap, .int .i64 d'.e.d.t.t.k, .slice d'.e.d.t.t.a d'.e.d.t.t.len d'.e.d.t.t.cap, .int .i64 d'.e.d.t.t.n, .int .i64 d'.e.d.t.t.s, .slice d'.e.d.ka d'.e.d.n d'.e.d.kc] := HY1.out.range 17 _ rfl
    have Z2 := HZ2.out
    go_wp2_with (first | (refine wpList_load_mid rfl 39 _ rfl w.heap.size 17 rfl [.int .i64 d.e.d.k, .int .i64 d.e.d.op, .slice d.e.d.v.a d.e.d.v.len d.e.d.v.cap, .int .i64 d.e.d.t.t.k, .slice d.e.d.t.t.a d.e.d.t.t.len d.e.d.t.t.cap, .int .i64 d.e.d.t.t.n, .int .i64 d.e.d.t.t.s, .slice d.e.d.ka d.e.d.n d.e.d.kc] _ la Try.underlying39 rfl (by kernel_rfl) ?_; try simp only [Act.put, List.setIfInBounds_toArray, List.set_cons_zero, List.set_cons_succ]) | (refine wpList_load_mid rfl 39 _ rfl (w.heap.size + 1) 17 rfl [.int .i64 d'.e.d.k, .int .i64 d'.e.d.op, .slice d'.e.d.v.a d'.e.d.v.len d'.e.d.v.cap, .int .i64 d'.e.d.t.t.k, .slice d'.e.d.t.t.a d'.e.d.t.t.len d'.e.d.t.t.cap, .int .i64 d'.e.d.t.t.n, .int .i64 d'.e.d.t.t.s, .slice d'.e.d.ka d'.e.d.n d'.e.d.kc] _ lb Try.underlying39 rfl (by kernel_rfl) ?_; try simp only [Act.put, List.setIfInBounds_toArray, List.set_cons_zero, List.set_cons_succ]))
    refine (Z2 _ HB1.out).mono ?_
    rintro e w2 ⟨rfl, hb2⟩
    have HX2 : Hid (Box w2 w.heap.size [.int .i64 d.k, .int .i64 d.ord, .slice d.p.s.v.a d.p.s.v.len d.p.s.v.cap, .int .i64 d.p.s.t.t.k, .slice d.p.s.t.t.a d.p.s.t.t.len d.p.s.t.t.cap, .int .i64 d.p.s.t.t.n, .int .i64 d.p.s.t.t.s, .slice d.p.p.v.a d.p.p.v.len d.p.p.v.cap, .int .i64 d.p.p.t.t.k, .slice d.p.p.t.t.a d.p.p.t.t.len d.p.p.t.t.cap, .int .i64 d.p.p.t.t.n, .int .i64 d.p.p.t.t.s, .slice d.p.o.v.a d.p.o.v.len d.p.o.v.cap, .int .i64 d.p.o.t.t.k, .slice d.p.o.t.t.a d.p.o.t.t.len d.p.o.t.t.cap, .int .i64 d.p.o.t.t.n, .int .i64 d.p.o.t.t.s, .int .i64 d.e.d.k, .int .i64 d.e.d.op, .slice d.e.d.v.a d.e.d.v.len d.e.d.v.cap, .int .i64 d.e.d.t.t.k, .slice d.e.d.t.t.a d.e.d.t.t.len d.e.d.t.t.cap, .int .i64 d.e.d.t.t.n, .int .i64 d.e.d.t.t.s, .slice d.e.d.ka d.e.d.n d.e.d.kc, .slice d.v.a d.v.len d.v.cap, .slice d.ta d.tb.length d.tc, .slice d.ka d.n d.kc]) := HX1.out.below hb2
    have HY2 : Hid (Box w2 (w.heap.size + 1) [.int .i64 d'.k, .int .i64 d'.ord, .slice d'.p.s.v.a d'.p.s.v.len d'.p.s.v.cap, .int .i64 d'.p.s.t.t.k, .slice d'.p.s.t.t.a d'.p.s.t.t.len d'.p.s.t.t.cap, .int .i64 d'.p.s.t.t.n, .int .i64 d'.p.s.t.t.s, .slice d'.p.p.v.a d'.p.p.v.len d'.p.p.v.cap, .int .i64 d'.p.p.t.t.k, .slice d'.p.p.t.t.a d'.p.p.t.t.len d'.p.p.t.t.cap, .int .i64 d'.p.p.t.t.n, .int .i64 d'.p.p.t.t.s, .slice d'.p.o.v.a d'.p.o.v.len d'.p.o.v.cap, .int .i64 d'.p.o.t.t.k, .slice d'.p.o.t.t.a d'.p.o.t.t.len d'.p.o.t.t.cap, .int .i64 d'.p.o.t.t.n, .int .i64 d'.p.o.t.t.s, .int .i64 d'.e.d.k, .int .i64 d'.e.d.op, .slice d'.e.d.v.a d'.e.d.v.len d'.e.d.v.cap, .int .i64 d'.e.d.t.t.k, .slice d'.e.d.t.t.a d'.e.d.t.t.len d'.e.d.t.t.cap, .int .i64 d'.e.d.t.t.n, .int .i64 d'.e.d.t.t.s, .slice d'.e.d.ka d'.e.d.n d'.e.d.kc, .slice d'.v.a d'.v.len d'.v.cap, .slice d'.ta d'.tb.length d'.tc, .slice d'.ka d'.n d'.kc]) := HY1.out.below hb2
    have HB2 : Hid (Below w.heap.size w w2) := bl_trans HB1.out hb2
    clear hb2 Z2 HZ2 HX1 HY1 HB1 la lb
    have la := HX2.out.2 25 _ rfl
    have lb := HY2.out.2 25 _ rfl
    have Z3 := HZ3.out
    go_wp2_with fail
    refine (Z3 _ HB2.out).mono ?_
    rintro e w3 ⟨rfl, hb3⟩
    have HX3 : Hid (Box w3 w.heap.size [.int .i64 d.k, .int .i64 d.ord, .slice d.p.s.v.a d.p.s.v.len d.p.s.v.cap, .int .i64 d.p.s.t.t.k, .slice d.p.s.t.t.a d.p.s.t.t.len d.p.s.t.t.cap, .int .i64 d.p.s.t.t.n, .int .i64 d.p.s.t.t.s, .slice d.p.p.v.a d.p.p.v.len d.p.p.v.cap, .int .i64 d.p.p.t.t.k, .slice d.p.p.t.t.a d.p.p.t.t.len d.p.p.t.t.cap, .int .i64 d.p.p.t.t.n, .int .i64 d.p.p.t.t.s, .slice d.p.o.v.a d.p.o.v.len d.p.o.v.cap, .int .i64 d.p.o.t.t.k, .slice d.p.o.t.t.a d.p.o.t.t.len d.p.o.t.t.cap, .int .i64 d.p.o.t.t.n, .int .i64 d.p.o.t.t.s, .int .i64 d.e.d.k, .int .i64 d.e.d.op, .slice d.e.d.v.a d.e.d.v.len d.e.d.v.cap, .int .i64 d.e.d.t.t.k, .slice d.e.d.t.t.a d.e.d.t.t.len d.e.d.t.t.cap, .int .i64 d.e.d.t.t.n, .int .i64 d.e.d.t.t.s, .slice d.e.d.ka d.e.d.n d.e.d.kc, .slice d.v.a d.v.len d.v.cap, .slice d.ta d.tb.length d.tc, .slice d.ka d.n d.kc]) := HX2.out.below hb3
    have HY3 : Hid (Box w3 (w.heap.size + 1) [.int .i64 d'.k, .int .i64 d'.ord, .slice d'.p.s.v.a d'.p.s.v.len d'.p.s.v.cap, .int .i64 d'.p.s.t.t.k, .slice d'.p.s.t.t.a d'.p.s.t.t.len d'.p.s.t.t.cap, .int .i64 d'.p.s.t.t.n, .int .i64 d'.p.s.t.t.s, .slice d'.p.p.v.a d'.p.p.v.len d'.p.p.v.cap, .int .i64 d'.p.p.t.t.k, .slice d'.p.p.t.t.a d'.p.p.t.t.len d'.p.p.t.t.cap, .int .i64 d'.p.p.t.t.n, .int .i64 d'.p.p.t.t.s, .slice d'.p.o.v.a d'.p.o.v.len d'.p.o.v.cap, .int .i64 d'.p.o.t.t.k, .slice d'.p.o.t.t.a d'.p.o.t.t.len d'.p.o.t.t.cap, .int .i64 d'.p.o.t.t.n, .int .i64 d'.p.o.t.t.s, .int .i64 d'.e.d.k, .int .i64 d'.e.d.op, .slice d'.e.d.v.a d'.e.d.v.len d'.e.d.v.cap, .int .i64 d'.e.d.t.t.k, .slice d'.e.d.t.t.a d'.e.d.t.t.len d'.e.d.t.t.cap, .int .i64 d'.e.d.t.t.n, .int .i64 d'.e.d.t.t.s, .slice d'.e.d.ka d'.e.d.n d'.e.d.kc, .slice d'.v.a d'.v.len d'.v.cap, .slice d'.ta d'.tb.length d'.tc, .slice d'.ka d'.n d'.kc]) := HY2.out.below hb3
    have HB3 : Hid (Below w.heap.size w w3) := bl_trans HB2.out hb3
    clear hb3 Z3 HZ3 HX2 HY2 HB2 la lb
    have la := HX3.out.2 26 _ rfl
    have lb := HY3.out.2 26 _ rfl
    have Z4 := HZ4.out
    go_wp2_with fail
    refine (Z4 _ HB3.out).mono ?_
    rintro e w4 ⟨rfl, hb4⟩
    have HX4 : Hid (Box w4 w.heap.size [.int .i64 d.k, .int .i64 d.ord, .slice d.p.s.v.a d.p.s.v.len d.p.s.v.cap, .int .i64 d.p.s.t.t.k, .slice d.p.s.t.t.a d.p.s.t.t.len d.p.s.t.t.cap, .int .i64 d.p.s.t.t.n, .int .i64 d.p.s.t.t.s, .slice d.p.p.v.a d.p.p.v.len d.p.p.v.cap, .int .i64 d.p.p.t.t.k, .slice d.p.p.t.t.a d.p.p.t.t.len d.p.p.t.t.cap, .int .i64 d.p.p.t.t.n, .int .i64 d.p.p.t.t.s, .slice d.p.o.v.a d.p.o.v.len d.p.o.v.cap, .int .i64 d.p.o.t.t.k, .slice d.p.o.t.t.a d.p.o.t.t.len d.p.o.t.t.cap, .int .i64 d.p.o.t.t.n, .int .i64 d.p.o.t.t.s, .int .i64 d.e.d.k, .int .i64 d.e.d.op, .slice d.e.d.v.a d.e.d.v.len d.e.d.v.cap, .int .i64 d.e.d.t.t.k, .slice d.e.d.t.t.a d.e.d.t.t.len d.e.d.t.t.cap, .int .i64 d.e.d.t.t.n, .int .i64 d.e.d.t.t.s, .slice d.e.d.ka d.e.d.n d.e.d.kc, .slice d.v.a d.v.len d.v.cap, .slice d.ta d.tb.length d.tc, .slice d.ka d.n d.kc]) := HX3.out.below hb4
    have HY4 : Hid (Box w4 (w.heap.size + 1) [.int .i64 d'.k, .int .i64 d'.ord, .slice d'.p.s.v.a d'.p.s.v.len d'.p.s.v.cap, .int .i64 d'.p.s.t.t.k, .slice d'.p.s.t.t.a d'.p.s.t.t.len d'.p.s.t.t.cap, .int .i64 d'.p.s.t.t.n, .int .i64 d'.p.s.t.t.s, .slice d'.p.p.v.a d'.p.p.v.len d'.p.p.v.cap, .int .i64 d'.p.p.t.t.k, .slice d'.p.p.t.t.a d'.p.p.t.t.len d'.p.p.t.t.cap, .int .i64 d'.p.p.t.t.n, .int .i64 d'.p.p.t.t.s, .slice d'.p.o.v.a d'.p.o.v.len d'.p.o.v.cap, .int .i64 d'.p.o.t.t.k, .slice d'.p.o.t.t.a d'.p.o.t.t.len d'.p.o.t.t.cap, .int .i64 d'.p.o.t.t.n, .int .i64 d'.p.o.t.t.s, .int .i64 d'.e.d.k, .int .i64 d'.e.d.op, .slice d'.e.d.v.a d'.e.d.v.len d'.e.d.v.cap, .int .i64 d'.e.d.t.t.k, .slice d'.e.d.t.t.a d'.e.d.t.t.len d'.e.d.t.t.cap, .int .i64 d'.e.d.t.t.n, .int .i64 d'.e.d.t.t.s, .slice d'.e.d.ka d'.e.d.n d'.e.d.kc, .slice d'.v.a d'.v.len d'.v.cap, .slice d'.ta d'.tb.length d'.tc, .slice d'.ka d'.n d'.kc]) := HY3.out.below hb4
    have HB4 : Hid (Below w.heap.size w w4) := bl_trans HB3.out hb4
    clear hb4 Z4 HZ4 HX3 HY3 HB3 la lb
    have la := HX4.out.2 27 _ rfl
    have lb := HY4.out.2 27 _ rfl
    have Z5 := HZ5.out
    go_wp2_with fail
    refine (Z5 _ HB4.out).mono ?_
    rintro e w5 ⟨rfl, hb5⟩
    have HX5 : Hid (Box w5 w.heap.size [.int .i64 d.k, .int .i64 d.ord, .slice d.p.s.v.a d.p.s.v.len d.p.s.v.cap, .int .i64 d.p.s.t.t.k, .slice d.p.s.t.t.a d.p.s.t.t.len d.p.s.t.t.cap, .int .i64 d.p.s.t.t.n, .int .i64 d.p.s.t.t.s, .slice d.p.p.v.a d.p.p.v.len d.p.p.v.cap, .int .i64 d.p.p.t.t.k, .slice d.p.p.t.t.a d.p.p.t.t.len d.p.p.t.t.cap, .int .i64 d.p.p.t.t.n, .int .i64 d.p.p.t.t.s, .slice d.p.o.v.a d.p.o.v.len d.p.o.v.cap, .int .i64 d.p.o.t.t.k, .slice d.p.o.t.t.a d.p.o.t.t.len d.p.o.t.t.cap, .int .i64 d.p.o.t.t.n, .int .i64 d.p.o.t.t.s, .int .i64 d.e.d.k, .int .i64 d.e.d.op, .slice d.e.d.v.a d.e.d.v.len d.e.d.v.cap, .int .i64 d.e.d.t.t.k, .slice d.e.d.t.t.a d.e.d.t.t.len d.e.d.t.t.cap, .int .i64 d.e.d.t.t.n, .int .i64 d.e.d.t.t.s, .slice d.e.d.ka d.e.d.n d.e.d.kc, .slice d.v.a d.v.len d.v.cap, .slice d.ta d.tb.length d.tc, .slice d.ka d.n d.kc]) := HX4.out.below hb5
    have HY5 : Hid (Box w5 (w.heap.size + 1) [.int .i64 d'.k, .int .i64 d'.ord, .slice d'.p.s.v.a d'.p.s.v.len d'.p.s.v.cap, .int .i64 d'.p.s.t.t.k, .slice d'.p.s.t.t.a d'.p.s.t.t.len d'.p.s.t.t.cap, .int .i64 d'.p.s.t.t.n, .int .i64 d'.p.s.t.t.s, .slice d'.p.p.v.a d'.p.p.v.len d'.p.p.v.cap, .int .i64 d'.p.p.t.t.k, .slice d'.p.p.t.t.a d'.p.p.t.t.len d'.p.p.t.t.cap, .int .i64 d'.p.p.t.t.n, .int .i64 d'.p.p.t.t.s, .slice d'.p.o.v.a d'.p.o.v.len d'.p.o.v.cap, .int .i64 d'.p.o.t.t.k, .slice d'.p.o.t.t.a d'.p.o.t.t.len d'.p.o.t.t.cap, .int .i64 d'.p.o.t.t.n, .int .i64 d'.p.o.t.t.s, .int .i64 d'.e.d.k, .int .i64 d'.e.d.op, .slice d'.e.d.v.a d'.e.d.v.len d'.e.d.v.cap, .int .i64 d'.e.d.t.t.k, .slice d'.e.d.t.t.a d'.e.d.t.t.len d'.e.d.t.t.cap, .int .i64 d'.e.d.t.t.n, .int .i64 d'.e.d.t.t.s, .slice d'.e.d.ka d'.e.d.n d'.e.d.kc, .slice d'.v.a d'.v.len d'.v.cap, .slice d'.ta d'.tb.length d'.tc, .slice d'.ka d'.n d'.kc]) := HY4.out.below hb5
    have HB5 : Hid (Below w.heap.size w w5) := bl_trans HB4.out hb5
    clear hb5 Z5 HZ5 HX4 HY4 HB4 la lb
    go_wp2_with fail
    go_ret
    exact ⟨rfl, HB5.out⟩
end Go.Proofs.Ytpgbhkkdbkecoaa
