/- Texts put together: TrwC OpnA -/
import Derived.Test.YtpgbhkkdbkecoaaMk23
import Derived.Test.YtpgbhkkdbkecoaaMk35
import Derived.Test.YtpgbhkkdbkecoaaMk07
import Derived.Test.YtpgbhkkdbkecoaaMk08
import Derived.Test.YtpgbhkkdbkecoaaMk05
import Derived.Test.YtpgbhkkdbkecoaaMk03
import Derived.Deep.Strs
import Derived.Deep.Slices
/- TrwC -/
namespace Go.Proofs.Ytpgbhkkdbkecoaa
open Go.RowKit Go.Deep
set_option maxRecDepth 100000

def CpyAlg (e : AT) (W : World) (r : Ending) (w' : World) : Prop := ∃ y : AT, r = .returned (.agg #[.int .i64 y.d.k, .slice y.d.pa y.d.pn y.d.pc, .int .i64 y.d.e.d.k, .int .i64 y.d.e.d.op, .slice y.d.e.d.v.a y.d.e.d.v.len y.d.e.d.v.cap, .int .i64 y.d.e.d.t.t.k, .slice y.d.e.d.t.t.a y.d.e.d.t.t.len y.d.e.d.t.t.cap, .int .i64 y.d.e.d.t.t.n, .int .i64 y.d.e.d.t.t.s, .slice y.d.e.d.ka y.d.e.d.n y.d.e.d.kc, .slice y.d.v.a y.d.v.len y.d.v.cap, .slice y.d.ta y.d.tb.length y.d.tc, .slice y.d.ka y.d.n y.d.kc]) ∧ y.lies W.heap.size w' ∧ e.same y ∧ Below W.heap.size W w'

set_option maxHeartbeats 4000000 in
theorem walkAlgOk (e : AT) (w : World) (hc : e.came w) :
    Calls Try.prog 3 #[.agg #[.int .i64 e.d.k, .slice e.d.pa e.d.pn e.d.pc, .int .i64 e.d.e.d.k, .int .i64 e.d.e.d.op, .slice e.d.e.d.v.a e.d.e.d.v.len e.d.e.d.v.cap, .int .i64 e.d.e.d.t.t.k, .slice e.d.e.d.t.t.a e.d.e.d.t.t.len e.d.e.d.t.t.cap, .int .i64 e.d.e.d.t.t.n, .int .i64 e.d.e.d.t.t.s, .slice e.d.e.d.ka e.d.e.d.n e.d.e.d.kc, .slice e.d.v.a e.d.v.len e.d.v.cap, .slice e.d.ta e.d.tb.length e.d.tc, .slice e.d.ka e.d.n e.d.kc]] w fun r w' => r = .returned (.bool true) ∧ Below w.heap.size w w' := by
  have HLI : Hid (e.small → e.lies 0 w) := fun h => AT.came.lies hc h
  have HZ : Hid (∀ o, Calls Try.prog 5 #[.agg #[.int .i64 e.d.k, .slice e.d.pa e.d.pn e.d.pc, .int .i64 e.d.e.d.k, .int .i64 e.d.e.d.op, .slice e.d.e.d.v.a e.d.e.d.v.len e.d.e.d.v.cap, .int .i64 e.d.e.d.t.t.k, .slice e.d.e.d.t.t.a e.d.e.d.t.t.len e.d.e.d.t.t.cap, .int .i64 e.d.e.d.t.t.n, .int .i64 e.d.e.d.t.t.s, .slice e.d.e.d.ka e.d.e.d.n e.d.e.d.kc, .slice e.d.v.a e.d.v.len e.d.v.cap, .slice e.d.ta e.d.tb.length e.d.tc, .slice e.d.ka e.d.n e.d.kc], .int .i64 1048576] (w.alloc o) fun r w' => Sz e.small r ∧ Below (w.alloc o).heap.size (w.alloc o) w') := fun o => szAlg_any e 1048576 (w.alloc o) (by omega) (by omega) (AT.came.below (bl_a o) hc)
  have HTO : Hid (∀ W, e.lies 0 W → Calls Try.prog 7 #[.agg #[.int .i64 e.d.k, .slice e.d.pa e.d.pn e.d.pc, .int .i64 e.d.e.d.k, .int .i64 e.d.e.d.op, .slice e.d.e.d.v.a e.d.e.d.v.len e.d.e.d.v.cap, .int .i64 e.d.e.d.t.t.k, .slice e.d.e.d.t.t.a e.d.e.d.t.t.len e.d.e.d.t.t.cap, .int .i64 e.d.e.d.t.t.n, .int .i64 e.d.e.d.t.t.s, .slice e.d.e.d.ka e.d.e.d.n e.d.e.d.kc, .slice e.d.v.a e.d.v.len e.d.v.cap, .slice e.d.ta e.d.tb.length e.d.tc, .slice e.d.ka e.d.n e.d.kc]] W (CpyAlg e W)) := fun W h => toAlg_to e W h
  have HSO : Hid (∀ (W : World) (y : AT), y.lies 0 W → e.same y → Calls Try.prog 6 #[.agg #[.int .i64 y.d.k, .slice y.d.pa y.d.pn y.d.pc, .int .i64 y.d.e.d.k, .int .i64 y.d.e.d.op, .slice y.d.e.d.v.a y.d.e.d.v.len y.d.e.d.v.cap, .int .i64 y.d.e.d.t.t.k, .slice y.d.e.d.t.t.a y.d.e.d.t.t.len y.d.e.d.t.t.cap, .int .i64 y.d.e.d.t.t.n, .int .i64 y.d.e.d.t.t.s, .slice y.d.e.d.ka y.d.e.d.n y.d.e.d.kc, .slice y.d.v.a y.d.v.len y.d.v.cap, .slice y.d.ta y.d.tb.length y.d.tc, .slice y.d.ka y.d.n y.d.kc]] W (Tells (algOk e) W)) := fun W y h hs => (specAlgOk_any y W h).mono fun r w' hh => by obtain ⟨q, h1, h2, h3⟩ := hh; exact ⟨q, h1, h2.trans (algOk_same hs).symm, h3⟩
  have HIO : Hid (∀ (W : World) (y : AT), y.lies 0 W → e.same y → Calls Try.prog 8 #[.agg #[.int .i64 y.d.k, .slice y.d.pa y.d.pn y.d.pc, .int .i64 y.d.e.d.k, .int .i64 y.d.e.d.op, .slice y.d.e.d.v.a y.d.e.d.v.len y.d.e.d.v.cap, .int .i64 y.d.e.d.t.t.k, .slice y.d.e.d.t.t.a y.d.e.d.t.t.len y.d.e.d.t.t.cap, .int .i64 y.d.e.d.t.t.n, .int .i64 y.d.e.d.t.t.s, .slice y.d.e.d.ka y.d.e.d.n y.d.e.d.kc, .slice y.d.v.a y.d.v.len y.d.v.cap, .slice y.d.ta y.d.tb.length y.d.tc, .slice y.d.ka y.d.n y.d.kc]] W (Tells (algOk e) W)) := fun W y h hs => (implAlgOk_any y W h).mono fun r w' hh => by obtain ⟨q, h1, h2, h3⟩ := hh; exact ⟨q, h1, h2.trans (algOk_same hs).symm, h3⟩
  have HEQ : Hid (∀ (W : World) (y z : AT), y.lies 0 W → z.lies 0 W → e.same y → e.same z → Calls Try.prog 9 #[.agg #[.int .i64 y.d.k, .slice y.d.pa y.d.pn y.d.pc, .int .i64 y.d.e.d.k, .int .i64 y.d.e.d.op, .slice y.d.e.d.v.a y.d.e.d.v.len y.d.e.d.v.cap, .int .i64 y.d.e.d.t.t.k, .slice y.d.e.d.t.t.a y.d.e.d.t.t.len y.d.e.d.t.t.cap, .int .i64 y.d.e.d.t.t.n, .int .i64 y.d.e.d.t.t.s, .slice y.d.e.d.ka y.d.e.d.n y.d.e.d.kc, .slice y.d.v.a y.d.v.len y.d.v.cap, .slice y.d.ta y.d.tb.length y.d.tc, .slice y.d.ka y.d.n y.d.kc], .agg #[.int .i64 z.d.k, .slice z.d.pa z.d.pn z.d.pc, .int .i64 z.d.e.d.k, .int .i64 z.d.e.d.op, .slice z.d.e.d.v.a z.d.e.d.v.len z.d.e.d.v.cap, .int .i64 z.d.e.d.t.t.k, .slice z.d.e.d.t.t.a z.d.e.d.t.t.len z.d.e.d.t.t.cap, .int .i64 z.d.e.d.t.t.n, .int .i64 z.d.e.d.t.t.s, .slice z.d.e.d.ka z.d.e.d.n z.d.e.d.kc, .slice z.d.v.a z.d.v.len z.d.v.cap, .slice z.d.ta z.d.tb.length z.d.tc, .slice z.d.ka z.d.n z.d.kc]] W (Yes W)) := fun W y z h1 h2 h3 h4 => eqAlg_same y z W h1 h2 (h3.symm.trans h4)
  clear hc
  go_enter Try.func3, Try.ntmps3
  have hZ := HZ.out
  have lr : (w.alloc (.cells #[.int .i64 e.d.k, .slice e.d.pa e.d.pn e.d.pc, .int .i64 e.d.e.d.k, .int .i64 e.d.e.d.op, .slice e.d.e.d.v.a e.d.e.d.v.len e.d.e.d.v.cap, .int .i64 e.d.e.d.t.t.k, .slice e.d.e.d.t.t.a e.d.e.d.t.t.len e.d.e.d.t.t.cap, .int .i64 e.d.e.d.t.t.n, .int .i64 e.d.e.d.t.t.s, .slice e.d.e.d.ka e.d.e.d.n e.d.e.d.kc, .slice e.d.v.a e.d.v.len e.d.v.cap, .slice e.d.ta e.d.tb.length e.d.tc, .slice e.d.ka e.d.n e.d.kc] 32)).rangeAt w.heap.size 0 [.int .i64 e.d.k, .slice e.d.pa e.d.pn e.d.pc, .int .i64 e.d.e.d.k, .int .i64 e.d.e.d.op, .slice e.d.e.d.v.a e.d.e.d.v.len e.d.e.d.v.cap, .int .i64 e.d.e.d.t.t.k, .slice e.d.e.d.t.t.a e.d.e.d.t.t.len e.d.e.d.t.t.cap, .int .i64 e.d.e.d.t.t.n, .int .i64 e.d.e.d.t.t.s, .slice e.d.e.d.ka e.d.e.d.n e.d.e.d.kc, .slice e.d.v.a e.d.v.len e.d.v.cap, .slice e.d.ta e.d.tb.length e.d.tc, .slice e.d.ka e.d.n e.d.kc] := (Box.new w #[.int .i64 e.d.k, .slice e.d.pa e.d.pn e.d.pc, .int .i64 e.d.e.d.k, .int .i64 e.d.e.d.op, .slice e.d.e.d.v.a e.d.e.d.v.len e.d.e.d.v.cap, .int .i64 e.d.e.d.t.t.k, .slice e.d.e.d.t.t.a e.d.e.d.t.t.len e.d.e.d.t.t.cap, .int .i64 e.d.e.d.t.t.n, .int .i64 e.d.e.d.t.t.s, .slice e.d.e.d.ka e.d.e.d.n e.d.e.d.kc, .slice e.d.v.a e.d.v.len e.d.v.cap, .slice e.d.ta e.d.tb.length e.d.tc, .slice e.d.ka e.d.n e.d.kc] 32 (0, 0)).range 0 _ rfl
  go_wp2_with (with_reducible refine wpl_at ?_; refine wpList_load_mid rfl 32 _ rfl _ _ rfl [.int .i64 e.d.k, .slice e.d.pa e.d.pn e.d.pc, .int .i64 e.d.e.d.k, .int .i64 e.d.e.d.op, .slice e.d.e.d.v.a e.d.e.d.v.len e.d.e.d.v.cap, .int .i64 e.d.e.d.t.t.k, .slice e.d.e.d.t.t.a e.d.e.d.t.t.len e.d.e.d.t.t.cap, .int .i64 e.d.e.d.t.t.n, .int .i64 e.d.e.d.t.t.s, .slice e.d.e.d.ka e.d.e.d.n e.d.e.d.kc, .slice e.d.v.a e.d.v.len e.d.v.cap, .slice e.d.ta e.d.tb.length e.d.tc, .slice e.d.ka e.d.n e.d.kc] _ lr Try.underlying32 rfl (by kernel_rfl) ?_; try simp only [Act.put, List.setIfInBounds_toArray, List.set_cons_zero, List.set_cons_succ])
  refine (hZ _).mono ?_
  rintro r w1 ⟨⟨r1, rfl, hr1⟩, hb1⟩
  have HX0 : Hid (Box w1 w.heap.size [.int .i64 e.d.k, .slice e.d.pa e.d.pn e.d.pc, .int .i64 e.d.e.d.k, .int .i64 e.d.e.d.op, .slice e.d.e.d.v.a e.d.e.d.v.len e.d.e.d.v.cap, .int .i64 e.d.e.d.t.t.k, .slice e.d.e.d.t.t.a e.d.e.d.t.t.len e.d.e.d.t.t.cap, .int .i64 e.d.e.d.t.t.n, .int .i64 e.d.e.d.t.t.s, .slice e.d.e.d.ka e.d.e.d.n e.d.e.d.kc, .slice e.d.v.a e.d.v.len e.d.v.cap, .slice e.d.ta e.d.tb.length e.d.tc, .slice e.d.ka e.d.n e.d.kc]) := (Box.new w #[.int .i64 e.d.k, .slice e.d.pa e.d.pn e.d.pc, .int .i64 e.d.e.d.k, .int .i64 e.d.e.d.op, .slice e.d.e.d.v.a e.d.e.d.v.len e.d.e.d.v.cap, .int .i64 e.d.e.d.t.t.k, .slice e.d.e.d.t.t.a e.d.e.d.t.t.len e.d.e.d.t.t.cap, .int .i64 e.d.e.d.t.t.n, .int .i64 e.d.e.d.t.t.s, .slice e.d.e.d.ka e.d.e.d.n e.d.e.d.kc, .slice e.d.v.a e.d.v.len e.d.v.cap, .slice e.d.ta e.d.tb.length e.d.tc, .slice e.d.ka e.d.n e.d.kc] 32 (0, 0)).below hb1
  have HB1 : Hid (Below w.heap.size w w1) := bl_trans (bl_a _) hb1
  clear hZ hb1 lr
  rcases hr1 with rfl | ⟨p1, q1, s1⟩
  · go_wp2_with fail
    go_ret
    exact ⟨rfl, HB1.out⟩
  have n1 : ¬ r1 < 0 := by omega
  have HL : Hid (e.lies 0 w) := HLI.out s1
  have hT1 := HTO.out w1 (HL.out.below HB1.out)
  have lr : w1.rangeAt w.heap.size 0 [.int .i64 e.d.k, .slice e.d.pa e.d.pn e.d.pc, .int .i64 e.d.e.d.k, .int .i64 e.d.e.d.op, .slice e.d.e.d.v.a e.d.e.d.v.len e.d.e.d.v.cap, .int .i64 e.d.e.d.t.t.k, .slice e.d.e.d.t.t.a e.d.e.d.t.t.len e.d.e.d.t.t.cap, .int .i64 e.d.e.d.t.t.n, .int .i64 e.d.e.d.t.t.s, .slice e.d.e.d.ka e.d.e.d.n e.d.e.d.kc, .slice e.d.v.a e.d.v.len e.d.v.cap, .slice e.d.ta e.d.tb.length e.d.tc, .slice e.d.ka e.d.n e.d.kc] := HX0.out.range 0 _ rfl
  clear p1 q1 s1 HLI
  go_wp2_with (with_reducible refine wpl_at ?_; refine wpList_load_mid rfl 32 _ rfl _ _ rfl [.int .i64 e.d.k, .slice e.d.pa e.d.pn e.d.pc, .int .i64 e.d.e.d.k, .int .i64 e.d.e.d.op, .slice e.d.e.d.v.a e.d.e.d.v.len e.d.e.d.v.cap, .int .i64 e.d.e.d.t.t.k, .slice e.d.e.d.t.t.a e.d.e.d.t.t.len e.d.e.d.t.t.cap, .int .i64 e.d.e.d.t.t.n, .int .i64 e.d.e.d.t.t.s, .slice e.d.e.d.ka e.d.e.d.n e.d.e.d.kc, .slice e.d.v.a e.d.v.len e.d.v.cap, .slice e.d.ta e.d.tb.length e.d.tc, .slice e.d.ka e.d.n e.d.kc] _ lr Try.underlying32 rfl (by kernel_rfl) ?_; try simp only [Act.put, List.setIfInBounds_toArray, List.set_cons_zero, List.set_cons_succ])
  refine hT1.mono ?_
  rintro r w2 ⟨y, rfl, hy, hs, hb2⟩
  have HB2 : Hid (Below w1.heap.size w1 w2) := hb2
  have hO := HSO.out w2 y (AT.lies.base (Nat.zero_le _) hy) hs
  clear hT1 hy hs hb2 lr
  go_wp2_with fail
  refine hO.mono ?_
  rintro r w3 ⟨q, rfl, hq, hb3⟩
  have HQ : Hid (q = true ↔ algOk e) := hq
  have HB3 : Hid (Below w1.heap.size w1 w3) := bl_trans HB2.out hb3
  have HBw3 : Hid (Below w.heap.size w w3) := bl_trans HB1.out HB3.out
  clear hO hq hb3
  have hT2 := HTO.out w3 (HL.out.below HBw3.out)
  have lr : w3.rangeAt w.heap.size 0 [.int .i64 e.d.k, .slice e.d.pa e.d.pn e.d.pc, .int .i64 e.d.e.d.k, .int .i64 e.d.e.d.op, .slice e.d.e.d.v.a e.d.e.d.v.len e.d.e.d.v.cap, .int .i64 e.d.e.d.t.t.k, .slice e.d.e.d.t.t.a e.d.e.d.t.t.len e.d.e.d.t.t.cap, .int .i64 e.d.e.d.t.t.n, .int .i64 e.d.e.d.t.t.s, .slice e.d.e.d.ka e.d.e.d.n e.d.e.d.kc, .slice e.d.v.a e.d.v.len e.d.v.cap, .slice e.d.ta e.d.tb.length e.d.tc, .slice e.d.ka e.d.n e.d.kc] := (HX0.out.below HB3.out).range 0 _ rfl
  go_wp2_with (with_reducible refine wpl_at ?_; refine wpList_load_mid rfl 32 _ rfl _ _ rfl [.int .i64 e.d.k, .slice e.d.pa e.d.pn e.d.pc, .int .i64 e.d.e.d.k, .int .i64 e.d.e.d.op, .slice e.d.e.d.v.a e.d.e.d.v.len e.d.e.d.v.cap, .int .i64 e.d.e.d.t.t.k, .slice e.d.e.d.t.t.a e.d.e.d.t.t.len e.d.e.d.t.t.cap, .int .i64 e.d.e.d.t.t.n, .int .i64 e.d.e.d.t.t.s, .slice e.d.e.d.ka e.d.e.d.n e.d.e.d.kc, .slice e.d.v.a e.d.v.len e.d.v.cap, .slice e.d.ta e.d.tb.length e.d.tc, .slice e.d.ka e.d.n e.d.kc] _ lr Try.underlying32 rfl (by kernel_rfl) ?_; try simp only [Act.put, List.setIfInBounds_toArray, List.set_cons_zero, List.set_cons_succ])
  refine hT2.mono ?_
  rintro r w4 ⟨z, rfl, hz, hs, hb4⟩
  have HZ4 : Hid (z.lies 0 w4) := AT.lies.base (Nat.zero_le _) hz
  have HS4 : Hid (e.same z) := hs
  have HB4 : Hid (Below w1.heap.size w1 w4) := bl_trans HB3.out hb4
  have HBw4 : Hid (Below w.heap.size w w4) := bl_trans HBw3.out hb4
  have HIO4 : Hid (∀ o, Calls Try.prog 8 #[.agg #[.int .i64 z.d.k, .slice z.d.pa z.d.pn z.d.pc, .int .i64 z.d.e.d.k, .int .i64 z.d.e.d.op, .slice z.d.e.d.v.a z.d.e.d.v.len z.d.e.d.v.cap, .int .i64 z.d.e.d.t.t.k, .slice z.d.e.d.t.t.a z.d.e.d.t.t.len z.d.e.d.t.t.cap, .int .i64 z.d.e.d.t.t.n, .int .i64 z.d.e.d.t.t.s, .slice z.d.e.d.ka z.d.e.d.n z.d.e.d.kc, .slice z.d.v.a z.d.v.len z.d.v.cap, .slice z.d.ta z.d.tb.length z.d.tc, .slice z.d.ka z.d.n z.d.kc]] (w4.alloc o) (Tells (algOk e) (w4.alloc o))) := fun o => HIO.out (w4.alloc o) z (HZ4.out.below (bl_a o)) HS4.out
  clear hT2 hz hs hb4 lr
  have hI := HIO4.out
  have lr : (w4.alloc (.cells #[.int .i64 z.d.k, .slice z.d.pa z.d.pn z.d.pc, .int .i64 z.d.e.d.k, .int .i64 z.d.e.d.op, .slice z.d.e.d.v.a z.d.e.d.v.len z.d.e.d.v.cap, .int .i64 z.d.e.d.t.t.k, .slice z.d.e.d.t.t.a z.d.e.d.t.t.len z.d.e.d.t.t.cap, .int .i64 z.d.e.d.t.t.n, .int .i64 z.d.e.d.t.t.s, .slice z.d.e.d.ka z.d.e.d.n z.d.e.d.kc, .slice z.d.v.a z.d.v.len z.d.v.cap, .slice z.d.ta z.d.tb.length z.d.tc, .slice z.d.ka z.d.n z.d.kc] 43)).rangeAt w4.heap.size 0 [.int .i64 z.d.k, .slice z.d.pa z.d.pn z.d.pc, .int .i64 z.d.e.d.k, .int .i64 z.d.e.d.op, .slice z.d.e.d.v.a z.d.e.d.v.len z.d.e.d.v.cap, .int .i64 z.d.e.d.t.t.k, .slice z.d.e.d.t.t.a z.d.e.d.t.t.len z.d.e.d.t.t.cap, .int .i64 z.d.e.d.t.t.n, .int .i64 z.d.e.d.t.t.s, .slice z.d.e.d.ka z.d.e.d.n z.d.e.d.kc, .slice z.d.v.a z.d.v.len z.d.v.cap, .slice z.d.ta z.d.tb.length z.d.tc, .slice z.d.ka z.d.n z.d.kc] := (Box.new w4 #[.int .i64 z.d.k, .slice z.d.pa z.d.pn z.d.pc, .int .i64 z.d.e.d.k, .int .i64 z.d.e.d.op, .slice z.d.e.d.v.a z.d.e.d.v.len z.d.e.d.v.cap, .int .i64 z.d.e.d.t.t.k, .slice z.d.e.d.t.t.a z.d.e.d.t.t.len z.d.e.d.t.t.cap, .int .i64 z.d.e.d.t.t.n, .int .i64 z.d.e.d.t.t.s, .slice z.d.e.d.ka z.d.e.d.n z.d.e.d.kc, .slice z.d.v.a z.d.v.len z.d.v.cap, .slice z.d.ta z.d.tb.length z.d.tc, .slice z.d.ka z.d.n z.d.kc] 43 (0, 0)).range 0 _ rfl
  go_wp2_with (with_reducible refine wpl_at ?_; refine wpList_load_mid rfl 43 _ rfl _ _ rfl [.int .i64 z.d.k, .slice z.d.pa z.d.pn z.d.pc, .int .i64 z.d.e.d.k, .int .i64 z.d.e.d.op, .slice z.d.e.d.v.a z.d.e.d.v.len z.d.e.d.v.cap, .int .i64 z.d.e.d.t.t.k, .slice z.d.e.d.t.t.a z.d.e.d.t.t.len z.d.e.d.t.t.cap, .int .i64 z.d.e.d.t.t.n, .int .i64 z.d.e.d.t.t.s, .slice z.d.e.d.ka z.d.e.d.n z.d.e.d.kc, .slice z.d.v.a z.d.v.len z.d.v.cap, .slice z.d.ta z.d.tb.length z.d.tc, .slice z.d.ka z.d.n z.d.kc] _ lr Try.underlying43 rfl (by kernel_rfl) ?_; try simp only [Act.put, List.setIfInBounds_toArray, List.set_cons_zero, List.set_cons_succ])
  refine (hI _).mono ?_
  rintro r w6 ⟨q', rfl, hq', hb6⟩
  have hqq : q' = q := Bool.eq_iff_iff.2 (hq'.trans HQ.out.symm)
  subst hqq
  have HXz : Hid (Box w6 w4.heap.size [.int .i64 z.d.k, .slice z.d.pa z.d.pn z.d.pc, .int .i64 z.d.e.d.k, .int .i64 z.d.e.d.op, .slice z.d.e.d.v.a z.d.e.d.v.len z.d.e.d.v.cap, .int .i64 z.d.e.d.t.t.k, .slice z.d.e.d.t.t.a z.d.e.d.t.t.len z.d.e.d.t.t.cap, .int .i64 z.d.e.d.t.t.n, .int .i64 z.d.e.d.t.t.s, .slice z.d.e.d.ka z.d.e.d.n z.d.e.d.kc, .slice z.d.v.a z.d.v.len z.d.v.cap, .slice z.d.ta z.d.tb.length z.d.tc, .slice z.d.ka z.d.n z.d.kc]) := (Box.new w4 #[.int .i64 z.d.k, .slice z.d.pa z.d.pn z.d.pc, .int .i64 z.d.e.d.k, .int .i64 z.d.e.d.op, .slice z.d.e.d.v.a z.d.e.d.v.len z.d.e.d.v.cap, .int .i64 z.d.e.d.t.t.k, .slice z.d.e.d.t.t.a z.d.e.d.t.t.len z.d.e.d.t.t.cap, .int .i64 z.d.e.d.t.t.n, .int .i64 z.d.e.d.t.t.s, .slice z.d.e.d.ka z.d.e.d.n z.d.e.d.kc, .slice z.d.v.a z.d.v.len z.d.v.cap, .slice z.d.ta z.d.tb.length z.d.tc, .slice z.d.ka z.d.n z.d.kc] 43 (0, 0)).below hb6
  have HB6 : Hid (Below w4.heap.size w4 w6) := bl_trans (bl_a _) hb6
  have HBw6 : Hid (Below w.heap.size w w6) := bl_trans HBw4.out HB6.out
  have HXe : Hid (Box w6 w.heap.size [.int .i64 e.d.k, .slice e.d.pa e.d.pn e.d.pc, .int .i64 e.d.e.d.k, .int .i64 e.d.e.d.op, .slice e.d.e.d.v.a e.d.e.d.v.len e.d.e.d.v.cap, .int .i64 e.d.e.d.t.t.k, .slice e.d.e.d.t.t.a e.d.e.d.t.t.len e.d.e.d.t.t.cap, .int .i64 e.d.e.d.t.t.n, .int .i64 e.d.e.d.t.t.s, .slice e.d.e.d.ka e.d.e.d.n e.d.e.d.kc, .slice e.d.v.a e.d.v.len e.d.v.cap, .slice e.d.ta e.d.tb.length e.d.tc, .slice e.d.ka e.d.n e.d.kc]) := HX0.out.below (bl_trans HB4.out HB6.out)
  have HBX : Hid (∀ w', Below w6.heap.size w6 w' → w'.rangeAt w.heap.size 0 [.int .i64 e.d.k, .slice e.d.pa e.d.pn e.d.pc, .int .i64 e.d.e.d.k, .int .i64 e.d.e.d.op, .slice e.d.e.d.v.a e.d.e.d.v.len e.d.e.d.v.cap, .int .i64 e.d.e.d.t.t.k, .slice e.d.e.d.t.t.a e.d.e.d.t.t.len e.d.e.d.t.t.cap, .int .i64 e.d.e.d.t.t.n, .int .i64 e.d.e.d.t.t.s, .slice e.d.e.d.ka e.d.e.d.n e.d.e.d.kc, .slice e.d.v.a e.d.v.len e.d.v.cap, .slice e.d.ta e.d.tb.length e.d.tc, .slice e.d.ka e.d.n e.d.kc] ∧ w'.rangeAt w4.heap.size 0 [.int .i64 z.d.k, .slice z.d.pa z.d.pn z.d.pc, .int .i64 z.d.e.d.k, .int .i64 z.d.e.d.op, .slice z.d.e.d.v.a z.d.e.d.v.len z.d.e.d.v.cap, .int .i64 z.d.e.d.t.t.k, .slice z.d.e.d.t.t.a z.d.e.d.t.t.len z.d.e.d.t.t.cap, .int .i64 z.d.e.d.t.t.n, .int .i64 z.d.e.d.t.t.s, .slice z.d.e.d.ka z.d.e.d.n z.d.e.d.kc, .slice z.d.v.a z.d.v.len z.d.v.cap, .slice z.d.ta z.d.tb.length z.d.tc, .slice z.d.ka z.d.n z.d.kc]) := fun w' hg => ⟨(HXe.out.below hg).range 0 _ rfl, (HXz.out.below hg).range 0 _ rfl⟩
  have HT3 : Hid (Calls Try.prog 7 #[.agg #[.int .i64 e.d.k, .slice e.d.pa e.d.pn e.d.pc, .int .i64 e.d.e.d.k, .int .i64 e.d.e.d.op, .slice e.d.e.d.v.a e.d.e.d.v.len e.d.e.d.v.cap, .int .i64 e.d.e.d.t.t.k, .slice e.d.e.d.t.t.a e.d.e.d.t.t.len e.d.e.d.t.t.cap, .int .i64 e.d.e.d.t.t.n, .int .i64 e.d.e.d.t.t.s, .slice e.d.e.d.ka e.d.e.d.n e.d.e.d.kc, .slice e.d.v.a e.d.v.len e.d.v.cap, .slice e.d.ta e.d.tb.length e.d.tc, .slice e.d.ka e.d.n e.d.kc]] w6.drew (CpyAlg e w6.drew)) := HTO.out w6.drew (AT.lies.below HL.out (Below.drew HBw6.out))
  have HEQ7 : Hid (∀ (w7 : World) (x : AT), Below w6.heap.size w6.drew w7 → x.lies 0 w7 → e.same x → Calls Try.prog 9 #[.agg #[.int .i64 z.d.k, .slice z.d.pa z.d.pn z.d.pc, .int .i64 z.d.e.d.k, .int .i64 z.d.e.d.op, .slice z.d.e.d.v.a z.d.e.d.v.len z.d.e.d.v.cap, .int .i64 z.d.e.d.t.t.k, .slice z.d.e.d.t.t.a z.d.e.d.t.t.len z.d.e.d.t.t.cap, .int .i64 z.d.e.d.t.t.n, .int .i64 z.d.e.d.t.t.s, .slice z.d.e.d.ka z.d.e.d.n z.d.e.d.kc, .slice z.d.v.a z.d.v.len z.d.v.cap, .slice z.d.ta z.d.tb.length z.d.tc, .slice z.d.ka z.d.n z.d.kc], .agg #[.int .i64 x.d.k, .slice x.d.pa x.d.pn x.d.pc, .int .i64 x.d.e.d.k, .int .i64 x.d.e.d.op, .slice x.d.e.d.v.a x.d.e.d.v.len x.d.e.d.v.cap, .int .i64 x.d.e.d.t.t.k, .slice x.d.e.d.t.t.a x.d.e.d.t.t.len x.d.e.d.t.t.cap, .int .i64 x.d.e.d.t.t.n, .int .i64 x.d.e.d.t.t.s, .slice x.d.e.d.ka x.d.e.d.n x.d.e.d.kc, .slice x.d.v.a x.d.v.len x.d.v.cap, .slice x.d.ta x.d.tb.length x.d.tc, .slice x.d.ka x.d.n x.d.kc]] w7 (Yes w7)) := by
    intro w7 x hb h1 h2
    exact HEQ.out w7 z x (AT.lies.below HZ4.out ((Below.drew HB6.out).trans (hb.mono HB6.out.size))) h1 HS4.out h2
  clear hI hq' hb6 lr HIO4 HSO HIO HTO HEQ HZ HX0 HXz HXe
  go_wp2_with fail
  refine wp_region_held_drew (S := fun w' => Below w6.heap.size w6 w') (by kernel_rfl) ?_ (fun hHeld => ?_)
  · exact Below.drew (Below.refl _ _)
  refine takeq (i := 0) 22 (v := .agg #[.int .i64 z.d.k, .slice z.d.pa z.d.pn z.d.pc, .int .i64 z.d.e.d.k, .int .i64 z.d.e.d.op, .slice z.d.e.d.v.a z.d.e.d.v.len z.d.e.d.v.cap, .int .i64 z.d.e.d.t.t.k, .slice z.d.e.d.t.t.a z.d.e.d.t.t.len z.d.e.d.t.t.cap, .int .i64 z.d.e.d.t.t.n, .int .i64 z.d.e.d.t.t.s, .slice z.d.e.d.ka z.d.e.d.n z.d.e.d.kc, .slice z.d.v.a z.d.v.len z.d.v.cap, .slice z.d.ta z.d.tb.length z.d.tc, .slice z.d.ka z.d.n z.d.kc]) rfl rfl (by kernel_rfl) (by kernel_rfl) (by kernel_rfl) (fun _ _ _ h => h) (yieldsIf_load_mid (by rfl) 43 _ rfl w4.heap.size 0 rfl [.int .i64 z.d.k, .slice z.d.pa z.d.pn z.d.pc, .int .i64 z.d.e.d.k, .int .i64 z.d.e.d.op, .slice z.d.e.d.v.a z.d.e.d.v.len z.d.e.d.v.cap, .int .i64 z.d.e.d.t.t.k, .slice z.d.e.d.t.t.a z.d.e.d.t.t.len z.d.e.d.t.t.cap, .int .i64 z.d.e.d.t.t.n, .int .i64 z.d.e.d.t.t.s, .slice z.d.e.d.ka z.d.e.d.n z.d.e.d.kc, .slice z.d.v.a z.d.v.len z.d.v.cap, .slice z.d.ta z.d.tb.length z.d.tc, .slice z.d.ka z.d.n z.d.kc] _ (fun w' h => (HBX.out w' h).2) Try.underlying43 rfl (by kernel_rfl)) hHeld ?r1
  try simp only [Act.put, List.setIfInBounds_toArray, List.set_cons_zero, List.set_cons_succ]
  refine takeq (i := 1) 23 (v := .agg #[.int .i64 e.d.k, .slice e.d.pa e.d.pn e.d.pc, .int .i64 e.d.e.d.k, .int .i64 e.d.e.d.op, .slice e.d.e.d.v.a e.d.e.d.v.len e.d.e.d.v.cap, .int .i64 e.d.e.d.t.t.k, .slice e.d.e.d.t.t.a e.d.e.d.t.t.len e.d.e.d.t.t.cap, .int .i64 e.d.e.d.t.t.n, .int .i64 e.d.e.d.t.t.s, .slice e.d.e.d.ka e.d.e.d.n e.d.e.d.kc, .slice e.d.v.a e.d.v.len e.d.v.cap, .slice e.d.ta e.d.tb.length e.d.tc, .slice e.d.ka e.d.n e.d.kc]) rfl rfl (by kernel_rfl) (by kernel_rfl) (by kernel_rfl) (fun _ _ _ h => h) (yieldsIf_load_mid (by rfl) 32 _ rfl w.heap.size 0 rfl [.int .i64 e.d.k, .slice e.d.pa e.d.pn e.d.pc, .int .i64 e.d.e.d.k, .int .i64 e.d.e.d.op, .slice e.d.e.d.v.a e.d.e.d.v.len e.d.e.d.v.cap, .int .i64 e.d.e.d.t.t.k, .slice e.d.e.d.t.t.a e.d.e.d.t.t.len e.d.e.d.t.t.cap, .int .i64 e.d.e.d.t.t.n, .int .i64 e.d.e.d.t.t.s, .slice e.d.e.d.ka e.d.e.d.n e.d.e.d.kc, .slice e.d.v.a e.d.v.len e.d.v.cap, .slice e.d.ta e.d.tb.length e.d.tc, .slice e.d.ka e.d.n e.d.kc] _ (fun w' h => (HBX.out w' h).1) Try.underlying32 rfl (by kernel_rfl)) hHeld ?r2
  try simp only [Act.put, List.setIfInBounds_toArray, List.set_cons_zero, List.set_cons_succ]
  refine wpAnyH_ready (rs := [2]) (by kernel_rfl) (by simp) ?_
  refine AllReadyH.cons rfl (fun K hK => ?_) AllReadyH.nil
  go_simp
  refine HT3.out.mono ?_
  rintro r w7 ⟨x, rfl, hx, hs7, hb7⟩
  have HB7 : Hid (Below w6.heap.size w6.drew w7) := hb7
  have hEQ := HEQ7.out w7 x HB7.out (AT.lies.base (Nat.zero_le _) hx) hs7
  clear hx hs7 hb7 HEQ7
  go_wp2_with fail
  refine hK.out _ _ ?_ (fun hHeld => ?_)
  · exact (Below.drew (Below.refl _ _)).trans HB7.out
  clear hK K
  try simp only [Act.put, List.setIfInBounds_toArray, List.set_cons_zero, List.set_cons_succ]
  refine wpAnyH_ready (rs := [3]) (by kernel_rfl) (by simp) ?_
  refine AllReadyH.cons rfl (fun K hK => ?_) AllReadyH.nil
  go_simp
  refine hEQ.mono ?_
  rintro r w8 ⟨rfl, hb8⟩
  have HB8 : Hid (Below w6.heap.size w6 w8) := ((Below.drew (Below.refl _ _)).trans HB7.out).trans (hb8.mono (by have := HB7.out.size; simpa using this))
  clear hEQ hb8 HB7
  go_wp2_with fail
  refine hK.out _ _ ?_ (fun hHeld => ?_)
  · exact HB8.out
  clear hK K
  try simp only [Act.put, List.setIfInBounds_toArray, List.set_cons_zero, List.set_cons_succ]
  refine takeq (i := 4) 26 (v := .bool false) rfl rfl (by kernel_rfl) (by kernel_rfl) (by kernel_rfl) (fun _ _ _ h => h) (Or.inl ⟨by rfl, ?y3⟩) hHeld ?r3
  case y3 => (intro w' hSw; go_simp; (try with_reducible rfl))
  try simp only [Act.put, List.setIfInBounds_toArray, List.set_cons_zero, List.set_cons_succ]
  refine wpAnyH_done (by kernel_rfl) ?_ _
  go_wp2
  go_ret
  exact ⟨rfl, HBw6.out.trans (HB8.out.mono HBw6.out.size)⟩
end Go.Proofs.Ytpgbhkkdbkecoaa

/- OpnA -/
namespace Go.Proofs.Ytpgbhkkdbkecoaa
open Go.ChangeShapes Go.WideShapes Go.ChangeAt Go.RowKit Go.Joins Go.Deep

def tmCells (t : Tm) : List Value := [.int .i64 t.k, .slice t.a t.len t.cap, .int .i64 t.n, .int .i64 t.s]

set_option maxRecDepth 100000 in
/-- A term's cells, opened. -/
theorem trod_term {H : Type} {enc : TypeId × Value → H} {W : World} {fuel : Nat} {cs : List Value} {x : DataW H × List MemPlace}
    (h : DataW.trod enc Try.prog W 0 (fun _ => true) true fuel 25 cs = some x) :
    ∃ (t : Tm) (bs : List Int), cs = tmCells t ∧ t.fits ∧ t.len ≤ 9223372036854775807 ∧ (t.len ≤ 1048576 → Bs W t.a t.len bs) := by
  obtain ⟨y0, y1, y2, y3, m, _, hlen, hy0, hy1, hy2, hy3⟩ := trod_struct4 Try.underlying25 h
  rw [Try.cells25] at hlen
  match cs, hlen with
  | [c0, c1, c2, c3], _ =>
    have e3 : Try.prog.cellsOf 3 = 1 := by kernel_rfl
    have e8 : Try.prog.cellsOf 23 = 1 := by kernel_rfl
    simp [e3, e8] at hy0 hy1 hy2 hy3
    obtain ⟨k, e0, _, wk⟩ := DataW.trod_int Try.underlying3 hy0
    obtain ⟨n, e2, _, wn⟩ := DataW.trod_int Try.underlying3 hy2
    obtain ⟨s, e3, _, ws⟩ := DataW.trod_int Try.underlying3 hy3
    simp at e0 e2 e3
    subst e0 e2 e3
    have bn := bounds_i64 wn
    have bsc := bounds_i64 ws
    rcases open_ints Try.underlying23 Try.underlying5 Try.cells5 hy1 with ⟨hcs, _⟩ | ⟨x, l, c, zs, hcs, _, hl, hm, hz, _, hcell, hwz⟩
    · simp at hcs
      subst hcs
      exact ⟨⟨k, none, 0, 0, n, s⟩, [], rfl, ⟨bn.1, bn.2, bsc.1, bsc.2⟩, by show (0 : Nat) ≤ _; omega, fun _ => ⟨rfl, by show (0 : Nat) ≤ _; omega, by simp, .inl rfl⟩⟩
    · simp at hcs
      subst hcs
      simp only [if_true] at hz
      refine ⟨⟨k, some x, l, c, n, s⟩, zs.take l, rfl, ⟨bn.1, bn.2, bsc.1, bsc.2⟩, ?_, fun h20 => ?_⟩
      · show l ≤ _
        unfold maxLen at hm
        omega
      · exact Bs.of_cells hl hz h20 hcell hwz

end Go.Proofs.Ytpgbhkkdbkecoaa
