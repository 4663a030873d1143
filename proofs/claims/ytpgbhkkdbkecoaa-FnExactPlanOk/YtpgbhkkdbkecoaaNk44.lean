/- Texts put together: TrvD TrxJ TrwB TrxZ -/
import Derived.Test.YtpgbhkkdbkecoaaNk42
import Derived.Test.YtpgbhkkdbkecoaaNk43
import Derived.Test.YtpgbhkkdbkecoaaNk23
/- TrvD -/
namespace Go.Proofs.Ytpgbhkkdbkecoaa
open Go.RowKit Go.Deep
set_option maxRecDepth 100000

theorem vq_new {w0 w : World} (hb : Below w0.heap.size w0 w) (t : TypeId) : VQ w0 (w.alloc (.cells #[.slice none 0 0] t)) w.heap.size w.heap.size (.slice none 0 0) [] :=
  ⟨by simp [go_sem], by simp [go_sem], by simp, VL.nil _ _ _, fun e => (by cases e), hb.size, hb.size, hb.trans ((bl_a _).mono hb.size), by simp⟩
end Go.Proofs.Ytpgbhkkdbkecoaa

/- TrxJ -/
namespace Go.Proofs.Ytpgbhkkdbkecoaa
open Go.RowKit Go.Deep
set_option maxRecDepth 100000

set_option maxHeartbeats 8000000 in
theorem implPlanOk_any (e : PT) (w : World) (h : e.lies 0 w) : Calls Try.prog 13 #[.agg #[.int .i64 e.d.k, .int .i64 e.d.ord, .slice e.d.p.s.v.a e.d.p.s.v.len e.d.p.s.v.cap, .int .i64 e.d.p.s.t.t.k, .slice e.d.p.s.t.t.a e.d.p.s.t.t.len e.d.p.s.t.t.cap, .int .i64 e.d.p.s.t.t.n, .int .i64 e.d.p.s.t.t.s, .slice e.d.p.p.v.a e.d.p.p.v.len e.d.p.p.v.cap, .int .i64 e.d.p.p.t.t.k, .slice e.d.p.p.t.t.a e.d.p.p.t.t.len e.d.p.p.t.t.cap, .int .i64 e.d.p.p.t.t.n, .int .i64 e.d.p.p.t.t.s, .slice e.d.p.o.v.a e.d.p.o.v.len e.d.p.o.v.cap, .int .i64 e.d.p.o.t.t.k, .slice e.d.p.o.t.t.a e.d.p.o.t.t.len e.d.p.o.t.t.cap, .int .i64 e.d.p.o.t.t.n, .int .i64 e.d.p.o.t.t.s, .int .i64 e.d.e.d.k, .int .i64 e.d.e.d.op, .slice e.d.e.d.v.a e.d.e.d.v.len e.d.e.d.v.cap, .int .i64 e.d.e.d.t.t.k, .slice e.d.e.d.t.t.a e.d.e.d.t.t.len e.d.e.d.t.t.cap, .int .i64 e.d.e.d.t.t.n, .int .i64 e.d.e.d.t.t.s, .slice e.d.e.d.ka e.d.e.d.n e.d.e.d.kc, .slice e.d.v.a e.d.v.len e.d.v.cap, .slice e.d.ta e.d.tb.length e.d.tc, .slice e.d.ka e.d.n e.d.kc]] w (Tells (planOk e) w) := by
  have HP1 : Hid (∀ (W : World), Below w.heap.size w W → Ctr W (w.heap.size + 1) 1440 → Calls Try.prog 40 #[.pointer (some ⟨w.heap.size + 1, 0, none⟩), .agg #[.int .i64 1, .int .i64 480, .int .i64 e.d.k, .int .i64 e.d.ord, .slice e.d.p.s.v.a e.d.p.s.v.len e.d.p.s.v.cap, .int .i64 e.d.p.s.t.t.k, .slice e.d.p.s.t.t.a e.d.p.s.t.t.len e.d.p.s.t.t.cap, .int .i64 e.d.p.s.t.t.n, .int .i64 e.d.p.s.t.t.s, .slice e.d.p.p.v.a e.d.p.p.v.len e.d.p.p.v.cap, .int .i64 e.d.p.p.t.t.k, .slice e.d.p.p.t.t.a e.d.p.p.t.t.len e.d.p.p.t.t.cap, .int .i64 e.d.p.p.t.t.n, .int .i64 e.d.p.p.t.t.s, .slice e.d.p.o.v.a e.d.p.o.v.len e.d.p.o.v.cap, .int .i64 e.d.p.o.t.t.k, .slice e.d.p.o.t.t.a e.d.p.o.t.t.len e.d.p.o.t.t.cap, .int .i64 e.d.p.o.t.t.n, .int .i64 e.d.p.o.t.t.s, .int .i64 e.d.e.d.k, .int .i64 e.d.e.d.op, .slice e.d.e.d.v.a e.d.e.d.v.len e.d.e.d.v.cap, .int .i64 e.d.e.d.t.t.k, .slice e.d.e.d.t.t.a e.d.e.d.t.t.len e.d.e.d.t.t.cap, .int .i64 e.d.e.d.t.t.n, .int .i64 e.d.e.d.t.t.s, .slice e.d.e.d.ka e.d.e.d.n e.d.e.d.kc, .slice e.d.v.a e.d.v.len e.d.v.cap, .slice e.d.ta e.d.tb.length e.d.tc, .slice e.d.ka e.d.n e.d.kc]] W (CtrAns (pOk e 1) (psz e) (w.heap.size + 1) 1440 W)) := fun W hb hc => planOk_any e 1 1440 (w.heap.size + 1) w W h hb (Nat.le_succ _) hc (by omega) (by omega) (by omega) (by omega)
  have HV : Hid (∀ (W : World) (g B : Nat), VQ w W B g (.slice none 0 0) [] → pc e ≤ 1000000 → Calls Try.prog 41 #[.pointer (some ⟨g, 0, none⟩), .agg #[.int .i64 e.d.k, .int .i64 e.d.ord, .slice e.d.p.s.v.a e.d.p.s.v.len e.d.p.s.v.cap, .int .i64 e.d.p.s.t.t.k, .slice e.d.p.s.t.t.a e.d.p.s.t.t.len e.d.p.s.t.t.cap, .int .i64 e.d.p.s.t.t.n, .int .i64 e.d.p.s.t.t.s, .slice e.d.p.p.v.a e.d.p.p.v.len e.d.p.p.v.cap, .int .i64 e.d.p.p.t.t.k, .slice e.d.p.p.t.t.a e.d.p.p.t.t.len e.d.p.p.t.t.cap, .int .i64 e.d.p.p.t.t.n, .int .i64 e.d.p.p.t.t.s, .slice e.d.p.o.v.a e.d.p.o.v.len e.d.p.o.v.cap, .int .i64 e.d.p.o.t.t.k, .slice e.d.p.o.t.t.a e.d.p.o.t.t.len e.d.p.o.t.t.cap, .int .i64 e.d.p.o.t.t.n, .int .i64 e.d.p.o.t.t.s, .int .i64 e.d.e.d.k, .int .i64 e.d.e.d.op, .slice e.d.e.d.v.a e.d.e.d.v.len e.d.e.d.v.cap, .int .i64 e.d.e.d.t.t.k, .slice e.d.e.d.t.t.a e.d.e.d.t.t.len e.d.e.d.t.t.cap, .int .i64 e.d.e.d.t.t.n, .int .i64 e.d.e.d.t.t.s, .slice e.d.e.d.ka e.d.e.d.n e.d.e.d.kc, .slice e.d.v.a e.d.v.len e.d.v.cap, .slice e.d.ta e.d.tb.length e.d.tc, .slice e.d.ka e.d.n e.d.kc]] W (AddQ w B g (.slice none 0 0) (pV e []) W)) := fun W g B hV hL => addPlan_any e (.slice none 0 0) [] B g w W h hV (by simpa using hL)
  have HAC : Hid (pOk e 1 → pc e ≤ 5 * psz e) := fun h => pc_le h
  clear h
  have HX : Hid (Box ((w.alloc (.cells #[.int .i64 e.d.k, .int .i64 e.d.ord, .slice e.d.p.s.v.a e.d.p.s.v.len e.d.p.s.v.cap, .int .i64 e.d.p.s.t.t.k, .slice e.d.p.s.t.t.a e.d.p.s.t.t.len e.d.p.s.t.t.cap, .int .i64 e.d.p.s.t.t.n, .int .i64 e.d.p.s.t.t.s, .slice e.d.p.p.v.a e.d.p.p.v.len e.d.p.p.v.cap, .int .i64 e.d.p.p.t.t.k, .slice e.d.p.p.t.t.a e.d.p.p.t.t.len e.d.p.p.t.t.cap, .int .i64 e.d.p.p.t.t.n, .int .i64 e.d.p.p.t.t.s, .slice e.d.p.o.v.a e.d.p.o.v.len e.d.p.o.v.cap, .int .i64 e.d.p.o.t.t.k, .slice e.d.p.o.t.t.a e.d.p.o.t.t.len e.d.p.o.t.t.cap, .int .i64 e.d.p.o.t.t.n, .int .i64 e.d.p.o.t.t.s, .int .i64 e.d.e.d.k, .int .i64 e.d.e.d.op, .slice e.d.e.d.v.a e.d.e.d.v.len e.d.e.d.v.cap, .int .i64 e.d.e.d.t.t.k, .slice e.d.e.d.t.t.a e.d.e.d.t.t.len e.d.e.d.t.t.cap, .int .i64 e.d.e.d.t.t.n, .int .i64 e.d.e.d.t.t.s, .slice e.d.e.d.ka e.d.e.d.n e.d.e.d.kc, .slice e.d.v.a e.d.v.len e.d.v.cap, .slice e.d.ta e.d.tb.length e.d.tc, .slice e.d.ka e.d.n e.d.kc] 62)).alloc (.cells #[.int .i64 1440] 81)) w.heap.size e.d.cells) := (Box.new w #[.int .i64 e.d.k, .int .i64 e.d.ord, .slice e.d.p.s.v.a e.d.p.s.v.len e.d.p.s.v.cap, .int .i64 e.d.p.s.t.t.k, .slice e.d.p.s.t.t.a e.d.p.s.t.t.len e.d.p.s.t.t.cap, .int .i64 e.d.p.s.t.t.n, .int .i64 e.d.p.s.t.t.s, .slice e.d.p.p.v.a e.d.p.p.v.len e.d.p.p.v.cap, .int .i64 e.d.p.p.t.t.k, .slice e.d.p.p.t.t.a e.d.p.p.t.t.len e.d.p.p.t.t.cap, .int .i64 e.d.p.p.t.t.n, .int .i64 e.d.p.p.t.t.s, .slice e.d.p.o.v.a e.d.p.o.v.len e.d.p.o.v.cap, .int .i64 e.d.p.o.t.t.k, .slice e.d.p.o.t.t.a e.d.p.o.t.t.len e.d.p.o.t.t.cap, .int .i64 e.d.p.o.t.t.n, .int .i64 e.d.p.o.t.t.s, .int .i64 e.d.e.d.k, .int .i64 e.d.e.d.op, .slice e.d.e.d.v.a e.d.e.d.v.len e.d.e.d.v.cap, .int .i64 e.d.e.d.t.t.k, .slice e.d.e.d.t.t.a e.d.e.d.t.t.len e.d.e.d.t.t.cap, .int .i64 e.d.e.d.t.t.n, .int .i64 e.d.e.d.t.t.s, .slice e.d.e.d.ka e.d.e.d.n e.d.e.d.kc, .slice e.d.v.a e.d.v.len e.d.v.cap, .slice e.d.ta e.d.tb.length e.d.tc, .slice e.d.ka e.d.n e.d.kc] 62 (0, 0)).below (bl_a _)
  have HC : Hid (Ctr ((w.alloc (.cells #[.int .i64 e.d.k, .int .i64 e.d.ord, .slice e.d.p.s.v.a e.d.p.s.v.len e.d.p.s.v.cap, .int .i64 e.d.p.s.t.t.k, .slice e.d.p.s.t.t.a e.d.p.s.t.t.len e.d.p.s.t.t.cap, .int .i64 e.d.p.s.t.t.n, .int .i64 e.d.p.s.t.t.s, .slice e.d.p.p.v.a e.d.p.p.v.len e.d.p.p.v.cap, .int .i64 e.d.p.p.t.t.k, .slice e.d.p.p.t.t.a e.d.p.p.t.t.len e.d.p.p.t.t.cap, .int .i64 e.d.p.p.t.t.n, .int .i64 e.d.p.p.t.t.s, .slice e.d.p.o.v.a e.d.p.o.v.len e.d.p.o.v.cap, .int .i64 e.d.p.o.t.t.k, .slice e.d.p.o.t.t.a e.d.p.o.t.t.len e.d.p.o.t.t.cap, .int .i64 e.d.p.o.t.t.n, .int .i64 e.d.p.o.t.t.s, .int .i64 e.d.e.d.k, .int .i64 e.d.e.d.op, .slice e.d.e.d.v.a e.d.e.d.v.len e.d.e.d.v.cap, .int .i64 e.d.e.d.t.t.k, .slice e.d.e.d.t.t.a e.d.e.d.t.t.len e.d.e.d.t.t.cap, .int .i64 e.d.e.d.t.t.n, .int .i64 e.d.e.d.t.t.s, .slice e.d.e.d.ka e.d.e.d.n e.d.e.d.kc, .slice e.d.v.a e.d.v.len e.d.v.cap, .slice e.d.ta e.d.tb.length e.d.tc, .slice e.d.ka e.d.n e.d.kc] 62)).alloc (.cells #[.int .i64 1440] 81)) (w.heap.size + 1) 1440) := ⟨by simp, by simp [go_sem], by simp [go_sem]⟩
  have HB : Hid (Below w.heap.size w ((w.alloc (.cells #[.int .i64 e.d.k, .int .i64 e.d.ord, .slice e.d.p.s.v.a e.d.p.s.v.len e.d.p.s.v.cap, .int .i64 e.d.p.s.t.t.k, .slice e.d.p.s.t.t.a e.d.p.s.t.t.len e.d.p.s.t.t.cap, .int .i64 e.d.p.s.t.t.n, .int .i64 e.d.p.s.t.t.s, .slice e.d.p.p.v.a e.d.p.p.v.len e.d.p.p.v.cap, .int .i64 e.d.p.p.t.t.k, .slice e.d.p.p.t.t.a e.d.p.p.t.t.len e.d.p.p.t.t.cap, .int .i64 e.d.p.p.t.t.n, .int .i64 e.d.p.p.t.t.s, .slice e.d.p.o.v.a e.d.p.o.v.len e.d.p.o.v.cap, .int .i64 e.d.p.o.t.t.k, .slice e.d.p.o.t.t.a e.d.p.o.t.t.len e.d.p.o.t.t.cap, .int .i64 e.d.p.o.t.t.n, .int .i64 e.d.p.o.t.t.s, .int .i64 e.d.e.d.k, .int .i64 e.d.e.d.op, .slice e.d.e.d.v.a e.d.e.d.v.len e.d.e.d.v.cap, .int .i64 e.d.e.d.t.t.k, .slice e.d.e.d.t.t.a e.d.e.d.t.t.len e.d.e.d.t.t.cap, .int .i64 e.d.e.d.t.t.n, .int .i64 e.d.e.d.t.t.s, .slice e.d.e.d.ka e.d.e.d.n e.d.e.d.kc, .slice e.d.v.a e.d.v.len e.d.v.cap, .slice e.d.ta e.d.tb.length e.d.tc, .slice e.d.ka e.d.n e.d.kc] 62)).alloc (.cells #[.int .i64 1440] 81))) := bl_alloc (bl_a _) _
  go_enter Try.func13, Try.ntmps13
  go_upto_region 2 with fail
  generalize ((w.alloc (.cells #[.int .i64 e.d.k, .int .i64 e.d.ord, .slice e.d.p.s.v.a e.d.p.s.v.len e.d.p.s.v.cap, .int .i64 e.d.p.s.t.t.k, .slice e.d.p.s.t.t.a e.d.p.s.t.t.len e.d.p.s.t.t.cap, .int .i64 e.d.p.s.t.t.n, .int .i64 e.d.p.s.t.t.s, .slice e.d.p.p.v.a e.d.p.p.v.len e.d.p.p.v.cap, .int .i64 e.d.p.p.t.t.k, .slice e.d.p.p.t.t.a e.d.p.p.t.t.len e.d.p.p.t.t.cap, .int .i64 e.d.p.p.t.t.n, .int .i64 e.d.p.p.t.t.s, .slice e.d.p.o.v.a e.d.p.o.v.len e.d.p.o.v.cap, .int .i64 e.d.p.o.t.t.k, .slice e.d.p.o.t.t.a e.d.p.o.t.t.len e.d.p.o.t.t.cap, .int .i64 e.d.p.o.t.t.n, .int .i64 e.d.p.o.t.t.s, .int .i64 e.d.e.d.k, .int .i64 e.d.e.d.op, .slice e.d.e.d.v.a e.d.e.d.v.len e.d.e.d.v.cap, .int .i64 e.d.e.d.t.t.k, .slice e.d.e.d.t.t.a e.d.e.d.t.t.len e.d.e.d.t.t.cap, .int .i64 e.d.e.d.t.t.n, .int .i64 e.d.e.d.t.t.s, .slice e.d.e.d.ka e.d.e.d.n e.d.e.d.kc, .slice e.d.v.a e.d.v.len e.d.v.cap, .slice e.d.ta e.d.tb.length e.d.tc, .slice e.d.ka e.d.n e.d.kc] 62)).alloc (.cells #[.int .i64 1440] 81)) = W1 at *
  have lr : W1.rangeAt w.heap.size 0 [.int .i64 e.d.k, .int .i64 e.d.ord, .slice e.d.p.s.v.a e.d.p.s.v.len e.d.p.s.v.cap, .int .i64 e.d.p.s.t.t.k, .slice e.d.p.s.t.t.a e.d.p.s.t.t.len e.d.p.s.t.t.cap, .int .i64 e.d.p.s.t.t.n, .int .i64 e.d.p.s.t.t.s, .slice e.d.p.p.v.a e.d.p.p.v.len e.d.p.p.v.cap, .int .i64 e.d.p.p.t.t.k, .slice e.d.p.p.t.t.a e.d.p.p.t.t.len e.d.p.p.t.t.cap, .int .i64 e.d.p.p.t.t.n, .int .i64 e.d.p.p.t.t.s, .slice e.d.p.o.v.a e.d.p.o.v.len e.d.p.o.v.cap, .int .i64 e.d.p.o.t.t.k, .slice e.d.p.o.t.t.a e.d.p.o.t.t.len e.d.p.o.t.t.cap, .int .i64 e.d.p.o.t.t.n, .int .i64 e.d.p.o.t.t.s, .int .i64 e.d.e.d.k, .int .i64 e.d.e.d.op, .slice e.d.e.d.v.a e.d.e.d.v.len e.d.e.d.v.cap, .int .i64 e.d.e.d.t.t.k, .slice e.d.e.d.t.t.a e.d.e.d.t.t.len e.d.e.d.t.t.cap, .int .i64 e.d.e.d.t.t.n, .int .i64 e.d.e.d.t.t.s, .slice e.d.e.d.ka e.d.e.d.n e.d.e.d.kc, .slice e.d.v.a e.d.v.len e.d.v.cap, .slice e.d.ta e.d.tb.length e.d.tc, .slice e.d.ka e.d.n e.d.kc] := HX.out.range 0 _ rfl
  go_wp2_with (with_reducible refine wpq_at ?_; refine wpList_load_mid rfl 62 _ rfl w.heap.size 0 rfl [.int .i64 e.d.k, .int .i64 e.d.ord, .slice e.d.p.s.v.a e.d.p.s.v.len e.d.p.s.v.cap, .int .i64 e.d.p.s.t.t.k, .slice e.d.p.s.t.t.a e.d.p.s.t.t.len e.d.p.s.t.t.cap, .int .i64 e.d.p.s.t.t.n, .int .i64 e.d.p.s.t.t.s, .slice e.d.p.p.v.a e.d.p.p.v.len e.d.p.p.v.cap, .int .i64 e.d.p.p.t.t.k, .slice e.d.p.p.t.t.a e.d.p.p.t.t.len e.d.p.p.t.t.cap, .int .i64 e.d.p.p.t.t.n, .int .i64 e.d.p.p.t.t.s, .slice e.d.p.o.v.a e.d.p.o.v.len e.d.p.o.v.cap, .int .i64 e.d.p.o.t.t.k, .slice e.d.p.o.t.t.a e.d.p.o.t.t.len e.d.p.o.t.t.cap, .int .i64 e.d.p.o.t.t.n, .int .i64 e.d.p.o.t.t.s, .int .i64 e.d.e.d.k, .int .i64 e.d.e.d.op, .slice e.d.e.d.v.a e.d.e.d.v.len e.d.e.d.v.cap, .int .i64 e.d.e.d.t.t.k, .slice e.d.e.d.t.t.a e.d.e.d.t.t.len e.d.e.d.t.t.cap, .int .i64 e.d.e.d.t.t.n, .int .i64 e.d.e.d.t.t.s, .slice e.d.e.d.ka e.d.e.d.n e.d.e.d.kc, .slice e.d.v.a e.d.v.len e.d.v.cap, .slice e.d.ta e.d.tb.length e.d.tc, .slice e.d.ka e.d.n e.d.kc] _ lr Try.underlying62 rfl (by kernel_rfl) ?_; try simp only [Act.put, List.setIfInBounds_toArray, List.set_cons_zero, List.set_cons_succ])
  refine (HP1.out W1 HB.out HC.out).mono ?_
  rintro r w3 ⟨q, L', rfl, hq, _, hc3, hp3⟩
  have HB3 : Hid (Below w.heap.size w w3) := HB.out.trans (hp3.below (Nat.le_succ _) HB.out.size)
  have HX3 : Hid (Box w3 w.heap.size e.d.cells) := HX.out.past hp3 (by omega)
  have HQ : Hid (q = true ↔ pOk e 1 ∧ psz e ≤ 1440) := (show (q = true ↔ _) from hq.trans ⟨fun hh => ⟨hh.1, by have h2 := hh.2; omega⟩, fun hh => ⟨hh.1, by have h2 := hh.2; omega⟩⟩)
  clear HP1 hc3 hp3 hq lr HX HC HB
  cases q with
  | false =>
    have HNO : Hid (¬ planOk e) := fun hh => by have h1 := HQ.out.2 ⟨hh.1, hh.2.1⟩; cases h1
    clear HQ
    go_wp2_with fail
    go_ret
    exact Tells.no HNO.out HB3.out
  | true =>
    have HOK : Hid (pOk e 1 ∧ psz e ≤ 1440) := HQ.out.1 rfl
    have lr := fun o => (HX3.out.below (bl_a o)).range 0 [.int .i64 e.d.k, .int .i64 e.d.ord, .slice e.d.p.s.v.a e.d.p.s.v.len e.d.p.s.v.cap, .int .i64 e.d.p.s.t.t.k, .slice e.d.p.s.t.t.a e.d.p.s.t.t.len e.d.p.s.t.t.cap, .int .i64 e.d.p.s.t.t.n, .int .i64 e.d.p.s.t.t.s, .slice e.d.p.p.v.a e.d.p.p.v.len e.d.p.p.v.cap, .int .i64 e.d.p.p.t.t.k, .slice e.d.p.p.t.t.a e.d.p.p.t.t.len e.d.p.p.t.t.cap, .int .i64 e.d.p.p.t.t.n, .int .i64 e.d.p.p.t.t.s, .slice e.d.p.o.v.a e.d.p.o.v.len e.d.p.o.v.cap, .int .i64 e.d.p.o.t.t.k, .slice e.d.p.o.t.t.a e.d.p.o.t.t.len e.d.p.o.t.t.cap, .int .i64 e.d.p.o.t.t.n, .int .i64 e.d.p.o.t.t.s, .int .i64 e.d.e.d.k, .int .i64 e.d.e.d.op, .slice e.d.e.d.v.a e.d.e.d.v.len e.d.e.d.v.cap, .int .i64 e.d.e.d.t.t.k, .slice e.d.e.d.t.t.a e.d.e.d.t.t.len e.d.e.d.t.t.cap, .int .i64 e.d.e.d.t.t.n, .int .i64 e.d.e.d.t.t.s, .slice e.d.e.d.ka e.d.e.d.n e.d.e.d.kc, .slice e.d.v.a e.d.v.len e.d.v.cap, .slice e.d.ta e.d.tb.length e.d.tc, .slice e.d.ka e.d.n e.d.kc] rfl
    clear HQ
    go_wp2_with (with_reducible refine wpq_at ?_; refine wpList_load_mid rfl 62 _ rfl w.heap.size 0 rfl [.int .i64 e.d.k, .int .i64 e.d.ord, .slice e.d.p.s.v.a e.d.p.s.v.len e.d.p.s.v.cap, .int .i64 e.d.p.s.t.t.k, .slice e.d.p.s.t.t.a e.d.p.s.t.t.len e.d.p.s.t.t.cap, .int .i64 e.d.p.s.t.t.n, .int .i64 e.d.p.s.t.t.s, .slice e.d.p.p.v.a e.d.p.p.v.len e.d.p.p.v.cap, .int .i64 e.d.p.p.t.t.k, .slice e.d.p.p.t.t.a e.d.p.p.t.t.len e.d.p.p.t.t.cap, .int .i64 e.d.p.p.t.t.n, .int .i64 e.d.p.p.t.t.s, .slice e.d.p.o.v.a e.d.p.o.v.len e.d.p.o.v.cap, .int .i64 e.d.p.o.t.t.k, .slice e.d.p.o.t.t.a e.d.p.o.t.t.len e.d.p.o.t.t.cap, .int .i64 e.d.p.o.t.t.n, .int .i64 e.d.p.o.t.t.s, .int .i64 e.d.e.d.k, .int .i64 e.d.e.d.op, .slice e.d.e.d.v.a e.d.e.d.v.len e.d.e.d.v.cap, .int .i64 e.d.e.d.t.t.k, .slice e.d.e.d.t.t.a e.d.e.d.t.t.len e.d.e.d.t.t.cap, .int .i64 e.d.e.d.t.t.n, .int .i64 e.d.e.d.t.t.s, .slice e.d.e.d.ka e.d.e.d.n e.d.e.d.kc, .slice e.d.v.a e.d.v.len e.d.v.cap, .slice e.d.ta e.d.tb.length e.d.tc, .slice e.d.ka e.d.n e.d.kc] _ (lr _) Try.underlying62 rfl (by kernel_rfl) ?_; try simp only [Act.put, List.setIfInBounds_toArray, List.set_cons_zero, List.set_cons_succ])
    clear lr
    refine Calls.mono (HV.out _ w3.heap.size w3.heap.size ?hv ?hl) ?_
    case hv => exact vq_new HB3.out _
    case hl => have h1 := HAC.out HOK.out.1; have h2 := HOK.out.2; omega
    rintro r w5 ⟨v5, L5, rfl, hV5, hR5, hK5⟩
    obtain ⟨a5, c5, rfl, _⟩ := hV5.vl.form
    have HB5 : Hid (Below w.heap.size w w5) := hV5.bl
    have x5 := hV5.cell
    obtain ⟨n, hnn⟩ : ∃ n, n = L5.length := ⟨_, rfl⟩
    rw [← hnn] at x5
    have HN : Hid (n = (pV e []).length) := (show n = _ by rw [hnn, ← hR5, List.length_map])
    clear hV5 hR5 hK5 hnn HV
    by_cases h8 : n ≤ 8
    · have h8z : (n : Int) ≤ 8 := by omega
      have HY : Hid (planOk e) := ⟨HOK.out.1, HOK.out.2, by rw [← HN.out]; exact h8⟩
      go_wp2_with fail
      go_ret
      exact Tells.of ⟨fun _ => HY.out, fun _ => by simp; try omega⟩ HB5.out
    · have h8z : ¬ (n : Int) ≤ 8 := by omega
      have HNO : Hid (¬ planOk e) := fun hh => h8 (by rw [HN.out]; exact hh.2.2)
      go_wp2_with fail
      go_ret
      refine Tells.of ⟨fun h => ?_, fun hp => absurd hp HNO.out⟩ HB5.out
      exfalso
      simp at h
      omega
end Go.Proofs.Ytpgbhkkdbkecoaa

/- TrwB -/
namespace Go.Proofs.Ytpgbhkkdbkecoaa
open Go.RowKit Go.Deep
set_option maxRecDepth 100000

theorem tds_same {l l' : List TB} (h : l.map TB.td = l'.map TB.td) : l.length = l'.length ∧ ((∀ x ∈ l, x.td.ok = true) ↔ ∀ x ∈ l', x.td.ok = true) := by
  refine ⟨by have := congrArg List.length h; simpa using this, ?_⟩
  have e : ∀ m : List TB, (∀ x ∈ m, x.td.ok = true) ↔ ∀ y ∈ m.map TB.td, y.ok = true := fun m => by simp
  rw [e l, e l', h]
theorem NodeA.same {d d' : AN} (hk : d.k = d'.k) (hpn : d.pn = d'.pn) (hp : ∀ i, i < d.pn → (d.pat i).same (d'.pat i)) (he : d.e.same d'.e) (hv : d.v.b = d'.v.b) (ht : d.tb.map TB.td = d'.tb.map TB.td) (hn : d.n = d'.n) (h : NodeA d) : NodeA d' := by
  obtain ⟨l1, l2⟩ := tds_same ht
  refine ⟨hk ▸ h.k0, hk ▸ h.k7, ?_, fun hh => ?_, hpn ▸ h.pn, fun hh => ?_, l1 ▸ h.tn, fun hh => ?_, fun hh => ?_, fun hh => ?_, fun hh => ?_, fun i hi => ?_, l2.1 h.tm⟩
  · rw [← hn, ← hk]; exact h.n
  · rw [← hpn]; exact h.p0 (hk ▸ hh)
  · have h0 := h.t0 (hk ▸ hh); rw [tb_nil] at h0 ⊢; omega
  · exact (eOk_same he).1 (h.e1 (hk ▸ hh))
  · exact (zeroE_same he).1 (h.e0 (hk ▸ hh))
  · rw [← hv]; exact h.v1 (hk ▸ hh)
  · rw [← hv]; exact h.v0 (hk ▸ hh)
  · exact (ptOk_same (hp i (by omega))).1 (h.pt i (by omega))
theorem IB.same.symm {x y : IB} (h : x.same y) : y.same x := ⟨h.1.symm, h.2.symm⟩
theorem PB.same.symm {x y : PB} (h : x.same y) : y.same x := ⟨h.1.symm, h.2.1.symm, h.2.2.symm⟩
theorem ET.same.symm {e : ET} : ∀ {e' : ET}, e.same e' → e'.same e := by
  induction e with
  | nil => exact fun h => False.elim h
  | mk d kid ih =>
    intro e' h
    cases e' with
    | nil => exact False.elim h
    | mk d' kid' =>
    obtain ⟨h0, h1, h2, h3, h4, h5⟩ := h
    exact ⟨h0.symm, h1.symm, h2.symm, h3.symm, h4.symm, fun i hi => ih i (h5 i (by omega))⟩
theorem IB.same.trans {x y z : IB} (h : x.same y) (k : y.same z) : x.same z := ⟨h.1.trans k.1, h.2.trans k.2⟩
theorem PB.same.trans {x y z : PB} (h : x.same y) (k : y.same z) : x.same z := ⟨h.1.trans k.1, h.2.1.trans k.2.1, h.2.2.trans k.2.2⟩
theorem ET.same.trans {e : ET} : ∀ {e' e'' : ET}, e.same e' → e'.same e'' → e.same e'' := by
  induction e with
  | nil => exact fun h => False.elim h
  | mk d kid ih =>
    intro e' e'' h k
    cases e' with
    | nil => exact False.elim h
    | mk d' kid' =>
    cases e'' with
    | nil => exact False.elim k
    | mk d'' kid'' =>
    obtain ⟨h0, h1, h2, h3, h4, h5⟩ := h
    obtain ⟨k0, k1, k2, k3, k4, k5⟩ := k
    exact ⟨h0.trans k0, h1.trans k1, h2.trans k2, h3.trans k3, h4.trans k4, fun i hi => ih i (h5 i hi) (k5 i (by omega))⟩
theorem AT.same.symm {e : AT} : ∀ {e' : AT}, e.same e' → e'.same e := by
  induction e with
  | nil => exact fun h => False.elim h
  | mk d kid ih =>
    intro e' h
    cases e' with
    | nil => exact False.elim h
    | mk d' kid' =>
    obtain ⟨h0, h1, h2, h3, h4, h5, h6, h7⟩ := h
    exact ⟨h0.symm, h1.symm, fun i hi => (h2 i (by omega)).symm, h3.symm, h4.symm, h5.symm, h6.symm, fun i hi => ih i (h7 i (by omega))⟩
theorem AT.same.trans {e : AT} : ∀ {e' e'' : AT}, e.same e' → e'.same e'' → e.same e'' := by
  induction e with
  | nil => exact fun h => False.elim h
  | mk d kid ih =>
    intro e' e'' h k
    cases e' with
    | nil => exact False.elim h
    | mk d' kid' =>
    cases e'' with
    | nil => exact False.elim k
    | mk d'' kid'' =>
    obtain ⟨h0, h1, h2, h3, h4, h5, h6, h7⟩ := h
    obtain ⟨k0, k1, k2, k3, k4, k5, k6, k7⟩ := k
    exact ⟨h0.trans k0, h1.trans k1, fun i hi => (h2 i hi).trans (k2 i (by omega)), h3.trans k3, h4.trans k4, h5.trans k5, h6.trans k6, fun i hi => ih i (h7 i hi) (k7 i (by omega))⟩
theorem ptV_same {x y : PB} (h : x.same y) (l : List (List Int)) : ptV x l = ptV y l := by
  unfold ptV
  rw [h.1.1, h.2.1.1, h.2.2.1]
end Go.Proofs.Ytpgbhkkdbkecoaa

/- TrxZ -/
namespace Go.Proofs.Ytpgbhkkdbkecoaa
open Go.RowKit Go.Deep
set_option maxRecDepth 100000

theorem NodeP.same {d d' : PN} (hk : d.k = d'.k) (ho : d.ord = d'.ord) (hp : d.p.same d'.p) (he : d.e.same d'.e) (hv : d.v.b = d'.v.b) (ht : d.tb.map TB.td = d'.tb.map TB.td) (hn : d.n = d'.n) (h : NodeP d) : NodeP d' := by
  obtain ⟨l1, l2⟩ := tds_same ht
  refine ⟨hk ▸ h.k0, hk ▸ h.k8, ho ▸ h.o0, ho ▸ h.o5, ?_, fun hh => ?_, fun hh => ?_, fun hh => ?_, fun hh => ?_, l1 ▸ h.tn, fun hh => ?_, fun hh => ?_, fun hh => ?_, fun hh => ?_, l2.1 h.tm⟩
  · rw [← hn, ← hk]; exact h.n
  · exact (ptOk_same hp).1 (h.p1 (hk ▸ hh))
  · exact (zeroP_same hp).1 (h.p0 (hk ▸ hh))
  · rw [← ho]; exact h.oz (hk ▸ hh)
  · have h0 := h.t0 (hk ▸ hh); rw [tb_nil] at h0 ⊢; omega
  · exact (eOk_same he).1 (h.e1 (hk ▸ hh))
  · exact (zeroE_same he).1 (h.e0 (hk ▸ hh))
  · rw [← hv]; exact h.v1 (hk ▸ hh)
  · rw [← hv]; exact h.v0 (hk ▸ hh)
theorem PT.same.symm {e : PT} : ∀ {e' : PT}, e.same e' → e'.same e := by
  induction e with
  | nil => exact fun h => False.elim h
  | mk d kid ih =>
    intro e' h
    cases e' with
    | nil => exact False.elim h
    | mk d' kid' =>
    obtain ⟨h0, h1, h2, h3, h4, h5, h6, h7⟩ := h
    exact ⟨h0.symm, h1.symm, h2.symm, h3.symm, h4.symm, h5.symm, h6.symm, fun i hi => ih i (h7 i (by omega))⟩
theorem PT.same.trans {e : PT} : ∀ {e' e'' : PT}, e.same e' → e'.same e'' → e.same e'' := by
  induction e with
  | nil => exact fun h => False.elim h
  | mk d kid ih =>
    intro e' e'' h k
    cases e' with
    | nil => exact False.elim h
    | mk d' kid' =>
    cases e'' with
    | nil => exact False.elim k
    | mk d'' kid'' =>
    obtain ⟨h0, h1, h2, h3, h4, h5, h6, h7⟩ := h
    obtain ⟨k0, k1, k2, k3, k4, k5, k6, k7⟩ := k
    exact ⟨h0.trans k0, h1.trans k1, h2.trans k2, h3.trans k3, h4.trans k4, h5.trans k5, h6.trans k6, fun i hi => ih i (h7 i hi) (k7 i (by omega))⟩
theorem pOk_imp {e : PT} : ∀ {e' : PT} {deep : Int}, e.same e' → pOk e deep → pOk e' deep := by
  induction e with
  | nil => exact fun h => False.elim h
  | mk d kid ih =>
    intro e' deep h
    cases e' with
    | nil => exact False.elim h
    | mk d' kid' =>
    obtain ⟨h0, h1, h2, h3, h4, h5, h6, h7⟩ := h
    exact fun hh => ⟨hh.1, NodeP.same h0 h1 h2 h3 h4 h5 h6 hh.2.1, fun i hi => ih i (h7 i (by omega)) (hh.2.2 i (by omega))⟩
theorem psz_same {e : PT} : ∀ {e' : PT}, e.same e' → psz e = psz e' := by
  induction e with
  | nil => exact fun h => False.elim h
  | mk d kid ih =>
    intro e' h
    cases e' with
    | nil => exact False.elim h
    | mk d' kid' =>
    obtain ⟨h0, h1, h2, h3, h4, h5, h6, h7⟩ := h
    show ownP d + sumN d.n _ = ownP d' + sumN d'.n _
    have e1 : ownP d = ownP d' := by
      unfold ownP
      rw [h0, esz_same h3]
    rw [e1, ← h6, sumN_congr fun i hi => ih i (h7 i hi)]
theorem pV_same {e : PT} : ∀ {e' : PT} {l : List (List Int)}, e.same e' → pV e l = pV e' l := by
  induction e with
  | nil => exact fun h => False.elim h
  | mk d kid ih =>
    intro e' l h
    cases e' with
    | nil => exact False.elim h
    | mk d' kid' =>
    obtain ⟨h0, h1, h2, h3, h4, h5, h6, h7⟩ := h
    show foldN d.n _ (addV (eV d.e (ptV d.p l)) d.v.b) = foldN d'.n _ (addV (eV d'.e (ptV d'.p l)) d'.v.b)
    rw [← h6, ← h4, ptV_same h2, eV_same h3]
    exact foldN_congr (fun i hi a => ih i (h7 i hi)) _
theorem planOk_same {e e' : PT} (h : e.same e') : planOk e ↔ planOk e' := by
  unfold planOk
  rw [psz_same h, pV_same h]
  exact and_congr_left fun _ => ⟨pOk_imp h, pOk_imp h.symm⟩
end Go.Proofs.Ytpgbhkkdbkecoaa
