/- Texts put together: TrvC -/
import Derived.Test.YtpgbhkkdbkecoaaMk33
/- TrvC -/
namespace Go.Proofs.Ytpgbhkkdbkecoaa
open Go.RowKit Go.Deep
set_option maxRecDepth 100000

theorem hidOf {P : Prop} (h : P) : Hid P := h
/-- A row that adding to the list in g leaves alone. -/
def RowQ (w : World) (g : Nat) (v : Value) (sz : Nat) (a : Option Addr) (n : Nat) (C : Nat → List Value) : Prop :=
  n = 0 ∨ ∃ b off, a = some ⟨b, off, none⟩ ∧ b < w.heap.size ∧ b ≠ g ∧ v.ownBlock ≠ some b ∧ ∀ i, i < n → ∀ c u, (C i)[c]? = some u → w.cell? ⟨b, off + i * sz + c, none⟩ = some u
theorem RowQ.of_krow {w0 w : World} {B g : Nat} {v : Value} {L : List SL} {sz : Nat} {a : Option Addr} {n : Nat} {C : Nat → List Value} (h : KRow 0 w0 sz a n C) (hV : VQ w0 w B g v L) : RowQ w g v sz a n C := by
  rcases h with h | ⟨b, off, ha, _, hlt, hc⟩
  · exact .inl h
  · refine .inr ⟨b, off, ha, Nat.lt_of_lt_of_le hlt hV.bl.size, ?_, fun e => ?_, fun i hi c u hu => (hV.bl.cell (p := ⟨b, off + i * sz + c, none⟩) hlt).trans (hc i hi c u hu)⟩
    · have := hV.gl
      omega
    · have h1 := (hV.vl.lo b e).1
      have h2 := hV.lo
      omega
theorem AT.open {e : AT} {w : World} (h : e.lies 0 w) : KRow 0 w 15 e.d.pa e.d.pn (fun i => (e.d.pat i).cells) ∧ (∀ i, i < e.d.pn → (e.d.pat i).lies 0 w) ∧ e.d.pn ≤ 1048576 ∧ e.d.e.lies 0 w ∧ BsF 0 w e.d.v ∧ e.d.n ≤ 1048576 ∧ KRow 0 w 13 e.d.ka e.d.n (fun i => (e.kid i).d.cells) ∧ (∀ i, i < e.d.n → (e.kid i).lies 0 w)
    ∧ ac e = 3 * e.d.pn + esz e.d.e + 1 + sumN e.d.n (fun i => ac (e.kid i)) ∧ (∀ l, aV e l = foldN e.d.n (fun i acc => aV (e.kid i) acc) (addV (eV e.d.e (foldN e.d.pn (fun i acc => ptV (e.d.pat i) acc) l)) e.d.v.b)) ∧ e = .mk e.d e.kid := by
  cases e with
  | nil => exact False.elim h
  | mk d kid =>
    obtain ⟨h1, h2, h3, h4, h5, _, _, h8, h9, h10⟩ := h
    exact ⟨h1, h2, h3, h4, h5, h8, h9, h10, rfl, fun _ => rfl, rfl⟩
set_option maxHeartbeats 16000000 in
theorem addAlgs_one (kid : Nat → AT) (n : Nat) (v : Value) (L : List SL) (B g : Nat) (w0 w : World) (a : Option Addr) (cap : Nat) (hk : ∀ i, i < n → (kid i).lies 0 w0) (hrow : RowQ w g v 13 a n (fun i => (kid i).d.cells)) (hV : VQ w0 w B g v L) (hL : L.length + sumN n (fun i => ac (kid i)) ≤ 1000000) (hn : n ≤ 1048576)
    (IH : ∀ i, i < n → ∀ (v' : Value) (L' : List SL) (W : World) (a' : Option Addr) (c' : Nat), (∀ j, j < (kid i).d.n → ((kid i).kid j).lies 0 w0) → RowQ W g v' 13 a' (kid i).d.n (fun j => ((kid i).kid j).d.cells) → VQ w0 W B g v' L' → L'.length + sumN (kid i).d.n (fun j => ac ((kid i).kid j)) ≤ 1000000 → (kid i).d.n ≤ 1048576 → Calls Try.prog 28 #[.pointer (some ⟨g, 0, none⟩), .slice a' (kid i).d.n c'] W (AddQ w0 B g v' (foldN (kid i).d.n (fun j acc => aV ((kid i).kid j) acc) (L'.map SL.b)) W)) :
    Calls Try.prog 28 #[.pointer (some ⟨g, 0, none⟩), .slice a n cap] w (AddQ w0 B g v (foldN n (fun i acc => aV (kid i) acc) (L.map SL.b)) w) := by
  by_cases hn1 : n = 0
  · subst hn1
    have HV : Hid (VQ w0 w B g v L) := hV
    clear hV hrow hk hL IH
    go_enter Try.func28, Try.ntmps28
    go_wp2_with fail
    go_loopw [10] (fun i wr => i = .int .i64 0 ∧ Hid (VQ w0 wr B g v L) ∧ Hid (KQ g v w v wr)) (fun _ _ => 0)
    case atStart => exact ⟨rfl, HV, KQ.of_below (Below.refl _ _)⟩
    case round =>
      obtain ⟨rfl, HVr, HKr⟩ := hrel
      go_wp2_with fail
      go_end0
      exact ⟨v, L, rfl, HVr.out, rfl, HKr.out⟩
  obtain ⟨b, off, rfl, hbw, hbg, hbv, hck⟩ := hrow.resolve_left hn1
  have HCK : Hid (∀ i, i < n → ∀ c u, ((kid i).d.cells)[c]? = some u → w.cell? ⟨b, off + i * 13 + c, none⟩ = some u) := hck
  have HBV : Hid (b ≠ g ∧ v.ownBlock ≠ some b) := ⟨hbg, hbv⟩
  have HKL : Hid (∀ i, i < n → (kid i).lies 0 w0) := hk
  have HV0 : Hid (VQ w0 w B g v L) := hV
  have HIH : Hid (∀ i, i < n → ∀ (v' : Value) (L' : List SL) (W : World) (a' : Option Addr) (c' : Nat), (∀ j, j < (kid i).d.n → ((kid i).kid j).lies 0 w0) → RowQ W g v' 13 a' (kid i).d.n (fun j => ((kid i).kid j).d.cells) → VQ w0 W B g v' L' → L'.length + sumN (kid i).d.n (fun j => ac ((kid i).kid j)) ≤ 1000000 → (kid i).d.n ≤ 1048576 → Calls Try.prog 28 #[.pointer (some ⟨g, 0, none⟩), .slice a' (kid i).d.n c'] W (AddQ w0 B g v' (foldN (kid i).d.n (fun j acc => aV ((kid i).kid j) acc) (L'.map SL.b)) W)) := IH
  have HLK : Hid (∀ k, k < n → (foldN k (fun i acc => aV (kid i) acc) (L.map SL.b)).length + ac (kid k) ≤ 1000000) := fun k hk => by
    have h1 := foldN_len (f := (fun i acc => aV (kid i) acc)) (c := fun i => ac (kid i)) (n := k) (fun i l _ => aV_len (kid i) l) (L.map SL.b)
    rw [List.length_map] at h1
    have h3 := sumN_mono (f := fun i => ac (kid i)) (show k + 1 ≤ n by omega)
    have h4 : sumN (k + 1) (fun i => ac (kid i)) = sumN k (fun i => ac (kid i)) + ac (kid k) := rfl
    omega
  clear hck hrow hk hV hL IH hbg hbv
  go_enter Try.func28, Try.ntmps28
  go_wp2_with fail
  go_loopw [10] (fun i wr => ∃ (k : Nat) (vr : Value) (Lr : List SL), k ≤ n ∧ i = .int .i64 k ∧ Hid (Lr.map SL.b = (foldN k (fun i acc => aV (kid i) acc) (L.map SL.b))) ∧ Hid (VQ w0 wr B g vr Lr) ∧ Hid (KQ g v w vr wr)) (fun i _ => n - (intOf i).toNat)
  case atStart => exact ⟨0, v, L, Nat.zero_le _, rfl, rfl, HV0, KQ.of_below (Below.refl _ _)⟩
  case round =>
    clear HV0
    obtain ⟨k, vr, Lr, hk, rfl, HRr, HVr, HKr⟩ := hrel
    by_cases hlk : k < n
    rotate_left
    · obtain rfl : k = n := by omega
      have hlkz : ¬ (k : Int) < (k : Int) := by omega
      go_wp2_with fail
      go_end0
      exact ⟨vr, Lr, rfl, HVr.out, HRr.out, HKr.out⟩
    generalize wr = u at *
    have hlkz : (k : Int) < (n : Int) := by omega
    have HOP := hidOf (AT.open (HKL.out k hlk))
    have hcx : u.rangeAt b (off + k * 13) [.int .i64 (kid k).d.k, .slice (kid k).d.pa (kid k).d.pn (kid k).d.pc, .int .i64 (kid k).d.e.d.k, .int .i64 (kid k).d.e.d.op, .slice (kid k).d.e.d.v.a (kid k).d.e.d.v.len (kid k).d.e.d.v.cap, .int .i64 (kid k).d.e.d.t.t.k, .slice (kid k).d.e.d.t.t.a (kid k).d.e.d.t.t.len (kid k).d.e.d.t.t.cap, .int .i64 (kid k).d.e.d.t.t.n, .int .i64 (kid k).d.e.d.t.t.s, .slice (kid k).d.e.d.ka (kid k).d.e.d.n (kid k).d.e.d.kc, .slice (kid k).d.v.a (kid k).d.v.len (kid k).d.v.cap, .slice (kid k).d.ta (kid k).d.tb.length (kid k).d.tc, .slice (kid k).d.ka (kid k).d.n (kid k).d.kc] := fun c x hx => (World.cell?_of_block (w := w) (a := ⟨b, off + k * 13 + c, none⟩) (HKr.out.block b hbw HBV.out.1 HBV.out.2)).trans (HCK.out k hlk c x hx)
    have HLr : Hid (Lr.length + ac (kid k) ≤ 1000000) := (show _ ≤ 1000000 by have h1 := HLK.out k hlk; have h2 := congrArg List.length HRr.out; rw [List.length_map] at h2; omega)
    have HQ0 : Hid (QS w0 u B g vr vr Lr [.int .i64 (kid k).d.k, .slice (kid k).d.pa (kid k).d.pn (kid k).d.pc, .int .i64 (kid k).d.e.d.k, .int .i64 (kid k).d.e.d.op, .slice (kid k).d.e.d.v.a (kid k).d.e.d.v.len (kid k).d.e.d.v.cap, .int .i64 (kid k).d.e.d.t.t.k, .slice (kid k).d.e.d.t.t.a (kid k).d.e.d.t.t.len (kid k).d.e.d.t.t.cap, .int .i64 (kid k).d.e.d.t.t.n, .int .i64 (kid k).d.e.d.t.t.s, .slice (kid k).d.e.d.ka (kid k).d.e.d.n (kid k).d.e.d.kc, .slice (kid k).d.v.a (kid k).d.v.len (kid k).d.v.cap, .slice (kid k).d.ta (kid k).d.tb.length (kid k).d.tc, .slice (kid k).d.ka (kid k).d.n (kid k).d.kc] (u.alloc (.cells #[.int .i64 (kid k).d.k, .slice (kid k).d.pa (kid k).d.pn (kid k).d.pc, .int .i64 (kid k).d.e.d.k, .int .i64 (kid k).d.e.d.op, .slice (kid k).d.e.d.v.a (kid k).d.e.d.v.len (kid k).d.e.d.v.cap, .int .i64 (kid k).d.e.d.t.t.k, .slice (kid k).d.e.d.t.t.a (kid k).d.e.d.t.t.len (kid k).d.e.d.t.t.cap, .int .i64 (kid k).d.e.d.t.t.n, .int .i64 (kid k).d.e.d.t.t.s, .slice (kid k).d.e.d.ka (kid k).d.e.d.n (kid k).d.e.d.kc, .slice (kid k).d.v.a (kid k).d.v.len (kid k).d.v.cap, .slice (kid k).d.ta (kid k).d.tb.length (kid k).d.tc, .slice (kid k).d.ka (kid k).d.n (kid k).d.kc] 43))) := QS.new HVr.out #[.int .i64 (kid k).d.k, .slice (kid k).d.pa (kid k).d.pn (kid k).d.pc, .int .i64 (kid k).d.e.d.k, .int .i64 (kid k).d.e.d.op, .slice (kid k).d.e.d.v.a (kid k).d.e.d.v.len (kid k).d.e.d.v.cap, .int .i64 (kid k).d.e.d.t.t.k, .slice (kid k).d.e.d.t.t.a (kid k).d.e.d.t.t.len (kid k).d.e.d.t.t.cap, .int .i64 (kid k).d.e.d.t.t.n, .int .i64 (kid k).d.e.d.t.t.s, .slice (kid k).d.e.d.ka (kid k).d.e.d.n (kid k).d.e.d.kc, .slice (kid k).d.v.a (kid k).d.v.len (kid k).d.v.cap, .slice (kid k).d.ta (kid k).d.tb.length (kid k).d.tc, .slice (kid k).d.ka (kid k).d.n (kid k).d.kc] 43
    have HKRp := hidOf HOP.out.1
    go_upto_region 3 with (with_reducible refine wpl_at ?_; refine wpList_load_mid rfl 43 _ rfl _ _ rfl [.int .i64 (kid k).d.k, .slice (kid k).d.pa (kid k).d.pn (kid k).d.pc, .int .i64 (kid k).d.e.d.k, .int .i64 (kid k).d.e.d.op, .slice (kid k).d.e.d.v.a (kid k).d.e.d.v.len (kid k).d.e.d.v.cap, .int .i64 (kid k).d.e.d.t.t.k, .slice (kid k).d.e.d.t.t.a (kid k).d.e.d.t.t.len (kid k).d.e.d.t.t.cap, .int .i64 (kid k).d.e.d.t.t.n, .int .i64 (kid k).d.e.d.t.t.s, .slice (kid k).d.e.d.ka (kid k).d.e.d.n (kid k).d.e.d.kc, .slice (kid k).d.v.a (kid k).d.v.len (kid k).d.v.cap, .slice (kid k).d.ta (kid k).d.tb.length (kid k).d.tc, .slice (kid k).d.ka (kid k).d.n (kid k).d.kc] _ hcx Try.underlying43 rfl (by kernel_rfl) ?_; try simp only [Act.put, List.setIfInBounds_toArray, List.set_cons_zero, List.set_cons_succ])
    clear hcx
    generalize hWW : (u.alloc (.cells #[.int .i64 (kid k).d.k, .slice (kid k).d.pa (kid k).d.pn (kid k).d.pc, .int .i64 (kid k).d.e.d.k, .int .i64 (kid k).d.e.d.op, .slice (kid k).d.e.d.v.a (kid k).d.e.d.v.len (kid k).d.e.d.v.cap, .int .i64 (kid k).d.e.d.t.t.k, .slice (kid k).d.e.d.t.t.a (kid k).d.e.d.t.t.len (kid k).d.e.d.t.t.cap, .int .i64 (kid k).d.e.d.t.t.n, .int .i64 (kid k).d.e.d.t.t.s, .slice (kid k).d.e.d.ka (kid k).d.e.d.n (kid k).d.e.d.kc, .slice (kid k).d.v.a (kid k).d.v.len (kid k).d.v.cap, .slice (kid k).d.ta (kid k).d.tb.length (kid k).d.tc, .slice (kid k).d.ka (kid k).d.n (kid k).d.kc] 43)) = W1 at *
    clear hWW
    have x1 : W1.cell? ⟨u.heap.size, 1, none⟩ = some (.slice (kid k).d.pa (kid k).d.pn (kid k).d.pc) := HQ0.out.bx.2 1 _ rfl
    obtain ⟨m, hmm⟩ : ∃ m, m = (kid k).d.pn := ⟨_, rfl⟩
    have HMM : Hid (m = (kid k).d.pn) := hmm
    rw [← hmm] at x1
    by_cases hm1 : m = 0
    · rw [hm1] at x1
      have HR0 : Hid (Lr.map SL.b = foldN (kid k).d.pn (fun i acc => ptV ((kid k).d.pat i) acc) (Lr.map SL.b)) := (show _ = _ by rw [← hmm, hm1]; rfl)
      clear hm1 hmm
      go_wp2_with fail
      clear x1
      go_loopw [17] (fun i wr => i = .int .i64 0 ∧ Hid (QS w0 u B g vr vr Lr [.int .i64 (kid k).d.k, .slice (kid k).d.pa (kid k).d.pn (kid k).d.pc, .int .i64 (kid k).d.e.d.k, .int .i64 (kid k).d.e.d.op, .slice (kid k).d.e.d.v.a (kid k).d.e.d.v.len (kid k).d.e.d.v.cap, .int .i64 (kid k).d.e.d.t.t.k, .slice (kid k).d.e.d.t.t.a (kid k).d.e.d.t.t.len (kid k).d.e.d.t.t.cap, .int .i64 (kid k).d.e.d.t.t.n, .int .i64 (kid k).d.e.d.t.t.s, .slice (kid k).d.e.d.ka (kid k).d.e.d.n (kid k).d.e.d.kc, .slice (kid k).d.v.a (kid k).d.v.len (kid k).d.v.cap, .slice (kid k).d.ta (kid k).d.tb.length (kid k).d.tc, .slice (kid k).d.ka (kid k).d.n (kid k).d.kc] wr)) (fun _ _ => 0)
      case atStart => exact ⟨rfl, HQ0⟩
      case round =>
        clear HQ0
        obtain ⟨rfl, HQ2⟩ := hrel
        have HR2 := HR0
        have HLa : Hid (Lr.length + esz (kid k).d.e + 1 + sumN (kid k).d.n (fun i => ac ((kid k).kid i)) ≤ 1000000) := (show _ ≤ 1000000 by
          have h1 := foldN_len (f := (fun i acc => ptV ((kid k).d.pat i) acc)) (c := fun _ => 3) (n := (kid k).d.pn) (fun i l _ => ptV_len ((kid k).d.pat i) l) (Lr.map SL.b)
          rw [sum3, List.length_map] at h1
          have h2 := congrArg List.length HR2.out
          rw [List.length_map] at h2
          have h3 := HLr.out
          have h4 := HOP.out.2.2.2.2.2.2.2.2.1
          omega)
        have s2 := HQ2.out.bx.2 2 _ rfl
        have s3 := HQ2.out.bx.2 3 _ rfl
        have s4 := HQ2.out.bx.2 4 _ rfl
        have s5 := HQ2.out.bx.2 5 _ rfl
        have s6 := HQ2.out.bx.2 6 _ rfl
        have s7 := HQ2.out.bx.2 7 _ rfl
        have s8 := HQ2.out.bx.2 8 _ rfl
        have s9 := HQ2.out.bx.2 9 _ rfl
        go_wp2_with fail
        refine (addExpr_any (kid k).d.e vr Lr B g w0 _ HOP.out.2.2.2.1 HQ2.out.vq (by have := HLa.out; omega)).mono ?_
        rintro e z3 ⟨v3, L3, rfl, hV3, hR3, hK3⟩
        have HQ3 : Hid (QS w0 u B g vr v3 L3 [.int .i64 (kid k).d.k, .slice (kid k).d.pa (kid k).d.pn (kid k).d.pc, .int .i64 (kid k).d.e.d.k, .int .i64 (kid k).d.e.d.op, .slice (kid k).d.e.d.v.a (kid k).d.e.d.v.len (kid k).d.e.d.v.cap, .int .i64 (kid k).d.e.d.t.t.k, .slice (kid k).d.e.d.t.t.a (kid k).d.e.d.t.t.len (kid k).d.e.d.t.t.cap, .int .i64 (kid k).d.e.d.t.t.n, .int .i64 (kid k).d.e.d.t.t.s, .slice (kid k).d.e.d.ka (kid k).d.e.d.n (kid k).d.e.d.kc, .slice (kid k).d.v.a (kid k).d.v.len (kid k).d.v.cap, .slice (kid k).d.ta (kid k).d.tb.length (kid k).d.tc, .slice (kid k).d.ka (kid k).d.n (kid k).d.kc] z3) := HQ2.out.step hV3 hK3
        have HR3 : Hid (L3.map SL.b = (eV (kid k).d.e (foldN (kid k).d.pn (fun i acc => ptV ((kid k).d.pat i) acc) (Lr.map SL.b)))) := (show _ = _ from hR3.trans (congrArg (eV (kid k).d.e) HR2.out))
        have HLb : Hid (L3.length + 1 + sumN (kid k).d.n (fun i => ac ((kid k).kid i)) ≤ 1000000) := (show _ ≤ 1000000 by have h1 := congrArg List.length hR3; have h2 := eV_len (kid k).d.e (Lr.map SL.b); rw [List.length_map] at h1 h2; have h3 := HLa.out; omega)
        have s10 := HQ3.out.bx.2 10 _ rfl
        clear hV3 hR3 hK3 HQ2 HR2 HLa s2 s3 s4 s5 s6 s7 s8 s9
        go_wp2_with fail
        refine (add_any v3 L3 (kid k).d.v B g w0 _ HQ3.out.vq HOP.out.2.2.2.2.1 (by have := HLb.out; omega)).mono ?_
        rintro e z4 ⟨v4, L4, rfl, hV4, hR4, hK4⟩
        have HQ4 : Hid (QS w0 u B g vr v4 L4 [.int .i64 (kid k).d.k, .slice (kid k).d.pa (kid k).d.pn (kid k).d.pc, .int .i64 (kid k).d.e.d.k, .int .i64 (kid k).d.e.d.op, .slice (kid k).d.e.d.v.a (kid k).d.e.d.v.len (kid k).d.e.d.v.cap, .int .i64 (kid k).d.e.d.t.t.k, .slice (kid k).d.e.d.t.t.a (kid k).d.e.d.t.t.len (kid k).d.e.d.t.t.cap, .int .i64 (kid k).d.e.d.t.t.n, .int .i64 (kid k).d.e.d.t.t.s, .slice (kid k).d.e.d.ka (kid k).d.e.d.n (kid k).d.e.d.kc, .slice (kid k).d.v.a (kid k).d.v.len (kid k).d.v.cap, .slice (kid k).d.ta (kid k).d.tb.length (kid k).d.tc, .slice (kid k).d.ka (kid k).d.n (kid k).d.kc] z4) := HQ3.out.step hV4 hK4
        have HR4 : Hid (L4.map SL.b = (addV (eV (kid k).d.e (foldN (kid k).d.pn (fun i acc => ptV ((kid k).d.pat i) acc) (Lr.map SL.b))) (kid k).d.v.b)) := (show _ = _ by rw [hR4, HR3.out])
        have HLc : Hid (L4.length + sumN (kid k).d.n (fun i => ac ((kid k).kid i)) ≤ 1000000) := (show _ ≤ 1000000 by have h1 := congrArg List.length hR4; have h2 := addV_len (L3.map SL.b) (kid k).d.v.b; rw [List.length_map] at h1 h2; have h3 := HLb.out; omega)
        have s12 := HQ4.out.bx.2 12 _ rfl
        clear hV4 hR4 hK4 HQ3 HR3 HLb s10
        go_wp2_with fail
        refine (HIH.out k hlk v4 L4 z4 (kid k).d.ka (kid k).d.kc HOP.out.2.2.2.2.2.2.2.1 (RowQ.of_krow HOP.out.2.2.2.2.2.2.1 HQ4.out.vq) HQ4.out.vq HLc.out HOP.out.2.2.2.2.2.1).mono ?_
        rintro e z5 ⟨v5, L5, rfl, hV5, hR5, hK5⟩
        have HV5 : Hid (VQ w0 z5 B g v5 L5) := hV5
        have HK5 : Hid (KQ g v w v5 z5) := (HKr.out.trans HQ4.out.kq).trans hK5
        have HR5 : Hid (L5.map SL.b = foldN (k + 1) (fun i acc => aV (kid i) acc) (L.map SL.b)) := (show _ = aV (kid k) (foldN k (fun i acc => aV (kid i) acc) (L.map SL.b)) by rw [hR5, HR4.out, ← HRr.out]; exact (HOP.out.2.2.2.2.2.2.2.2.2.1 _).symm)
        clear hV5 hR5 hK5 HQ4 HR4 HLc s12
        go_wp2_with fail
        go_roundw
        case rel => exact ⟨k + 1, v5, L5, by omega, by go_num, HR5, HV5, HK5⟩
        case measure => simp [intOf]; omega
    obtain ⟨pb, po, eP, _, hpb, hpc⟩ := HKRp.out.resolve_left (by omega)
    have HPC : Hid (∀ i, i < (kid k).d.pn → ∀ c x, (((kid k).d.pat i).cells)[c]? = some x → w0.cell? ⟨pb, po + i * 15 + c, none⟩ = some x) := hpc
    rw [eP] at x1
    have hm2 : m ≤ 1048576 := by have := HOP.out.2.2.1; omega
    clear hpc hmm eP HKRp hm1
    go_wp2_with fail
    clear x1
    go_loopw [17] (fun i wr => ∃ (j : Nat) (v2 : Value) (L2 : List SL), j ≤ m ∧ i = .int .i64 j ∧ Hid (L2.map SL.b = foldN j (fun i acc => ptV ((kid k).d.pat i) acc) (Lr.map SL.b)) ∧ Hid (QS w0 u B g vr v2 L2 [.int .i64 (kid k).d.k, .slice (kid k).d.pa (kid k).d.pn (kid k).d.pc, .int .i64 (kid k).d.e.d.k, .int .i64 (kid k).d.e.d.op, .slice (kid k).d.e.d.v.a (kid k).d.e.d.v.len (kid k).d.e.d.v.cap, .int .i64 (kid k).d.e.d.t.t.k, .slice (kid k).d.e.d.t.t.a (kid k).d.e.d.t.t.len (kid k).d.e.d.t.t.cap, .int .i64 (kid k).d.e.d.t.t.n, .int .i64 (kid k).d.e.d.t.t.s, .slice (kid k).d.e.d.ka (kid k).d.e.d.n (kid k).d.e.d.kc, .slice (kid k).d.v.a (kid k).d.v.len (kid k).d.v.cap, .slice (kid k).d.ta (kid k).d.tb.length (kid k).d.tc, .slice (kid k).d.ka (kid k).d.n (kid k).d.kc] wr)) (fun i _ => m - (intOf i).toNat)
    case atStart => exact ⟨0, vr, Lr, Nat.zero_le _, rfl, rfl, HQ0⟩
    case round =>
      clear HQ0
      obtain ⟨j, v2, L2, hj, rfl, HRj, HQ2⟩ := hrel
      by_cases hlj : j < m
      rotate_left
      · obtain rfl : j = m := by omega
        have hljz : ¬ (j : Int) < (j : Int) := by omega
        have HR2 : Hid (L2.map SL.b = foldN (kid k).d.pn (fun i acc => ptV ((kid k).d.pat i) acc) (Lr.map SL.b)) := (show _ = _ by rw [← HMM.out]; exact HRj.out)
        have HLa : Hid (L2.length + esz (kid k).d.e + 1 + sumN (kid k).d.n (fun i => ac ((kid k).kid i)) ≤ 1000000) := (show _ ≤ 1000000 by
          have h1 := foldN_len (f := (fun i acc => ptV ((kid k).d.pat i) acc)) (c := fun _ => 3) (n := (kid k).d.pn) (fun i l _ => ptV_len ((kid k).d.pat i) l) (Lr.map SL.b)
          rw [sum3, List.length_map] at h1
          have h2 := congrArg List.length HR2.out
          rw [List.length_map] at h2
          have h3 := HLr.out
          have h4 := HOP.out.2.2.2.2.2.2.2.2.1
          omega)
        have s2 := HQ2.out.bx.2 2 _ rfl
        have s3 := HQ2.out.bx.2 3 _ rfl
        have s4 := HQ2.out.bx.2 4 _ rfl
        have s5 := HQ2.out.bx.2 5 _ rfl
        have s6 := HQ2.out.bx.2 6 _ rfl
        have s7 := HQ2.out.bx.2 7 _ rfl
        have s8 := HQ2.out.bx.2 8 _ rfl
        have s9 := HQ2.out.bx.2 9 _ rfl
        go_wp2_with fail
        refine (addExpr_any (kid k).d.e v2 L2 B g w0 _ HOP.out.2.2.2.1 HQ2.out.vq (by have := HLa.out; omega)).mono ?_
        rintro e z3 ⟨v3, L3, rfl, hV3, hR3, hK3⟩
        have HQ3 : Hid (QS w0 u B g vr v3 L3 [.int .i64 (kid k).d.k, .slice (kid k).d.pa (kid k).d.pn (kid k).d.pc, .int .i64 (kid k).d.e.d.k, .int .i64 (kid k).d.e.d.op, .slice (kid k).d.e.d.v.a (kid k).d.e.d.v.len (kid k).d.e.d.v.cap, .int .i64 (kid k).d.e.d.t.t.k, .slice (kid k).d.e.d.t.t.a (kid k).d.e.d.t.t.len (kid k).d.e.d.t.t.cap, .int .i64 (kid k).d.e.d.t.t.n, .int .i64 (kid k).d.e.d.t.t.s, .slice (kid k).d.e.d.ka (kid k).d.e.d.n (kid k).d.e.d.kc, .slice (kid k).d.v.a (kid k).d.v.len (kid k).d.v.cap, .slice (kid k).d.ta (kid k).d.tb.length (kid k).d.tc, .slice (kid k).d.ka (kid k).d.n (kid k).d.kc] z3) := HQ2.out.step hV3 hK3
        have HR3 : Hid (L3.map SL.b = (eV (kid k).d.e (foldN (kid k).d.pn (fun i acc => ptV ((kid k).d.pat i) acc) (Lr.map SL.b)))) := (show _ = _ from hR3.trans (congrArg (eV (kid k).d.e) HR2.out))
        have HLb : Hid (L3.length + 1 + sumN (kid k).d.n (fun i => ac ((kid k).kid i)) ≤ 1000000) := (show _ ≤ 1000000 by have h1 := congrArg List.length hR3; have h2 := eV_len (kid k).d.e (L2.map SL.b); rw [List.length_map] at h1 h2; have h3 := HLa.out; omega)
        have s10 := HQ3.out.bx.2 10 _ rfl
        clear hV3 hR3 hK3 HQ2 HR2 HLa s2 s3 s4 s5 s6 s7 s8 s9
        go_wp2_with fail
        refine (add_any v3 L3 (kid k).d.v B g w0 _ HQ3.out.vq HOP.out.2.2.2.2.1 (by have := HLb.out; omega)).mono ?_
        rintro e z4 ⟨v4, L4, rfl, hV4, hR4, hK4⟩
        have HQ4 : Hid (QS w0 u B g vr v4 L4 [.int .i64 (kid k).d.k, .slice (kid k).d.pa (kid k).d.pn (kid k).d.pc, .int .i64 (kid k).d.e.d.k, .int .i64 (kid k).d.e.d.op, .slice (kid k).d.e.d.v.a (kid k).d.e.d.v.len (kid k).d.e.d.v.cap, .int .i64 (kid k).d.e.d.t.t.k, .slice (kid k).d.e.d.t.t.a (kid k).d.e.d.t.t.len (kid k).d.e.d.t.t.cap, .int .i64 (kid k).d.e.d.t.t.n, .int .i64 (kid k).d.e.d.t.t.s, .slice (kid k).d.e.d.ka (kid k).d.e.d.n (kid k).d.e.d.kc, .slice (kid k).d.v.a (kid k).d.v.len (kid k).d.v.cap, .slice (kid k).d.ta (kid k).d.tb.length (kid k).d.tc, .slice (kid k).d.ka (kid k).d.n (kid k).d.kc] z4) := HQ3.out.step hV4 hK4
        have HR4 : Hid (L4.map SL.b = (addV (eV (kid k).d.e (foldN (kid k).d.pn (fun i acc => ptV ((kid k).d.pat i) acc) (Lr.map SL.b))) (kid k).d.v.b)) := (show _ = _ by rw [hR4, HR3.out])
        have HLc : Hid (L4.length + sumN (kid k).d.n (fun i => ac ((kid k).kid i)) ≤ 1000000) := (show _ ≤ 1000000 by have h1 := congrArg List.length hR4; have h2 := addV_len (L3.map SL.b) (kid k).d.v.b; rw [List.length_map] at h1 h2; have h3 := HLb.out; omega)
        have s12 := HQ4.out.bx.2 12 _ rfl
        clear hV4 hR4 hK4 HQ3 HR3 HLb s10
        go_wp2_with fail
        refine (HIH.out k hlk v4 L4 z4 (kid k).d.ka (kid k).d.kc HOP.out.2.2.2.2.2.2.2.1 (RowQ.of_krow HOP.out.2.2.2.2.2.2.1 HQ4.out.vq) HQ4.out.vq HLc.out HOP.out.2.2.2.2.2.1).mono ?_
        rintro e z5 ⟨v5, L5, rfl, hV5, hR5, hK5⟩
        have HV5 : Hid (VQ w0 z5 B g v5 L5) := hV5
        have HK5 : Hid (KQ g v w v5 z5) := (HKr.out.trans HQ4.out.kq).trans hK5
        have HR5 : Hid (L5.map SL.b = foldN (k + 1) (fun i acc => aV (kid i) acc) (L.map SL.b)) := (show _ = aV (kid k) (foldN k (fun i acc => aV (kid i) acc) (L.map SL.b)) by rw [hR5, HR4.out, ← HRr.out]; exact (HOP.out.2.2.2.2.2.2.2.2.2.1 _).symm)
        clear hV5 hR5 hK5 HQ4 HR4 HLc s12
        go_wp2_with fail
        go_roundw
        case rel => exact ⟨k + 1, v5, L5, by omega, by go_num, HR5, HV5, HK5⟩
        case measure => simp [intOf]; omega
      have hljz : (j : Int) < (m : Int) := by omega
      have hjp : j < (kid k).d.pn := by have := HMM.out; omega
      have hcx : wr.rangeAt pb (po + j * 15) [.slice ((kid k).d.pat j).s.v.a ((kid k).d.pat j).s.v.len ((kid k).d.pat j).s.v.cap, .int .i64 ((kid k).d.pat j).s.t.t.k, .slice ((kid k).d.pat j).s.t.t.a ((kid k).d.pat j).s.t.t.len ((kid k).d.pat j).s.t.t.cap, .int .i64 ((kid k).d.pat j).s.t.t.n, .int .i64 ((kid k).d.pat j).s.t.t.s, .slice ((kid k).d.pat j).p.v.a ((kid k).d.pat j).p.v.len ((kid k).d.pat j).p.v.cap, .int .i64 ((kid k).d.pat j).p.t.t.k, .slice ((kid k).d.pat j).p.t.t.a ((kid k).d.pat j).p.t.t.len ((kid k).d.pat j).p.t.t.cap, .int .i64 ((kid k).d.pat j).p.t.t.n, .int .i64 ((kid k).d.pat j).p.t.t.s, .slice ((kid k).d.pat j).o.v.a ((kid k).d.pat j).o.v.len ((kid k).d.pat j).o.v.cap, .int .i64 ((kid k).d.pat j).o.t.t.k, .slice ((kid k).d.pat j).o.t.t.a ((kid k).d.pat j).o.t.t.len ((kid k).d.pat j).o.t.t.cap, .int .i64 ((kid k).d.pat j).o.t.t.n, .int .i64 ((kid k).d.pat j).o.t.t.s] := fun c x hx => (HQ2.out.vq.bl.cell (p := ⟨pb, po + j * 15 + c, none⟩) hpb).trans (HPC.out j hjp c x hx)
      have HL2 : Hid (L2.length + 3 ≤ 1000000) := (show _ ≤ 1000000 by
        have h1 := foldN_len (f := (fun i acc => ptV ((kid k).d.pat i) acc)) (c := fun _ => 3) (n := j) (fun i l _ => ptV_len ((kid k).d.pat i) l) (Lr.map SL.b)
        rw [sum3, List.length_map] at h1
        have h2 := congrArg List.length HRj.out
        rw [List.length_map] at h2
        have h3 := HLr.out
        have h4 := HOP.out.2.2.2.2.2.2.2.2.1
        omega)
      go_wp2_with (with_reducible refine wpl_at ?_; refine wpList_load_mid rfl 59 _ rfl _ _ rfl [.slice ((kid k).d.pat j).s.v.a ((kid k).d.pat j).s.v.len ((kid k).d.pat j).s.v.cap, .int .i64 ((kid k).d.pat j).s.t.t.k, .slice ((kid k).d.pat j).s.t.t.a ((kid k).d.pat j).s.t.t.len ((kid k).d.pat j).s.t.t.cap, .int .i64 ((kid k).d.pat j).s.t.t.n, .int .i64 ((kid k).d.pat j).s.t.t.s, .slice ((kid k).d.pat j).p.v.a ((kid k).d.pat j).p.v.len ((kid k).d.pat j).p.v.cap, .int .i64 ((kid k).d.pat j).p.t.t.k, .slice ((kid k).d.pat j).p.t.t.a ((kid k).d.pat j).p.t.t.len ((kid k).d.pat j).p.t.t.cap, .int .i64 ((kid k).d.pat j).p.t.t.n, .int .i64 ((kid k).d.pat j).p.t.t.s, .slice ((kid k).d.pat j).o.v.a ((kid k).d.pat j).o.v.len ((kid k).d.pat j).o.v.cap, .int .i64 ((kid k).d.pat j).o.t.t.k, .slice ((kid k).d.pat j).o.t.t.a ((kid k).d.pat j).o.t.t.len ((kid k).d.pat j).o.t.t.cap, .int .i64 ((kid k).d.pat j).o.t.t.n, .int .i64 ((kid k).d.pat j).o.t.t.s] _ hcx Try.underlying59 rfl (by kernel_rfl) ?_; try simp only [Act.put, List.setIfInBounds_toArray, List.set_cons_zero, List.set_cons_succ])
      refine (addPat_any v2 L2 ((kid k).d.pat j) B g w0 _ (HQ2.out.vq.below (bl_a _)) (HOP.out.2.1 j hjp) HL2.out).mono ?_
      rintro e z6 ⟨v6, L6, rfl, hV6, hR6, hK6⟩
      have HQ6 : Hid (QS w0 u B g vr v6 L6 [.int .i64 (kid k).d.k, .slice (kid k).d.pa (kid k).d.pn (kid k).d.pc, .int .i64 (kid k).d.e.d.k, .int .i64 (kid k).d.e.d.op, .slice (kid k).d.e.d.v.a (kid k).d.e.d.v.len (kid k).d.e.d.v.cap, .int .i64 (kid k).d.e.d.t.t.k, .slice (kid k).d.e.d.t.t.a (kid k).d.e.d.t.t.len (kid k).d.e.d.t.t.cap, .int .i64 (kid k).d.e.d.t.t.n, .int .i64 (kid k).d.e.d.t.t.s, .slice (kid k).d.e.d.ka (kid k).d.e.d.n (kid k).d.e.d.kc, .slice (kid k).d.v.a (kid k).d.v.len (kid k).d.v.cap, .slice (kid k).d.ta (kid k).d.tb.length (kid k).d.tc, .slice (kid k).d.ka (kid k).d.n (kid k).d.kc] z6) := (HQ2.out.below (bl_a _)).step hV6 hK6
      have HR6 : Hid (L6.map SL.b = foldN (j + 1) (fun i acc => ptV ((kid k).d.pat i) acc) (Lr.map SL.b)) := (show _ = ptV ((kid k).d.pat j) (foldN j (fun i acc => ptV ((kid k).d.pat i) acc) (Lr.map SL.b)) by rw [hR6, HRj.out])
      clear hV6 hR6 hK6 hcx HQ2 HL2
      go_wp2_with fail
      go_roundw
      case rel => exact ⟨j + 1, v6, L6, by omega, by go_num, HR6, HQ6⟩
      case measure => simp [intOf]; omega
theorem addAlgs_any (e : AT) : ∀ (v : Value) (L : List SL) (B g : Nat) (w0 w : World) (a : Option Addr) (cap : Nat), (∀ i, i < e.d.n → (e.kid i).lies 0 w0) → RowQ w g v 13 a e.d.n (fun i => (e.kid i).d.cells) → VQ w0 w B g v L → L.length + sumN e.d.n (fun i => ac (e.kid i)) ≤ 1000000 → e.d.n ≤ 1048576 →
    Calls Try.prog 28 #[.pointer (some ⟨g, 0, none⟩), .slice a e.d.n cap] w (AddQ w0 B g v (foldN e.d.n (fun i acc => aV (e.kid i) acc) (L.map SL.b)) w) := by
  induction e with
  | nil => exact fun v L B g w0 w a cap hk hrow hV hL hn => addAlgs_one _ _ v L B g w0 w a cap hk hrow hV hL hn (fun i hi => absurd hi (Nat.not_lt_zero _))
  | mk d kid ih => exact fun v L B g w0 w a cap hk hrow hV hL hn => addAlgs_one kid d.n v L B g w0 w a cap hk hrow hV hL hn (fun i _ v' L' W a' c' h1 h2 h3 h4 h5 => ih i v' L' B g w0 W a' c' h1 h2 h3 h4 h5)
end Go.Proofs.Ytpgbhkkdbkecoaa
