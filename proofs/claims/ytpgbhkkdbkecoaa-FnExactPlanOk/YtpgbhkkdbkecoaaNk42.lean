/- Texts put together: TrvB -/
import Derived.Test.YtpgbhkkdbkecoaaNk41
/- TrvB -/
namespace Go.Proofs.Ytpgbhkkdbkecoaa
open Go.RowKit Go.Deep
set_option maxRecDepth 100000

/-- Within a function that adds to the list in the box g: its argument lies in a box of its own. -/
structure QS (w0 w : World) (B g : Nat) (v0 v : Value) (L : List SL) (cs : List Value) (W : World) : Prop where
  vq : VQ w0 W B g v L
  kq : KQ g v0 w v W
  bx : Box W w.heap.size cs
  ne : v.ownBlock ≠ some w.heap.size
  gw : g < w.heap.size
theorem QS.new {w0 w : World} {B g : Nat} {v : Value} {L : List SL} (h : VQ w0 w B g v L) (cs : Array Value) (t : TypeId) : QS w0 w B g v v L cs.toList (w.alloc (.cells cs t)) :=
  ⟨h.below (bl_a _), KQ.of_below (bl_a _), Box.new w cs t (0, 0), fun e => by have := (h.vl.lo _ e).2; omega, h.lt⟩
theorem QS.below {w0 w : World} {B g : Nat} {v0 v : Value} {L : List SL} {cs : List Value} {W W' : World} (h : QS w0 w B g v0 v L cs W) (hb : Below W.heap.size W W') : QS w0 w B g v0 v L cs W' :=
  ⟨h.vq.below hb, h.kq.trans (KQ.of_below hb), h.bx.below hb, h.ne, h.gw⟩
theorem QS.step {w0 w : World} {B g : Nat} {v0 v v' : Value} {L L' : List SL} {cs : List Value} {W W' : World} (h : QS w0 w B g v0 v L cs W) (hV : VQ w0 W' B g v' L') (hK : KQ g v W v' W') : QS w0 w B g v0 v' L' cs W' :=
  ⟨hV, h.kq.trans hK, hK.box h.bx (by have := h.gw; omega) h.ne, fun e => by
    rcases hK.blk _ e with e | e
    · exact h.ne e
    · have := h.bx.1
      omega, h.gw⟩
set_option maxHeartbeats 2000000 in
theorem addPat_any (v : Value) (L : List SL) (x : PB) (B g : Nat) (w0 w : World) (h : VQ w0 w B g v L) (hx : x.lies 0 w0) (hn : L.length + 3 ≤ 1000000) :
    Calls Try.prog 56 #[.pointer (some ⟨g, 0, none⟩), .agg #[.slice x.s.v.a x.s.v.len x.s.v.cap, .int .i64 x.s.t.t.k, .slice x.s.t.t.a x.s.t.t.len x.s.t.t.cap, .int .i64 x.s.t.t.n, .int .i64 x.s.t.t.s, .slice x.p.v.a x.p.v.len x.p.v.cap, .int .i64 x.p.t.t.k, .slice x.p.t.t.a x.p.t.t.len x.p.t.t.cap, .int .i64 x.p.t.t.n, .int .i64 x.p.t.t.s, .slice x.o.v.a x.o.v.len x.o.v.cap, .int .i64 x.o.t.t.k, .slice x.o.t.t.a x.o.t.t.len x.o.t.t.cap, .int .i64 x.o.t.t.n, .int .i64 x.o.t.t.s]] w (AddQ w0 B g v (ptV x (L.map SL.b)) w) := by
  have HQ0 : Hid (QS w0 w B g v v L [.slice x.s.v.a x.s.v.len x.s.v.cap, .int .i64 x.s.t.t.k, .slice x.s.t.t.a x.s.t.t.len x.s.t.t.cap, .int .i64 x.s.t.t.n, .int .i64 x.s.t.t.s, .slice x.p.v.a x.p.v.len x.p.v.cap, .int .i64 x.p.t.t.k, .slice x.p.t.t.a x.p.t.t.len x.p.t.t.cap, .int .i64 x.p.t.t.n, .int .i64 x.p.t.t.s, .slice x.o.v.a x.o.v.len x.o.v.cap, .int .i64 x.o.t.t.k, .slice x.o.t.t.a x.o.t.t.len x.o.t.t.cap, .int .i64 x.o.t.t.n, .int .i64 x.o.t.t.s] (w.alloc (.cells #[.slice x.s.v.a x.s.v.len x.s.v.cap, .int .i64 x.s.t.t.k, .slice x.s.t.t.a x.s.t.t.len x.s.t.t.cap, .int .i64 x.s.t.t.n, .int .i64 x.s.t.t.s, .slice x.p.v.a x.p.v.len x.p.v.cap, .int .i64 x.p.t.t.k, .slice x.p.t.t.a x.p.t.t.len x.p.t.t.cap, .int .i64 x.p.t.t.n, .int .i64 x.p.t.t.s, .slice x.o.v.a x.o.v.len x.o.v.cap, .int .i64 x.o.t.t.k, .slice x.o.t.t.a x.o.t.t.len x.o.t.t.cap, .int .i64 x.o.t.t.n, .int .i64 x.o.t.t.s] 59))) := QS.new h #[.slice x.s.v.a x.s.v.len x.s.v.cap, .int .i64 x.s.t.t.k, .slice x.s.t.t.a x.s.t.t.len x.s.t.t.cap, .int .i64 x.s.t.t.n, .int .i64 x.s.t.t.s, .slice x.p.v.a x.p.v.len x.p.v.cap, .int .i64 x.p.t.t.k, .slice x.p.t.t.a x.p.t.t.len x.p.t.t.cap, .int .i64 x.p.t.t.n, .int .i64 x.p.t.t.s, .slice x.o.v.a x.o.v.len x.o.v.cap, .int .i64 x.o.t.t.k, .slice x.o.t.t.a x.o.t.t.len x.o.t.t.cap, .int .i64 x.o.t.t.n, .int .i64 x.o.t.t.s] 59
  have HX : Hid (x.lies 0 w0) := hx
  have HL1 : Hid (L.length ≤ 1000000) := (show L.length ≤ _ by omega)
  clear h hx
  go_enter Try.func56, Try.ntmps56
  go_wp2_with fail
  refine (add_any v L x.s.v B g w0 _ HQ0.out.vq HX.out.1.1 HL1.out).mono ?_
  rintro e z1 ⟨v1, L1, rfl, hV1, hR1, hK1⟩
  have HQ1 : Hid (QS w0 w B g v v1 L1 [.slice x.s.v.a x.s.v.len x.s.v.cap, .int .i64 x.s.t.t.k, .slice x.s.t.t.a x.s.t.t.len x.s.t.t.cap, .int .i64 x.s.t.t.n, .int .i64 x.s.t.t.s, .slice x.p.v.a x.p.v.len x.p.v.cap, .int .i64 x.p.t.t.k, .slice x.p.t.t.a x.p.t.t.len x.p.t.t.cap, .int .i64 x.p.t.t.n, .int .i64 x.p.t.t.s, .slice x.o.v.a x.o.v.len x.o.v.cap, .int .i64 x.o.t.t.k, .slice x.o.t.t.a x.o.t.t.len x.o.t.t.cap, .int .i64 x.o.t.t.n, .int .i64 x.o.t.t.s] z1) := HQ0.out.step hV1 hK1
  have HR1 : Hid (L1.map SL.b = addV (L.map SL.b) x.s.v.b) := hR1
  have HL2 : Hid (L1.length ≤ 1000000) := (show L1.length ≤ _ by have h1 := congrArg List.length hR1; have h2 := addV_len (L.map SL.b) x.s.v.b; rw [List.length_map] at h1 h2; omega)
  have HL3 : Hid (L1.length ≤ L.length + 1) := (show L1.length ≤ _ by have h1 := congrArg List.length hR1; have h2 := addV_len (L.map SL.b) x.s.v.b; rw [List.length_map] at h1 h2; omega)
  have y1 := HQ1.out.bx.2 5 _ rfl
  clear hV1 hR1 hK1 HQ0
  go_wp2_with fail
  refine (add_any v1 L1 x.p.v B g w0 _ HQ1.out.vq HX.out.2.1.1 HL2.out).mono ?_
  rintro e z2 ⟨v2, L2, rfl, hV2, hR2, hK2⟩
  have HQ2 : Hid (QS w0 w B g v v2 L2 [.slice x.s.v.a x.s.v.len x.s.v.cap, .int .i64 x.s.t.t.k, .slice x.s.t.t.a x.s.t.t.len x.s.t.t.cap, .int .i64 x.s.t.t.n, .int .i64 x.s.t.t.s, .slice x.p.v.a x.p.v.len x.p.v.cap, .int .i64 x.p.t.t.k, .slice x.p.t.t.a x.p.t.t.len x.p.t.t.cap, .int .i64 x.p.t.t.n, .int .i64 x.p.t.t.s, .slice x.o.v.a x.o.v.len x.o.v.cap, .int .i64 x.o.t.t.k, .slice x.o.t.t.a x.o.t.t.len x.o.t.t.cap, .int .i64 x.o.t.t.n, .int .i64 x.o.t.t.s] z2) := HQ1.out.step hV2 hK2
  have HR2 : Hid (L2.map SL.b = addV (addV (L.map SL.b) x.s.v.b) x.p.v.b) := (show _ = _ by rw [hR2, HR1.out])
  have HL4 : Hid (L2.length ≤ 1000000) := (show L2.length ≤ _ by have h1 := congrArg List.length hR2; have h2 := addV_len (L1.map SL.b) x.p.v.b; have h3 := HL3.out; rw [List.length_map] at h1 h2; omega)
  have y2 := HQ2.out.bx.2 10 _ rfl
  clear hV2 hR2 hK2 HQ1 y1
  go_wp2_with fail
  refine (add_any v2 L2 x.o.v B g w0 _ HQ2.out.vq HX.out.2.2.1 HL4.out).mono ?_
  rintro e z3 ⟨v3, L3, rfl, hV3, hR3, hK3⟩
  have HQ3 : Hid (QS w0 w B g v v3 L3 [.slice x.s.v.a x.s.v.len x.s.v.cap, .int .i64 x.s.t.t.k, .slice x.s.t.t.a x.s.t.t.len x.s.t.t.cap, .int .i64 x.s.t.t.n, .int .i64 x.s.t.t.s, .slice x.p.v.a x.p.v.len x.p.v.cap, .int .i64 x.p.t.t.k, .slice x.p.t.t.a x.p.t.t.len x.p.t.t.cap, .int .i64 x.p.t.t.n, .int .i64 x.p.t.t.s, .slice x.o.v.a x.o.v.len x.o.v.cap, .int .i64 x.o.t.t.k, .slice x.o.t.t.a x.o.t.t.len x.o.t.t.cap, .int .i64 x.o.t.t.n, .int .i64 x.o.t.t.s] z3) := HQ2.out.step hV3 hK3
  have HR3 : Hid (L3.map SL.b = ptV x (L.map SL.b)) := (show _ = _ by rw [hR3, HR2.out]; rfl)
  clear hV3 hR3 hK3 HQ2 y2
  go_wp2_with fail
  go_end0
  exact ⟨v3, L3, rfl, HQ3.out.vq, HR3.out, HQ3.out.kq⟩
set_option maxHeartbeats 8000000 in
theorem addExpr_any (e : ET) : ∀ (v : Value) (L : List SL) (B g : Nat) (w0 w : World), e.lies 0 w0 → VQ w0 w B g v L → L.length + esz e ≤ 1000000 →
    Calls Try.prog 57 #[.pointer (some ⟨g, 0, none⟩), .agg #[.int .i64 e.d.k, .int .i64 e.d.op, .slice e.d.v.a e.d.v.len e.d.v.cap, .int .i64 e.d.t.t.k, .slice e.d.t.t.a e.d.t.t.len e.d.t.t.cap, .int .i64 e.d.t.t.n, .int .i64 e.d.t.t.s, .slice e.d.ka e.d.n e.d.kc]] w (AddQ w0 B g v (eV e (L.map SL.b)) w) := by
  induction e with
  | nil => exact fun _ _ _ _ _ _ h => False.elim h
  | mk d kid ih =>
    intro v L B g w0 w hl h hn
    show Calls Try.prog 57 #[.pointer (some ⟨g, 0, none⟩), .agg #[.int .i64 d.k, .int .i64 d.op, .slice d.v.a d.v.len d.v.cap, .int .i64 d.t.t.k, .slice d.t.t.a d.t.t.len d.t.t.cap, .int .i64 d.t.t.n, .int .i64 d.t.t.s, .slice d.ka d.n d.kc]] w (AddQ w0 B g v (eV (.mk d kid) (L.map SL.b)) w)
    obtain ⟨hv, _, _, hn20, hR, hk⟩ := hl
    have hsz : esz (.mk d kid) = 1 + sumN d.n (fun i => esz (kid i)) := rfl
    have HIH : Hid (∀ i, i < d.n → ∀ (v' : Value) (L' : List SL) (W : World), VQ w0 W B g v' L' → L'.length + esz (kid i) ≤ 1000000 → Calls Try.prog 57 #[.pointer (some ⟨g, 0, none⟩), .agg #[.int .i64 (kid i).d.k, .int .i64 (kid i).d.op, .slice (kid i).d.v.a (kid i).d.v.len (kid i).d.v.cap, .int .i64 (kid i).d.t.t.k, .slice (kid i).d.t.t.a (kid i).d.t.t.len (kid i).d.t.t.cap, .int .i64 (kid i).d.t.t.n, .int .i64 (kid i).d.t.t.s, .slice (kid i).d.ka (kid i).d.n (kid i).d.kc]] W (AddQ w0 B g v' (eV (kid i) (L'.map SL.b)) W)) := fun i hi v' L' W hV hL => ih i v' L' B g w0 W (hk i hi) hV hL
    have HQ0 : Hid (QS w0 w B g v v L [.int .i64 d.k, .int .i64 d.op, .slice d.v.a d.v.len d.v.cap, .int .i64 d.t.t.k, .slice d.t.t.a d.t.t.len d.t.t.cap, .int .i64 d.t.t.n, .int .i64 d.t.t.s, .slice d.ka d.n d.kc] (w.alloc (.cells #[.int .i64 d.k, .int .i64 d.op, .slice d.v.a d.v.len d.v.cap, .int .i64 d.t.t.k, .slice d.t.t.a d.t.t.len d.t.t.cap, .int .i64 d.t.t.n, .int .i64 d.t.t.s, .slice d.ka d.n d.kc] 39))) := QS.new h #[.int .i64 d.k, .int .i64 d.op, .slice d.v.a d.v.len d.v.cap, .int .i64 d.t.t.k, .slice d.t.t.a d.t.t.len d.t.t.cap, .int .i64 d.t.t.n, .int .i64 d.t.t.s, .slice d.ka d.n d.kc] 39
    have HVX : Hid (BsF 0 w0 d.v) := hv
    have HKR : Hid (KRow 0 w0 8 d.ka d.n (fun i => (kid i).d.cells)) := hR
    have HL1 : Hid (L.length ≤ 1000000) := (show L.length ≤ _ by omega)
    have HLK : Hid (∀ k, k < d.n → (foldN k (fun i acc => eV (kid i) acc) (addV (L.map SL.b) d.v.b)).length + esz (kid k) ≤ 1000000) := fun k hk => by
      have h1 := foldN_len (f := (fun i acc => eV (kid i) acc)) (c := fun i => esz (kid i)) (n := k) (fun i l _ => eV_len (kid i) l) (addV (L.map SL.b) d.v.b)
      have h2 := addV_len (L.map SL.b) d.v.b
      rw [List.length_map] at h2
      have h3 := sumN_mono (f := fun i => esz (kid i)) (show k + 1 ≤ d.n by omega)
      have h4 : sumN (k + 1) (fun i => esz (kid i)) = sumN k (fun i => esz (kid i)) + esz (kid k) := rfl
      omega
    clear h hv hR hk ih hn hsz
    go_enter Try.func57, Try.ntmps57
    go_wp2_with fail
    refine (add_any v L d.v B g w0 _ HQ0.out.vq HVX.out HL1.out).mono ?_
    rintro e z1 ⟨v1, L1, rfl, hV1, hR1, hK1⟩
    have HQ1 : Hid (QS w0 w B g v v1 L1 [.int .i64 d.k, .int .i64 d.op, .slice d.v.a d.v.len d.v.cap, .int .i64 d.t.t.k, .slice d.t.t.a d.t.t.len d.t.t.cap, .int .i64 d.t.t.n, .int .i64 d.t.t.s, .slice d.ka d.n d.kc] z1) := HQ0.out.step hV1 hK1
    have HR1 : Hid (L1.map SL.b = (addV (L.map SL.b) d.v.b)) := hR1
    have y7 : z1.cell? ⟨w.heap.size, 7, none⟩ = some (.slice d.ka d.n d.kc) := HQ1.out.bx.2 7 _ rfl
    clear hV1 hR1 hK1 HQ0
    obtain ⟨n, hnn⟩ : ∃ n, n = d.n := ⟨_, rfl⟩
    have HNN : Hid (n = d.n) := hnn
    rw [← hnn] at y7
    by_cases hn1 : n = 0
    · have HR0 : Hid (L1.map SL.b = eV (.mk d kid) (L.map SL.b)) := (show _ = foldN d.n (fun i acc => eV (kid i) acc) (addV (L.map SL.b) d.v.b) by rw [← hnn, hn1, HR1.out]; rfl)
      rw [hn1] at y7
      clear hn1 hnn
      go_wp2_with fail
      clear y7
      go_loopw [13] (fun i wr => i = .int .i64 0 ∧ Hid (QS w0 w B g v v1 L1 [.int .i64 d.k, .int .i64 d.op, .slice d.v.a d.v.len d.v.cap, .int .i64 d.t.t.k, .slice d.t.t.a d.t.t.len d.t.t.cap, .int .i64 d.t.t.n, .int .i64 d.t.t.s, .slice d.ka d.n d.kc] wr)) (fun _ _ => 0)
      case atStart => exact ⟨rfl, HQ1⟩
      case round =>
        obtain ⟨rfl, HQr⟩ := hrel
        go_wp2_with fail
        go_end0
        exact ⟨v1, L1, rfl, HQr.out.vq, HR0.out, HQr.out.kq⟩
    obtain ⟨b, off, eK, _, hbk, hck⟩ := HKR.out.resolve_left (by omega)
    have HCK : Hid (∀ i, i < d.n → ∀ c u, ((kid i).d.cells)[c]? = some u → w0.cell? ⟨b, off + i * 8 + c, none⟩ = some u) := hck
    have hbk' : b < w0.heap.size := hbk
    have hn2 : n ≤ 1048576 := by omega
    rw [eK] at y7
    clear eK hck hnn hbk HKR
    go_wp2_with fail
    clear y7
    go_loopw [13] (fun i wr => ∃ (k : Nat) (v' : Value) (L' : List SL), k ≤ n ∧ i = .int .i64 k ∧ Hid (L'.map SL.b = foldN k (fun i acc => eV (kid i) acc) (addV (L.map SL.b) d.v.b)) ∧ Hid (QS w0 w B g v v' L' [.int .i64 d.k, .int .i64 d.op, .slice d.v.a d.v.len d.v.cap, .int .i64 d.t.t.k, .slice d.t.t.a d.t.t.len d.t.t.cap, .int .i64 d.t.t.n, .int .i64 d.t.t.s, .slice d.ka d.n d.kc] wr)) (fun i _ => n - (intOf i).toNat)
    case atStart => exact ⟨0, v1, L1, Nat.zero_le _, rfl, HR1, HQ1⟩
    case round =>
      clear HQ1
      obtain ⟨k, v', L', hk, rfl, HRr, HQr⟩ := hrel
      by_cases hlk : k < n
      rotate_left
      · obtain rfl : k = n := by omega
        have hlkz : ¬ (k : Int) < (k : Int) := by omega
        have HR2 : Hid (L'.map SL.b = eV (.mk d kid) (L.map SL.b)) := (show _ = foldN d.n (fun i acc => eV (kid i) acc) (addV (L.map SL.b) d.v.b) by rw [← HNN.out]; exact HRr.out)
        go_wp2_with fail
        go_end0
        exact ⟨v', L', rfl, HQr.out.vq, HR2.out, HQr.out.kq⟩
      have hlkz : (k : Int) < (n : Int) := by omega
      have hcx : wr.rangeAt b (off + k * 8) [.int .i64 (kid k).d.k, .int .i64 (kid k).d.op, .slice (kid k).d.v.a (kid k).d.v.len (kid k).d.v.cap, .int .i64 (kid k).d.t.t.k, .slice (kid k).d.t.t.a (kid k).d.t.t.len (kid k).d.t.t.cap, .int .i64 (kid k).d.t.t.n, .int .i64 (kid k).d.t.t.s, .slice (kid k).d.ka (kid k).d.n (kid k).d.kc] := fun c u hu => (HQr.out.vq.bl.cell (p := ⟨b, off + k * 8 + c, none⟩) hbk').trans (HCK.out k (by rw [← HNN.out]; exact hlk) c u hu)
      have HLl : Hid (L'.length + esz (kid k) ≤ 1000000) := (show _ ≤ 1000000 by have h1 := HLK.out k (by rw [← HNN.out]; exact hlk); have h2 := congrArg List.length HRr.out; rw [List.length_map] at h2; omega)
      go_wp2_with (with_reducible refine wpl_at ?_; refine wpList_load_mid rfl 39 _ rfl _ _ rfl [.int .i64 (kid k).d.k, .int .i64 (kid k).d.op, .slice (kid k).d.v.a (kid k).d.v.len (kid k).d.v.cap, .int .i64 (kid k).d.t.t.k, .slice (kid k).d.t.t.a (kid k).d.t.t.len (kid k).d.t.t.cap, .int .i64 (kid k).d.t.t.n, .int .i64 (kid k).d.t.t.s, .slice (kid k).d.ka (kid k).d.n (kid k).d.kc] _ hcx Try.underlying39 rfl (by kernel_rfl) ?_; try simp only [Act.put, List.setIfInBounds_toArray, List.set_cons_zero, List.set_cons_succ])
      refine (HIH.out k (by rw [← HNN.out]; exact hlk) v' L' _ (HQr.out.vq.below (bl_a _)) HLl.out).mono ?_
      rintro e z5 ⟨v5, L5, rfl, hV5, hR5, hK5⟩
      have HQ5 : Hid (QS w0 w B g v v5 L5 [.int .i64 d.k, .int .i64 d.op, .slice d.v.a d.v.len d.v.cap, .int .i64 d.t.t.k, .slice d.t.t.a d.t.t.len d.t.t.cap, .int .i64 d.t.t.n, .int .i64 d.t.t.s, .slice d.ka d.n d.kc] z5) := (HQr.out.below (bl_a _)).step hV5 hK5
      have HR5 : Hid (L5.map SL.b = foldN (k + 1) (fun i acc => eV (kid i) acc) (addV (L.map SL.b) d.v.b)) := (show _ = eV (kid k) (foldN k (fun i acc => eV (kid i) acc) (addV (L.map SL.b) d.v.b)) by rw [hR5, HRr.out])
      clear hV5 hR5 hK5 hcx HQr
      go_wp2_with fail
      go_roundw
      case rel => exact ⟨k + 1, v5, L5, by omega, by go_num, HR5, HQ5⟩
      case measure => simp [intOf]; omega
end Go.Proofs.Ytpgbhkkdbkecoaa
