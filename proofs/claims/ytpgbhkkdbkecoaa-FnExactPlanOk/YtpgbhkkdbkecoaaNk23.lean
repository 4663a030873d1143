/- Texts put together: TreL TreM -/
import Derived.Test.YtpgbhkkdbkecoaaNk22
/- TreL -/
namespace Go.Proofs.Ytpgbhkkdbkecoaa
open Go.RowKit Go.Deep
set_option maxRecDepth 100000

def foldN {α : Type} : Nat → (Nat → α → α) → α → α
  | 0, _, a => a
  | n + 1, f, a => f n (foldN n f a)
def eV : ET → List (List Int) → List (List Int)
  | .nil, l => l
  | .mk d kid, l => foldN d.n (fun i acc => eV (kid i) acc) (addV l d.v.b)
def ptV (p : PB) (l : List (List Int)) : List (List Int) := addV (addV (addV l p.s.v.b) p.p.v.b) p.o.v.b
theorem foldN_congr {α : Type} {n : Nat} {f g : Nat → α → α} (h : ∀ i, i < n → ∀ a, f i a = g i a) (a : α) : foldN n f a = foldN n g a := by
  induction n with
  | zero => rfl
  | succ n ih =>
    show f n (foldN n f a) = g n (foldN n g a)
    rw [ih (fun i hi => h i (by omega)), h n (by omega)]
theorem foldN_len {n : Nat} {f : Nat → List (List Int) → List (List Int)} {c : Nat → Nat} (h : ∀ i l, i < n → (f i l).length ≤ l.length + c i) (l : List (List Int)) : (foldN n f l).length ≤ l.length + sumN n c := by
  induction n with
  | zero => exact Nat.le_refl _
  | succ n ih =>
    have h1 := ih (fun i l hi => h i l (by omega))
    have h2 := h n (foldN n f l) (by omega)
    show (f n (foldN n f l)).length ≤ l.length + (sumN n c + c n)
    omega
theorem eV_len (e : ET) : ∀ l, (eV e l).length ≤ l.length + esz e := by
  induction e with
  | nil => exact fun l => Nat.le_refl _
  | mk d kid ih =>
    intro l
    have h1 := addV_len l d.v.b
    have h2 := foldN_len (f := fun i acc => eV (kid i) acc) (c := fun i => esz (kid i)) (n := d.n) (fun i l _ => ih i l) (addV l d.v.b)
    show (foldN d.n (fun i acc => eV (kid i) acc) (addV l d.v.b)).length ≤ l.length + (1 + sumN d.n (fun i => esz (kid i)))
    omega
theorem ptV_len (p : PB) (l : List (List Int)) : (ptV p l).length ≤ l.length + 3 := by
  have h1 := addV_len l p.s.v.b
  have h2 := addV_len (addV l p.s.v.b) p.p.v.b
  have h3 := addV_len (addV (addV l p.s.v.b) p.p.v.b) p.o.v.b
  unfold ptV
  omega
theorem eV_same {e : ET} : ∀ {e' : ET} {l : List (List Int)}, e.same e' → eV e l = eV e' l := by
  induction e with
  | nil => exact fun h => False.elim h
  | mk d kid ih =>
    intro e' l h
    cases e' with
    | nil => exact False.elim h
    | mk d' kid' =>
    obtain ⟨_, _, h2, _, h4, h5⟩ := h
    show foldN d.n _ (addV l d.v.b) = foldN d'.n _ (addV l d'.v.b)
    rw [← h4, ← h2]
    exact foldN_congr (fun i hi a => ih i (h5 i hi)) _
theorem VL.ne {w0 w : World} {B : Nat} {v : Value} {L : List SL} (h : VL w0 w B v L) : v.ownBlock ≠ some w.heap.size := fun e => by have := (h.lo _ e).2; omega
theorem Kp.ne {v v' : Value} {w W wr : World} {o : Obj} (h : Kp v W v' wr) (hW : W = w.alloc o) (hv : v.ownBlock ≠ some w.heap.size) : v'.ownBlock ≠ some w.heap.size := fun e => by
  rcases h.blk _ e with e' | e'
  · exact hv e'
  · rw [hW] at e'
    have : (w.alloc o).heap.size = w.heap.size + 1 := by simp
    omega
set_option maxHeartbeats 4000000 in
theorem l4exprVars_any (e : ET) : ∀ (v : Value) (L : List SL) (B : Nat) (w0 w : World), e.lies 0 w0 → VL w0 w B v L → Below w0.heap.size w0 w → L.length + esz e ≤ 1000000 → B ≤ w.heap.size → w0.heap.size ≤ B →
    Calls Try.prog 52 #[v, .agg #[.int .i64 e.d.k, .int .i64 e.d.op, .slice e.d.v.a e.d.v.len e.d.v.cap, .int .i64 e.d.t.t.k, .slice e.d.t.t.a e.d.t.t.len e.d.t.t.cap, .int .i64 e.d.t.t.n, .int .i64 e.d.t.t.s, .slice e.d.ka e.d.n e.d.kc]] w (AddAns w0 B v (eV e (L.map SL.b)) w) := by
  induction e with
  | nil => exact fun _ _ _ _ _ h => False.elim h
  | mk d kid ih =>
    intro v L B w0 w hl hV hw hn hB hwB
    show Calls Try.prog 52 #[v, .agg #[.int .i64 d.k, .int .i64 d.op, .slice d.v.a d.v.len d.v.cap, .int .i64 d.t.t.k, .slice d.t.t.a d.t.t.len d.t.t.cap, .int .i64 d.t.t.n, .int .i64 d.t.t.s, .slice d.ka d.n d.kc]] w (AddAns w0 B v (foldN d.n (fun i acc => eV (kid i) acc) (addV (L.map SL.b) d.v.b)) w)
    obtain ⟨hv, _, _, hn20, hR, hk⟩ := hl
    have hsum : esz (.mk d kid) = 1 + sumN d.n (fun i => esz (kid i)) := rfl
    obtain ⟨W, hW⟩ : ∃ W, W = w.alloc (.cells #[.int .i64 d.k, .int .i64 d.op, .slice d.v.a d.v.len d.v.cap, .int .i64 d.t.t.k, .slice d.t.t.a d.t.t.len d.t.t.cap, .int .i64 d.t.t.n, .int .i64 d.t.t.s, .slice d.ka d.n d.kc] 39) := ⟨_, rfl⟩
    have hbW : Below w.heap.size w W := by rw [hW]; exact bl_a _
    have HX0 : Hid (Box W w.heap.size [.int .i64 d.k, .int .i64 d.op, .slice d.v.a d.v.len d.v.cap, .int .i64 d.t.t.k, .slice d.t.t.a d.t.t.len d.t.t.cap, .int .i64 d.t.t.n, .int .i64 d.t.t.s, .slice d.ka d.n d.kc]) := (show Box _ _ _ by rw [hW]; exact Box.new w #[.int .i64 d.k, .int .i64 d.op, .slice d.v.a d.v.len d.v.cap, .int .i64 d.t.t.k, .slice d.t.t.a d.t.t.len d.t.t.cap, .int .i64 d.t.t.n, .int .i64 d.t.t.s, .slice d.ka d.n d.kc] 39 _)
    have HNV : Hid (v.ownBlock ≠ some w.heap.size) := hV.ne
    have HLV : Hid (∀ g, v.ownBlock = some g → B ≤ g) := fun g hg => (hV.lo g hg).1
    have AD := l4add_any v L d.v B w0 W (hV.below hbW) (hw.trans (hbW.mono hw.size)) hv (by omega) (Nat.le_trans hB hbW.size)
    have HBW : Hid (Below w.heap.size w W ∧ B ≤ W.heap.size ∧ Below w0.heap.size w0 W) := ⟨hbW, Nat.le_trans hB hbW.size, hw.trans (hbW.mono hw.size)⟩
    have HWE : Hid (W = w.alloc (.cells #[.int .i64 d.k, .int .i64 d.op, .slice d.v.a d.v.len d.v.cap, .int .i64 d.t.t.k, .slice d.t.t.a d.t.t.len d.t.t.cap, .int .i64 d.t.t.n, .int .i64 d.t.t.s, .slice d.ka d.n d.kc] 39)) := hW
    have HKR : Hid (KRow 0 w0 8 d.ka d.n (fun i => (kid i).d.cells)) := hR
    have HIH : Hid (∀ i, i < d.n → ∀ (v' : Value) (L' : List SL) (W' : World), VL w0 W' B v' L' → Below w0.heap.size w0 W' → L'.length + esz (kid i) ≤ 1000000 → B ≤ W'.heap.size → Calls Try.prog 52 #[v', .agg #[.int .i64 (kid i).d.k, .int .i64 (kid i).d.op, .slice (kid i).d.v.a (kid i).d.v.len (kid i).d.v.cap, .int .i64 (kid i).d.t.t.k, .slice (kid i).d.t.t.a (kid i).d.t.t.len (kid i).d.t.t.cap, .int .i64 (kid i).d.t.t.n, .int .i64 (kid i).d.t.t.s, .slice (kid i).d.ka (kid i).d.n (kid i).d.kc]] W' (AddAns w0 B v' (eV (kid i) (L'.map SL.b)) W')) := fun i hi v' L' W' h1 h2 h3 h4 => ih i v' L' B w0 W' (hk i hi) h1 h2 h3 h4 hwB
    have HLEN : Hid (∀ k, k < d.n → (foldN k (fun i acc => eV (kid i) acc) (addV (L.map SL.b) d.v.b)).length + esz (kid k) ≤ 1000000) := fun k hk => by
      have h1 := foldN_len (f := fun i acc => eV (kid i) acc) (c := fun i => esz (kid i)) (n := k) (fun i l _ => eV_len (kid i) l) (addV (L.map SL.b) d.v.b)
      have h2 := addV_len (L.map SL.b) d.v.b
      rw [List.length_map] at h2
      have h3 := sumN_mono (f := fun i => esz (kid i)) (show k + 1 ≤ d.n by omega)
      have h4 : sumN (k + 1) (fun i => esz (kid i)) = sumN k (fun i => esz (kid i)) + esz (kid k) := rfl
      omega
    clear hR hk ih hv hV hw hn hB hbW hsum
    go_enter Try.func52, Try.ntmps52
    go_upto_region 1 with fail
    rw [← hW]
    clear hW
    have c2 := HX0.out.2 2 _ rfl
    go_wp2_with fail
    refine AD.mono ?_
    rintro e w1 ⟨v1, L1, rfl, hV1, hR1, hK1⟩
    have HV1 : Hid (VL w0 w1 B v1 L1) := hV1
    have HR1 : Hid (L1.map SL.b = foldN 0 (fun i acc => eV (kid i) acc) (addV (L.map SL.b) d.v.b)) := hR1
    have HK1 : Hid (Kp v W v1 w1) := hK1
    clear AD hV1 hR1 hK1 c2
    go_wp2_with fail
    go_loopw [0, 5] (fun lv i wr => ∃ (k : Nat) (v' : Value) (L' : List SL), k ≤ d.n ∧ v' = lv ∧ i = .int .i64 k ∧ Hid (VL w0 wr B v' L') ∧ Hid (L'.map SL.b = foldN k (fun i acc => eV (kid i) acc) (addV (L.map SL.b) d.v.b)) ∧ Hid (Kp v W v' wr)) (fun _ i _ => d.n - (intOf i).toNat)
    case atStart => exact ⟨0, v1, L1, Nat.zero_le _, rfl, rfl, HV1, HR1, HK1⟩
    case round =>
      clear HV1 HR1 HK1
      obtain ⟨k, v', L', hk, rfl, rfl, HVr, HRr, HKr⟩ := hrel
      have x7 := (HKr.out.box HX0.out HNV.out).2 7 _ rfl
      by_cases hlk : k < d.n
      · have hlkz : (k : Int) < (d.n : Int) := by omega
        obtain ⟨b, off, eK, _, hbk, hck⟩ := HKR.out.resolve_left (by omega)
        have hbr : Below w0.heap.size w0 wr := HBW.out.2.2.trans ((HKr.out.low HLV.out HBW.out.2.1).mono hwB)
        have hcx : wr.rangeAt b (off + k * 8) [.int .i64 (kid k).d.k, .int .i64 (kid k).d.op, .slice (kid k).d.v.a (kid k).d.v.len (kid k).d.v.cap, .int .i64 (kid k).d.t.t.k, .slice (kid k).d.t.t.a (kid k).d.t.t.len (kid k).d.t.t.cap, .int .i64 (kid k).d.t.t.n, .int .i64 (kid k).d.t.t.s, .slice (kid k).d.ka (kid k).d.n (kid k).d.kc] := fun c u hu => (hbr.cell (p := ⟨b, off + k * 8 + c, none⟩) hbk).trans (hck k hlk c u hu)
        have hll : L'.length = (foldN k (fun i acc => eV (kid i) acc) (addV (L.map SL.b) d.v.b)).length := by rw [← HRr.out, List.length_map]
        have Z := HIH.out k hlk v' L' wr HVr.out hbr (by rw [hll]; exact HLEN.out k hlk) (Nat.le_trans HBW.out.2.1 HKr.out.size)
        rw [HRr.out] at Z
        have HS : Hid (foldN (k + 1) (fun i acc => eV (kid i) acc) (addV (L.map SL.b) d.v.b) = eV (kid k) (foldN k (fun i acc => eV (kid i) acc) (addV (L.map SL.b) d.v.b))) := rfl
        rw [eK] at x7
        clear eK hck hbr hll
        go_wp2_with (refine wpList_load_mid rfl 39 _ rfl b (off + k * 8) rfl [.int .i64 (kid k).d.k, .int .i64 (kid k).d.op, .slice (kid k).d.v.a (kid k).d.v.len (kid k).d.v.cap, .int .i64 (kid k).d.t.t.k, .slice (kid k).d.t.t.a (kid k).d.t.t.len (kid k).d.t.t.cap, .int .i64 (kid k).d.t.t.n, .int .i64 (kid k).d.t.t.s, .slice (kid k).d.ka (kid k).d.n (kid k).d.kc] _ hcx Try.underlying39 rfl (by kernel_rfl) ?_; try simp only [Act.put, List.setIfInBounds_toArray, List.set_cons_zero, List.set_cons_succ])
        refine Z.mono ?_
        rintro e w5 ⟨v5, L5, rfl, hV5, hR5, hK5⟩
        have HN1 : Hid (VL w0 w5 B v5 L5) := hV5
        have HN2 : Hid (L5.map SL.b = foldN (k + 1) (fun i acc => eV (kid i) acc) (addV (L.map SL.b) d.v.b)) := (show _ = _ by rw [HS.out]; exact hR5)
        have HN3 : Hid (Kp v W v5 w5) := HKr.out.trans hK5
        clear Z hcx hV5 hR5 hK5 x7 HVr HRr HKr
        go_wp2_with fail
        go_roundw
        case rel => exact ⟨k + 1, v5, L5, by omega, rfl, by go_num, HN1, HN2, HN3⟩
        case measure => simp [intOf]; omega
      · obtain rfl : k = d.n := by omega
        have hlkz : ¬ (d.n : Int) < (d.n : Int) := by omega
        go_wp2_with fail
        go_ret
        exact ⟨_, L', rfl, HVr.out, HRr.out, Kp.pre HBW.out.1 HKr.out⟩
end Go.Proofs.Ytpgbhkkdbkecoaa

/- TreM -/
namespace Go.Proofs.Ytpgbhkkdbkecoaa
open Go.RowKit Go.Deep
set_option maxRecDepth 100000

/-- A list that is being made: what is known of it within a function whose argument lies in a box. -/
structure LS (w0 w W : World) (B : Nat) (v0 v : Value) (L : List SL) (cs : List Value) (W' : World) : Prop where
  vl : VL w0 W' B v L
  kp : Kp v0 W v W'
  bx : Box W' w.heap.size cs
  bl : Below w0.heap.size w0 W'
  lo : B ≤ W'.heap.size
  ne : v.ownBlock ≠ some w.heap.size
theorem LS.step {w0 w W : World} {B : Nat} {v0 v v' : Value} {L L' : List SL} {cs : List Value} {W' W'' : World} {o : Obj} (h : LS w0 w W B v0 v L cs W') (hW : W = w.alloc o) (hv0 : v0.ownBlock ≠ some w.heap.size) (hwB : w0.heap.size ≤ B) (hV : VL w0 W'' B v' L') (hK : Kp v W' v' W'') : LS w0 w W B v0 v' L' cs W'' :=
  ⟨hV, h.kp.trans hK, hK.box h.bx h.ne, h.bl.trans ((hK.low (fun g hg => (h.vl.lo g hg).1) h.lo).mono hwB), Nat.le_trans h.lo hK.size, (h.kp.trans hK).ne hW hv0⟩
theorem LS.below {w0 w W : World} {B : Nat} {v0 v : Value} {L : List SL} {cs : List Value} {W' W'' : World} (h : LS w0 w W B v0 v L cs W') (hb : Below W'.heap.size W' W'') : LS w0 w W B v0 v L cs W'' :=
  ⟨h.vl.below hb, h.kp.trans (Kp.of_below hb), h.bx.below hb, h.bl.trans (hb.mono h.bl.size), Nat.le_trans h.lo hb.size, h.ne⟩
end Go.Proofs.Ytpgbhkkdbkecoaa
