/- Texts put together: TreM -/
import Derived.Test.YtpgbhkkdbkecoaaMk21
/- TreM -/
namespace Go.Proofs.Ytpgbhkkdbkecoaa
open Go.RowKit Go.Deep
set_option maxRecDepth 100000

/-- A list that is being made: what is known of it within a function whose argument lies in a box. -/
structure LS (w0 w W : World) (B : Nat) (v0 v : Value) (L : List SL) (cs : List Value) (W' : World) : Prop where
  vl : VL w0 W' B v L
  kp : Kp v0 W v W'
  bx : Box W' w.heap.size cs
  bl : Below w0.heap.size w0 W'
  lo : B ≤ W'.heap.size
  ne : v.ownBlock ≠ some w.heap.size
theorem LS.step {w0 w W : World} {B : Nat} {v0 v v' : Value} {L L' : List SL} {cs : List Value} {W' W'' : World} {o : Obj} (h : LS w0 w W B v0 v L cs W') (hW : W = w.alloc o) (hv0 : v0.ownBlock ≠ some w.heap.size) (hwB : w0.heap.size ≤ B) (hV : VL w0 W'' B v' L') (hK : Kp v W' v' W'') : LS w0 w W B v0 v' L' cs W'' :=
  ⟨hV, h.kp.trans hK, hK.box h.bx h.ne, h.bl.trans ((hK.low (fun g hg => (h.vl.lo g hg).1) h.lo).mono hwB), Nat.le_trans h.lo hK.size, (h.kp.trans hK).ne hW hv0⟩
theorem LS.below {w0 w W : World} {B : Nat} {v0 v : Value} {L : List SL} {cs : List Value} {W' W'' : World} (h : LS w0 w W B v0 v L cs W') (hb : Below W'.heap.size W' W'') : LS w0 w W B v0 v L cs W'' :=
  ⟨h.vl.below hb, h.kp.trans (Kp.of_below hb), h.bx.below hb, h.bl.trans (hb.mono h.bl.size), Nat.le_trans h.lo hb.size, h.ne⟩
set_option maxHeartbeats 8000000 in
theorem l5vars_any (e : AT) : ∀ (v : Value) (L : List SL) (B : Nat) (w0 w : World), e.lies 0 w0 → VL w0 w B v L → Below w0.heap.size w0 w → L.length + ac e ≤ 1000000 → B ≤ w.heap.size → w0.heap.size ≤ B →
    Calls Try.prog 21 #[v, .agg #[.int .i64 e.d.k, .slice e.d.pa e.d.pn e.d.pc, .int .i64 e.d.e.d.k, .int .i64 e.d.e.d.op, .slice e.d.e.d.v.a e.d.e.d.v.len e.d.e.d.v.cap, .int .i64 e.d.e.d.t.t.k, .slice e.d.e.d.t.t.a e.d.e.d.t.t.len e.d.e.d.t.t.cap, .int .i64 e.d.e.d.t.t.n, .int .i64 e.d.e.d.t.t.s, .slice e.d.e.d.ka e.d.e.d.n e.d.e.d.kc, .slice e.d.v.a e.d.v.len e.d.v.cap, .slice e.d.ta e.d.tb.length e.d.tc, .slice e.d.ka e.d.n e.d.kc]] w (AddAns w0 B v (aV e (L.map SL.b)) w) := by
  induction e with
  | nil => exact fun _ _ _ _ _ h => False.elim h
  | mk d kid ih =>
    intro v L B w0 w hl hV hw hn hB hwB
    show Calls Try.prog 21 #[v, .agg #[.int .i64 d.k, .slice d.pa d.pn d.pc, .int .i64 d.e.d.k, .int .i64 d.e.d.op, .slice d.e.d.v.a d.e.d.v.len d.e.d.v.cap, .int .i64 d.e.d.t.t.k, .slice d.e.d.t.t.a d.e.d.t.t.len d.e.d.t.t.cap, .int .i64 d.e.d.t.t.n, .int .i64 d.e.d.t.t.s, .slice d.e.d.ka d.e.d.n d.e.d.kc, .slice d.v.a d.v.len d.v.cap, .slice d.ta d.tb.length d.tc, .slice d.ka d.n d.kc]] w (AddAns w0 B v (foldN d.n (fun i acc => aV (kid i) acc) (addV (eV d.e (foldN d.pn (fun i acc => ptV (d.pat i) acc) (L.map SL.b))) d.v.b)) w)
    obtain ⟨hp, hpl, hpn, he, hv, _, _, hn20, hR, hk⟩ := hl
    have hac : ac (.mk d kid) = 3 * d.pn + esz d.e + 1 + sumN d.n (fun i => ac (kid i)) := rfl
    obtain ⟨W, hW⟩ : ∃ W, W = w.alloc (.cells #[.int .i64 d.k, .slice d.pa d.pn d.pc, .int .i64 d.e.d.k, .int .i64 d.e.d.op, .slice d.e.d.v.a d.e.d.v.len d.e.d.v.cap, .int .i64 d.e.d.t.t.k, .slice d.e.d.t.t.a d.e.d.t.t.len d.e.d.t.t.cap, .int .i64 d.e.d.t.t.n, .int .i64 d.e.d.t.t.s, .slice d.e.d.ka d.e.d.n d.e.d.kc, .slice d.v.a d.v.len d.v.cap, .slice d.ta d.tb.length d.tc, .slice d.ka d.n d.kc] 43) := ⟨_, rfl⟩
    have hbW : Below w.heap.size w W := by rw [hW]; exact bl_a _
    have HWE : Hid (W = w.alloc (.cells #[.int .i64 d.k, .slice d.pa d.pn d.pc, .int .i64 d.e.d.k, .int .i64 d.e.d.op, .slice d.e.d.v.a d.e.d.v.len d.e.d.v.cap, .int .i64 d.e.d.t.t.k, .slice d.e.d.t.t.a d.e.d.t.t.len d.e.d.t.t.cap, .int .i64 d.e.d.t.t.n, .int .i64 d.e.d.t.t.s, .slice d.e.d.ka d.e.d.n d.e.d.kc, .slice d.v.a d.v.len d.v.cap, .slice d.ta d.tb.length d.tc, .slice d.ka d.n d.kc] 43)) := hW
    have HNV : Hid (v.ownBlock ≠ some w.heap.size) := hV.ne
    have HLS : Hid (LS w0 w W B v v L [.int .i64 d.k, .slice d.pa d.pn d.pc, .int .i64 d.e.d.k, .int .i64 d.e.d.op, .slice d.e.d.v.a d.e.d.v.len d.e.d.v.cap, .int .i64 d.e.d.t.t.k, .slice d.e.d.t.t.a d.e.d.t.t.len d.e.d.t.t.cap, .int .i64 d.e.d.t.t.n, .int .i64 d.e.d.t.t.s, .slice d.e.d.ka d.e.d.n d.e.d.kc, .slice d.v.a d.v.len d.v.cap, .slice d.ta d.tb.length d.tc, .slice d.ka d.n d.kc] W) := ⟨hV.below hbW, Kp.of_below (Below.refl _ _), (show Box _ _ _ by rw [hW]; exact Box.new w #[.int .i64 d.k, .slice d.pa d.pn d.pc, .int .i64 d.e.d.k, .int .i64 d.e.d.op, .slice d.e.d.v.a d.e.d.v.len d.e.d.v.cap, .int .i64 d.e.d.t.t.k, .slice d.e.d.t.t.a d.e.d.t.t.len d.e.d.t.t.cap, .int .i64 d.e.d.t.t.n, .int .i64 d.e.d.t.t.s, .slice d.e.d.ka d.e.d.n d.e.d.kc, .slice d.v.a d.v.len d.v.cap, .slice d.ta d.tb.length d.tc, .slice d.ka d.n d.kc] 43 _), hw.trans (hbW.mono hw.size), Nat.le_trans hB hbW.size, hV.ne⟩
    have HBW : Hid (Below w.heap.size w W) := hbW
    have HPR : Hid (KRow 0 w0 15 d.pa d.pn (fun i => (d.pat i).cells)) := hp
    have HPL : Hid (∀ i, i < d.pn → (d.pat i).lies 0 w0) := hpl
    have HEL : Hid (d.e.lies 0 w0) := he
    have HVX : Hid (BsF 0 w0 d.v) := hv
    have HKR : Hid (KRow 0 w0 13 d.ka d.n (fun i => (kid i).d.cells)) := hR
    have HIH : Hid (∀ i, i < d.n → ∀ (v' : Value) (L' : List SL) (W' : World), VL w0 W' B v' L' → Below w0.heap.size w0 W' → L'.length + ac (kid i) ≤ 1000000 → B ≤ W'.heap.size → Calls Try.prog 21 #[v', .agg #[.int .i64 (kid i).d.k, .slice (kid i).d.pa (kid i).d.pn (kid i).d.pc, .int .i64 (kid i).d.e.d.k, .int .i64 (kid i).d.e.d.op, .slice (kid i).d.e.d.v.a (kid i).d.e.d.v.len (kid i).d.e.d.v.cap, .int .i64 (kid i).d.e.d.t.t.k, .slice (kid i).d.e.d.t.t.a (kid i).d.e.d.t.t.len (kid i).d.e.d.t.t.cap, .int .i64 (kid i).d.e.d.t.t.n, .int .i64 (kid i).d.e.d.t.t.s, .slice (kid i).d.e.d.ka (kid i).d.e.d.n (kid i).d.e.d.kc, .slice (kid i).d.v.a (kid i).d.v.len (kid i).d.v.cap, .slice (kid i).d.ta (kid i).d.tb.length (kid i).d.tc, .slice (kid i).d.ka (kid i).d.n (kid i).d.kc]] W' (AddAns w0 B v' (aV (kid i) (L'.map SL.b)) W')) := fun i hi v' L' W' h1 h2 h3 h4 => ih i v' L' B w0 W' (hk i hi) h1 h2 h3 h4 hwB
    have HLP : Hid (∀ k, k ≤ d.pn → (foldN k (fun i acc => ptV (d.pat i) acc) (L.map SL.b)).length ≤ L.length + 3 * k) := fun k _ => by
      have h1 := foldN_len (f := (fun i acc => ptV (d.pat i) acc)) (c := fun _ => 3) (n := k) (fun i l _ => ptV_len (d.pat i) l) (L.map SL.b)
      rw [sum3, List.length_map] at h1
      exact h1
    have HLA : Hid (L.length + 3 * d.pn + esz d.e + 1 + sumN d.n (fun i => ac (kid i)) ≤ 1000000) := (show _ ≤ 1000000 by omega)
    have HLK : Hid (∀ k, k < d.n → (foldN k (fun i acc => aV (kid i) acc) (addV (eV d.e (foldN d.pn (fun i acc => ptV (d.pat i) acc) (L.map SL.b))) d.v.b)).length + ac (kid k) ≤ 1000000) := fun k hk => by
      have h1 := foldN_len (f := (fun i acc => aV (kid i) acc)) (c := fun i => ac (kid i)) (n := k) (fun i l _ => aV_len (kid i) l) (addV (eV d.e (foldN d.pn (fun i acc => ptV (d.pat i) acc) (L.map SL.b))) d.v.b)
      have h2 := addV_len (eV d.e (foldN d.pn (fun i acc => ptV (d.pat i) acc) (L.map SL.b))) d.v.b
      have h5 := eV_len d.e (foldN d.pn (fun i acc => ptV (d.pat i) acc) (L.map SL.b))
      have h6 := HLP.out d.pn (Nat.le_refl _)
      have h3 := sumN_mono (f := fun i => ac (kid i)) (show k + 1 ≤ d.n by omega)
      have h4 : sumN (k + 1) (fun i => ac (kid i)) = sumN k (fun i => ac (kid i)) + ac (kid k) := rfl
      omega
    have HLE : Hid ((foldN d.pn (fun i acc => ptV (d.pat i) acc) (L.map SL.b)).length + esz d.e ≤ 1000000 ∧ (eV d.e (foldN d.pn (fun i acc => ptV (d.pat i) acc) (L.map SL.b))).length ≤ 1000000) := by
      have h5 := eV_len d.e (foldN d.pn (fun i acc => ptV (d.pat i) acc) (L.map SL.b))
      have h6 := HLP.out d.pn (Nat.le_refl _)
      have h7 := HLA.out
      exact ⟨by omega, by omega⟩
    clear hR hk ih hv hV hw hn hB hbW hac hp hpl he
    go_enter Try.func21, Try.ntmps21
    go_upto_region 1 with fail
    rw [← hW]
    clear hW
    go_wp2_with fail
    go_loopw [0, 5] (fun lv i wr => ∃ (k : Nat) (v' : Value) (L' : List SL), k ≤ d.pn ∧ v' = lv ∧ i = .int .i64 k ∧ Hid (LS w0 w W B v v' L' [.int .i64 d.k, .slice d.pa d.pn d.pc, .int .i64 d.e.d.k, .int .i64 d.e.d.op, .slice d.e.d.v.a d.e.d.v.len d.e.d.v.cap, .int .i64 d.e.d.t.t.k, .slice d.e.d.t.t.a d.e.d.t.t.len d.e.d.t.t.cap, .int .i64 d.e.d.t.t.n, .int .i64 d.e.d.t.t.s, .slice d.e.d.ka d.e.d.n d.e.d.kc, .slice d.v.a d.v.len d.v.cap, .slice d.ta d.tb.length d.tc, .slice d.ka d.n d.kc] wr) ∧ Hid (L'.map SL.b = foldN k (fun i acc => ptV (d.pat i) acc) (L.map SL.b))) (fun _ i _ => d.pn - (intOf i).toNat)
    case atStart => exact ⟨0, v, L, Nat.zero_le _, rfl, rfl, HLS, (show L.map SL.b = L.map SL.b from rfl)⟩
    case round =>
      clear HLS
      obtain ⟨k, v', L', hk, rfl, rfl, HSr, HRr⟩ := hrel
      have x1 := HSr.out.bx.2 1 _ rfl
      by_cases hlk : k < d.pn
      · have hlkz : (k : Int) < (d.pn : Int) := by omega
        obtain ⟨b, off, eP, _, hbp, hcp⟩ := HPR.out.resolve_left (by omega)
        have HF : Hid (∀ w', (Below w0.heap.size w0 w' ∧ Box w' w.heap.size [.int .i64 d.k, .slice d.pa d.pn d.pc, .int .i64 d.e.d.k, .int .i64 d.e.d.op, .slice d.e.d.v.a d.e.d.v.len d.e.d.v.cap, .int .i64 d.e.d.t.t.k, .slice d.e.d.t.t.a d.e.d.t.t.len d.e.d.t.t.cap, .int .i64 d.e.d.t.t.n, .int .i64 d.e.d.t.t.s, .slice d.e.d.ka d.e.d.n d.e.d.kc, .slice d.v.a d.v.len d.v.cap, .slice d.ta d.tb.length d.tc, .slice d.ka d.n d.kc]) → w'.cell? ⟨w.heap.size, 1, none⟩ = some (.slice (some ⟨b, off, none⟩) d.pn d.pc) ∧ w'.cell? ⟨b, off + k * 15, none⟩ = some (.slice (d.pat k).s.v.a (d.pat k).s.v.len (d.pat k).s.v.cap) ∧ w'.cell? ⟨b, off + k * 15 + 5, none⟩ = some (.slice (d.pat k).p.v.a (d.pat k).p.v.len (d.pat k).p.v.cap) ∧ w'.cell? ⟨b, off + k * 15 + 10, none⟩ = some (.slice (d.pat k).o.v.a (d.pat k).o.v.len (d.pat k).o.v.cap)) := fun w' hw' => ⟨by rw [← eP]; exact hw'.2.2 1 _ rfl, (hw'.1.cell (p := ⟨b, off + k * 15 + 0, none⟩) hbp).trans (hcp k hlk 0 _ rfl), (hw'.1.cell (p := ⟨b, off + k * 15 + 5, none⟩) hbp).trans (hcp k hlk 5 _ rfl), (hw'.1.cell (p := ⟨b, off + k * 15 + 10, none⟩) hbp).trans (hcp k hlk 10 _ rfl)⟩
        have HPT : Hid (BsF 0 w0 (d.pat k).s.v ∧ BsF 0 w0 (d.pat k).p.v ∧ BsF 0 w0 (d.pat k).o.v) := ⟨(HPL.out k hlk).1.1, (HPL.out k hlk).2.1.1, (HPL.out k hlk).2.2.1⟩
        have HBr : Hid (Below w0.heap.size w0 wr) := HSr.out.bl
        have HXr : Hid (Box wr w.heap.size [.int .i64 d.k, .slice d.pa d.pn d.pc, .int .i64 d.e.d.k, .int .i64 d.e.d.op, .slice d.e.d.v.a d.e.d.v.len d.e.d.v.cap, .int .i64 d.e.d.t.t.k, .slice d.e.d.t.t.a d.e.d.t.t.len d.e.d.t.t.cap, .int .i64 d.e.d.t.t.n, .int .i64 d.e.d.t.t.s, .slice d.e.d.ka d.e.d.n d.e.d.kc, .slice d.v.a d.v.len d.v.cap, .slice d.ta d.tb.length d.tc, .slice d.ka d.n d.kc]) := HSr.out.bx
        have HS0 : Hid (LS w0 w W B v v' L' [.int .i64 d.k, .slice d.pa d.pn d.pc, .int .i64 d.e.d.k, .int .i64 d.e.d.op, .slice d.e.d.v.a d.e.d.v.len d.e.d.v.cap, .int .i64 d.e.d.t.t.k, .slice d.e.d.t.t.a d.e.d.t.t.len d.e.d.t.t.cap, .int .i64 d.e.d.t.t.n, .int .i64 d.e.d.t.t.s, .slice d.e.d.ka d.e.d.n d.e.d.kc, .slice d.v.a d.v.len d.v.cap, .slice d.ta d.tb.length d.tc, .slice d.ka d.n d.kc] wr.drew) := HSr.out.below (Below.drew (Below.refl _ _))
        have HE0 : Hid (L'.map SL.b = foldN k (fun i acc => ptV (d.pat i) acc) (L.map SL.b)) := HRr
        have HLNA : Hid (∀ n, n = 1 ∨ n = 2 → (if n = 1 then addV (foldN k (fun i acc => ptV (d.pat i) acc) (L.map SL.b)) (d.pat k).s.v.b else addV (addV (foldN k (fun i acc => ptV (d.pat i) acc) (L.map SL.b)) (d.pat k).s.v.b) (d.pat k).p.v.b).length ≤ 1000000) := fun n hn => by
          have h1 := HLP.out k (by omega)
          have h2 := addV_len (foldN k (fun i acc => ptV (d.pat i) acc) (L.map SL.b)) (d.pat k).s.v.b
          have h3 := addV_len (addV (foldN k (fun i acc => ptV (d.pat i) acc) (L.map SL.b)) (d.pat k).s.v.b) (d.pat k).p.v.b
          have h4 := HLA.out
          rcases hn with rfl | rfl
          · rw [if_pos rfl]; omega
          · rw [if_neg (by decide)]; omega
        have HLN1 : Hid (L'.length ≤ 1000000) := (show L'.length ≤ 1000000 by have h1 := congrArg List.length HE0.out; rw [List.length_map] at h1; have h2 := HLP.out k (by omega); have h3 := HLA.out; omega)
        rw [eP] at x1
        clear eP hcp
        go_wp2_with fail
        refine wp_region_held_drew (S := fun w' => Below w0.heap.size w0 w' ∧ Box w' w.heap.size [.int .i64 d.k, .slice d.pa d.pn d.pc, .int .i64 d.e.d.k, .int .i64 d.e.d.op, .slice d.e.d.v.a d.e.d.v.len d.e.d.v.cap, .int .i64 d.e.d.t.t.k, .slice d.e.d.t.t.a d.e.d.t.t.len d.e.d.t.t.cap, .int .i64 d.e.d.t.t.n, .int .i64 d.e.d.t.t.s, .slice d.e.d.ka d.e.d.n d.e.d.kc, .slice d.v.a d.v.len d.v.cap, .slice d.ta d.tb.length d.tc, .slice d.ka d.n d.kc]) (by kernel_rfl) ?_ (fun hHeld => ?_)
        · exact ⟨Below.drew HBr.out, HXr.out.below (Below.drew (Below.refl _ _))⟩
        refine takeq (i := 0) 14 (v := ?v1) rfl rfl (by kernel_rfl) (by kernel_rfl) (by kernel_rfl) (fun _ _ _ h => h) (Or.inl ⟨by rfl, ?y1⟩) hHeld ?r1
        case y1 => (intro w' hSw; skip; go_simp; (try with_reducible rfl))
        try simp only [Act.put, List.setIfInBounds_toArray, List.set_cons_zero, List.set_cons_succ]
        refine takeq (i := 1) 15 (v := ?v2) rfl rfl (by kernel_rfl) (by kernel_rfl) (by kernel_rfl) (fun _ _ _ h => h) (Or.inl ⟨by rfl, ?y2⟩) hHeld ?r2
        case y2 => (intro w' hSw; skip; go_simp; (try with_reducible rfl))
        try simp only [Act.put, List.setIfInBounds_toArray, List.set_cons_zero, List.set_cons_succ]
        refine takeq (i := 2) 16 (v := ?v3) rfl rfl (by kernel_rfl) (by kernel_rfl) (by kernel_rfl) (fun _ _ _ h => h) (Or.inl ⟨by rfl, ?y3⟩) hHeld ?r3
        case y3 => (intro w' hSw; obtain ⟨q1, q2, q3, q4⟩ := HF.out w' hSw; go_simp; (try with_reducible rfl))
        try simp only [Act.put, List.setIfInBounds_toArray, List.set_cons_zero, List.set_cons_succ]
        refine takeq (i := 3) 17 (v := ?v4) rfl rfl (by kernel_rfl) (by kernel_rfl) (by kernel_rfl) (fun _ _ _ h => h) (Or.inl ⟨by rfl, ?y4⟩) hHeld ?r4
        case y4 => (intro w' hSw; skip; go_simp; (try with_reducible rfl))
        try simp only [Act.put, List.setIfInBounds_toArray, List.set_cons_zero, List.set_cons_succ]
        refine takeq (i := 4) 18 (v := ?v5) rfl rfl (by kernel_rfl) (by kernel_rfl) (by kernel_rfl) (fun _ _ _ h => h) (Or.inl ⟨by rfl, ?y5⟩) hHeld ?r5
        case y5 => (intro w' hSw; skip; go_simp; (try with_reducible rfl))
        try simp only [Act.put, List.setIfInBounds_toArray, List.set_cons_zero, List.set_cons_succ]
        refine takeq (i := 5) 19 (v := ?v6) rfl rfl (by kernel_rfl) (by kernel_rfl) (by kernel_rfl) (fun _ _ _ h => h) (Or.inl ⟨by rfl, ?y6⟩) hHeld ?r6
        case y6 => (intro w' hSw; skip; go_simp; (try with_reducible rfl))
        try simp only [Act.put, List.setIfInBounds_toArray, List.set_cons_zero, List.set_cons_succ]
        refine takeq (i := 6) 20 (v := ?v7) rfl rfl (by kernel_rfl) (by kernel_rfl) (by kernel_rfl) (fun _ _ _ h => h) (Or.inl ⟨by rfl, ?y7⟩) hHeld ?r7
        case y7 => (intro w' hSw; skip; go_simp; (try with_reducible rfl))
        try simp only [Act.put, List.setIfInBounds_toArray, List.set_cons_zero, List.set_cons_succ]
        refine takeq (i := 7) 21 (v := ?v8) rfl rfl (by kernel_rfl) (by kernel_rfl) (by kernel_rfl) (fun _ _ _ h => h) (Or.inl ⟨by rfl, ?y8⟩) hHeld ?r8
        case y8 => (intro w' hSw; obtain ⟨q1, q2, q3, q4⟩ := HF.out w' hSw; go_simp; (try with_reducible rfl))
        try simp only [Act.put, List.setIfInBounds_toArray, List.set_cons_zero, List.set_cons_succ]
        refine takeq (i := 9) 23 (v := ?v9) rfl rfl (by kernel_rfl) (by kernel_rfl) (by kernel_rfl) (fun _ _ _ h => h) (Or.inl ⟨by rfl, ?y9⟩) hHeld ?r9
        case y9 => (intro w' hSw; skip; go_simp; (try with_reducible rfl))
        try simp only [Act.put, List.setIfInBounds_toArray, List.set_cons_zero, List.set_cons_succ]
        refine takeq (i := 10) 24 (v := ?v10) rfl rfl (by kernel_rfl) (by kernel_rfl) (by kernel_rfl) (fun _ _ _ h => h) (Or.inl ⟨by rfl, ?y10⟩) hHeld ?r10
        case y10 => (intro w' hSw; obtain ⟨q1, q2, q3, q4⟩ := HF.out w' hSw; go_simp; (try with_reducible rfl))
        try simp only [Act.put, List.setIfInBounds_toArray, List.set_cons_zero, List.set_cons_succ]
        refine takeq (i := 11) 25 (v := ?v11) rfl rfl (by kernel_rfl) (by kernel_rfl) (by kernel_rfl) (fun _ _ _ h => h) (Or.inl ⟨by rfl, ?y11⟩) hHeld ?r11
        case y11 => (intro w' hSw; skip; go_simp; (try with_reducible rfl))
        try simp only [Act.put, List.setIfInBounds_toArray, List.set_cons_zero, List.set_cons_succ]
        refine takeq (i := 12) 26 (v := ?v12) rfl rfl (by kernel_rfl) (by kernel_rfl) (by kernel_rfl) (fun _ _ _ h => h) (Or.inl ⟨by rfl, ?y12⟩) hHeld ?r12
        case y12 => (intro w' hSw; skip; go_simp; (try with_reducible rfl))
        try simp only [Act.put, List.setIfInBounds_toArray, List.set_cons_zero, List.set_cons_succ]
        refine takeq (i := 13) 27 (v := ?v13) rfl rfl (by kernel_rfl) (by kernel_rfl) (by kernel_rfl) (fun _ _ _ h => h) (Or.inl ⟨by rfl, ?y13⟩) hHeld ?r13
        case y13 => (intro w' hSw; skip; go_simp; (try with_reducible rfl))
        try simp only [Act.put, List.setIfInBounds_toArray, List.set_cons_zero, List.set_cons_succ]
        refine takeq (i := 14) 28 (v := ?v14) rfl rfl (by kernel_rfl) (by kernel_rfl) (by kernel_rfl) (fun _ _ _ h => h) (Or.inl ⟨by rfl, ?y14⟩) hHeld ?r14
        case y14 => (intro w' hSw; skip; go_simp; (try with_reducible rfl))
        try simp only [Act.put, List.setIfInBounds_toArray, List.set_cons_zero, List.set_cons_succ]
        refine takeq (i := 15) 29 (v := ?v15) rfl rfl (by kernel_rfl) (by kernel_rfl) (by kernel_rfl) (fun _ _ _ h => h) (Or.inl ⟨by rfl, ?y15⟩) hHeld ?r15
        case y15 => (intro w' hSw; obtain ⟨q1, q2, q3, q4⟩ := HF.out w' hSw; go_simp; (try with_reducible rfl))
        try simp only [Act.put, List.setIfInBounds_toArray, List.set_cons_zero, List.set_cons_succ]
        refine takeq (i := 17) 31 (v := ?v16) rfl rfl (by kernel_rfl) (by kernel_rfl) (by kernel_rfl) (fun _ _ _ h => h) (Or.inl ⟨by rfl, ?y16⟩) hHeld ?r16
        case y16 => (intro w' hSw; skip; go_simp; (try with_reducible rfl))
        try simp only [Act.put, List.setIfInBounds_toArray, List.set_cons_zero, List.set_cons_succ]
        refine takeq (i := 18) 32 (v := ?v17) rfl rfl (by kernel_rfl) (by kernel_rfl) (by kernel_rfl) (fun _ _ _ h => h) (Or.inl ⟨by rfl, ?y17⟩) hHeld ?r17
        case y17 => (intro w' hSw; obtain ⟨q1, q2, q3, q4⟩ := HF.out w' hSw; go_simp; (try with_reducible rfl))
        try simp only [Act.put, List.setIfInBounds_toArray, List.set_cons_zero, List.set_cons_succ]
        refine takeq (i := 19) 33 (v := ?v18) rfl rfl (by kernel_rfl) (by kernel_rfl) (by kernel_rfl) (fun _ _ _ h => h) (Or.inl ⟨by rfl, ?y18⟩) hHeld ?r18
        case y18 => (intro w' hSw; skip; go_simp; (try with_reducible rfl))
        try simp only [Act.put, List.setIfInBounds_toArray, List.set_cons_zero, List.set_cons_succ]
        refine takeq (i := 20) 34 (v := ?v19) rfl rfl (by kernel_rfl) (by kernel_rfl) (by kernel_rfl) (fun _ _ _ h => h) (Or.inl ⟨by rfl, ?y19⟩) hHeld ?r19
        case y19 => (intro w' hSw; skip; go_simp; (try with_reducible rfl))
        try simp only [Act.put, List.setIfInBounds_toArray, List.set_cons_zero, List.set_cons_succ]
        refine takeq (i := 21) 35 (v := ?v20) rfl rfl (by kernel_rfl) (by kernel_rfl) (by kernel_rfl) (fun _ _ _ h => h) (Or.inl ⟨by rfl, ?y20⟩) hHeld ?r20
        case y20 => (intro w' hSw; skip; go_simp; (try with_reducible rfl))
        try simp only [Act.put, List.setIfInBounds_toArray, List.set_cons_zero, List.set_cons_succ]
        refine takeq (i := 22) 36 (v := ?v21) rfl rfl (by kernel_rfl) (by kernel_rfl) (by kernel_rfl) (fun _ _ _ h => h) (Or.inl ⟨by rfl, ?y21⟩) hHeld ?r21
        case y21 => (intro w' hSw; skip; go_simp; (try with_reducible rfl))
        try simp only [Act.put, List.setIfInBounds_toArray, List.set_cons_zero, List.set_cons_succ]
        refine takeq (i := 23) 37 (v := ?v22) rfl rfl (by kernel_rfl) (by kernel_rfl) (by kernel_rfl) (fun _ _ _ h => h) (Or.inl ⟨by rfl, ?y22⟩) hHeld ?r22
        case y22 => (intro w' hSw; obtain ⟨q1, q2, q3, q4⟩ := HF.out w' hSw; go_simp; (try with_reducible rfl))
        try simp only [Act.put, List.setIfInBounds_toArray, List.set_cons_zero, List.set_cons_succ]
        refine wpAnyH_ready (rs := [8]) (by kernel_rfl) (by simp) ?_
        refine AllReadyH.cons rfl (fun K hK => ?_) AllReadyH.nil
        go_simp
        refine (l4add_any v' L' (d.pat k).s.v B w0 _ HS0.out.vl HS0.out.bl HPT.out.1 HLN1.out HS0.out.lo).mono ?_
        rintro e z1 ⟨v1, M1, rfl, hV1, hR1, hK1⟩
        have HS1 : Hid (LS w0 w W B v v1 M1 [.int .i64 d.k, .slice d.pa d.pn d.pc, .int .i64 d.e.d.k, .int .i64 d.e.d.op, .slice d.e.d.v.a d.e.d.v.len d.e.d.v.cap, .int .i64 d.e.d.t.t.k, .slice d.e.d.t.t.a d.e.d.t.t.len d.e.d.t.t.cap, .int .i64 d.e.d.t.t.n, .int .i64 d.e.d.t.t.s, .slice d.e.d.ka d.e.d.n d.e.d.kc, .slice d.v.a d.v.len d.v.cap, .slice d.ta d.tb.length d.tc, .slice d.ka d.n d.kc] z1) := HS0.out.step HWE.out HNV.out hwB hV1 hK1
        have HE1 : Hid (M1.map SL.b = addV (foldN k (fun i acc => ptV (d.pat i) acc) (L.map SL.b)) (d.pat k).s.v.b) := (show _ = _ by rw [hR1, HE0.out])
        clear hV1 hR1 hK1
        have HLN2 : Hid (M1.length ≤ 1000000) := (show M1.length ≤ 1000000 by have h1 := congrArg List.length HE1.out; rw [List.length_map] at h1; rw [h1]; exact (by have h9 := HLNA.out 1 (.inl rfl); rwa [if_pos rfl] at h9))
        go_wp2_with fail
        refine hK.out _ _ ?_ (fun hHeld => ?_)
        · exact ⟨HS1.out.bl, HS1.out.bx⟩
        clear hK K
        try simp only [Act.put, List.setIfInBounds_toArray, List.set_cons_zero, List.set_cons_succ]
        refine wpAnyH_ready (rs := [16]) (by kernel_rfl) (by simp) ?_
        refine AllReadyH.cons rfl (fun K hK => ?_) AllReadyH.nil
        go_simp
        refine (l4add_any v1 M1 (d.pat k).p.v B w0 _ HS1.out.vl HS1.out.bl HPT.out.2.1 HLN2.out HS1.out.lo).mono ?_
        rintro e z2 ⟨v2, M2, rfl, hV2, hR2, hK2⟩
        have HS2 : Hid (LS w0 w W B v v2 M2 [.int .i64 d.k, .slice d.pa d.pn d.pc, .int .i64 d.e.d.k, .int .i64 d.e.d.op, .slice d.e.d.v.a d.e.d.v.len d.e.d.v.cap, .int .i64 d.e.d.t.t.k, .slice d.e.d.t.t.a d.e.d.t.t.len d.e.d.t.t.cap, .int .i64 d.e.d.t.t.n, .int .i64 d.e.d.t.t.s, .slice d.e.d.ka d.e.d.n d.e.d.kc, .slice d.v.a d.v.len d.v.cap, .slice d.ta d.tb.length d.tc, .slice d.ka d.n d.kc] z2) := HS1.out.step HWE.out HNV.out hwB hV2 hK2
        have HE2 : Hid (M2.map SL.b = addV (addV (foldN k (fun i acc => ptV (d.pat i) acc) (L.map SL.b)) (d.pat k).s.v.b) (d.pat k).p.v.b) := (show _ = _ by rw [hR2, HE1.out])
        clear hV2 hR2 hK2
        have HLN3 : Hid (M2.length ≤ 1000000) := (show M2.length ≤ 1000000 by have h1 := congrArg List.length HE2.out; rw [List.length_map] at h1; rw [h1]; exact (by have h9 := HLNA.out 2 (.inr rfl); rwa [if_neg (by decide)] at h9))
        go_wp2_with fail
        refine hK.out _ _ ?_ (fun hHeld => ?_)
        · exact ⟨HS2.out.bl, HS2.out.bx⟩
        clear hK K
        try simp only [Act.put, List.setIfInBounds_toArray, List.set_cons_zero, List.set_cons_succ]
        refine wpAnyH_ready (rs := [24]) (by kernel_rfl) (by simp) ?_
        refine AllReadyH.cons rfl (fun K hK => ?_) AllReadyH.nil
        go_simp
        refine (l4add_any v2 M2 (d.pat k).o.v B w0 _ HS2.out.vl HS2.out.bl HPT.out.2.2 HLN3.out HS2.out.lo).mono ?_
        rintro e z3 ⟨v3, M3, rfl, hV3, hR3, hK3⟩
        have HS3 : Hid (LS w0 w W B v v3 M3 [.int .i64 d.k, .slice d.pa d.pn d.pc, .int .i64 d.e.d.k, .int .i64 d.e.d.op, .slice d.e.d.v.a d.e.d.v.len d.e.d.v.cap, .int .i64 d.e.d.t.t.k, .slice d.e.d.t.t.a d.e.d.t.t.len d.e.d.t.t.cap, .int .i64 d.e.d.t.t.n, .int .i64 d.e.d.t.t.s, .slice d.e.d.ka d.e.d.n d.e.d.kc, .slice d.v.a d.v.len d.v.cap, .slice d.ta d.tb.length d.tc, .slice d.ka d.n d.kc] z3) := HS2.out.step HWE.out HNV.out hwB hV3 hK3
        have HE3 : Hid (M3.map SL.b = addV (addV (addV (foldN k (fun i acc => ptV (d.pat i) acc) (L.map SL.b)) (d.pat k).s.v.b) (d.pat k).p.v.b) (d.pat k).o.v.b) := (show _ = _ by rw [hR3, HE2.out])
        clear hV3 hR3 hK3
        go_wp2_with fail
        refine hK.out _ _ ?_ (fun hHeld => ?_)
        · exact ⟨HS3.out.bl, HS3.out.bx⟩
        clear hK K
        try simp only [Act.put, List.setIfInBounds_toArray, List.set_cons_zero, List.set_cons_succ]
        refine takeq (i := 25) 0 (v := ?v23) rfl rfl (by kernel_rfl) (by kernel_rfl) (by kernel_rfl) (fun _ _ _ h => h) (Or.inl ⟨by rfl, ?y23⟩) hHeld ?r23
        case y23 => (intro w' hSw; skip; go_simp; (try with_reducible rfl))
        try simp only [Act.put, List.setIfInBounds_toArray, List.set_cons_zero]
        refine wpAnyH_done (by kernel_rfl) ?_ _
        have HNR : Hid (M3.map SL.b = foldN (k + 1) (fun i acc => ptV (d.pat i) acc) (L.map SL.b)) := HE3
        clear hHeld HF HS0 HS1 HS2 HE0 HE1 HE2 HE3 HLN1 HLN2 HLN3 HLNA HBr HXr x1 HSr HRr
        go_wp2_with fail
        go_roundw
        case rel => exact ⟨k + 1, v3, M3, by omega, rfl, by go_num, HS3, HNR⟩
        case measure => simp [intOf]; omega
      · obtain rfl : k = d.pn := by omega
        have hlkz : ¬ (d.pn : Int) < (d.pn : Int) := by omega
        have HS0 : Hid (LS w0 w W B v v' L' [.int .i64 d.k, .slice d.pa d.pn d.pc, .int .i64 d.e.d.k, .int .i64 d.e.d.op, .slice d.e.d.v.a d.e.d.v.len d.e.d.v.cap, .int .i64 d.e.d.t.t.k, .slice d.e.d.t.t.a d.e.d.t.t.len d.e.d.t.t.cap, .int .i64 d.e.d.t.t.n, .int .i64 d.e.d.t.t.s, .slice d.e.d.ka d.e.d.n d.e.d.kc, .slice d.v.a d.v.len d.v.cap, .slice d.ta d.tb.length d.tc, .slice d.ka d.n d.kc] wr.drew) := HSr.out.below (Below.drew (Below.refl _ _))
        have HF5 : Hid (∀ w', (Below w0.heap.size w0 w' ∧ Box w' w.heap.size [.int .i64 d.k, .slice d.pa d.pn d.pc, .int .i64 d.e.d.k, .int .i64 d.e.d.op, .slice d.e.d.v.a d.e.d.v.len d.e.d.v.cap, .int .i64 d.e.d.t.t.k, .slice d.e.d.t.t.a d.e.d.t.t.len d.e.d.t.t.cap, .int .i64 d.e.d.t.t.n, .int .i64 d.e.d.t.t.s, .slice d.e.d.ka d.e.d.n d.e.d.kc, .slice d.v.a d.v.len d.v.cap, .slice d.ta d.tb.length d.tc, .slice d.ka d.n d.kc]) → w'.cell? ⟨w.heap.size, 10, none⟩ = some (.slice d.v.a d.v.len d.v.cap) ∧ True) := fun w' hw' => ⟨hw'.2.2 10 _ rfl, trivial⟩
        have HLN1 : Hid (L'.length + esz d.e ≤ 1000000) := (show _ ≤ 1000000 by have h1 := congrArg List.length HRr.out; rw [List.length_map] at h1; rw [h1]; exact HLE.out.1)
        go_wp2_with fail
        refine wp_region_held_drew (S := fun w' => Below w0.heap.size w0 w' ∧ Box w' w.heap.size [.int .i64 d.k, .slice d.pa d.pn d.pc, .int .i64 d.e.d.k, .int .i64 d.e.d.op, .slice d.e.d.v.a d.e.d.v.len d.e.d.v.cap, .int .i64 d.e.d.t.t.k, .slice d.e.d.t.t.a d.e.d.t.t.len d.e.d.t.t.cap, .int .i64 d.e.d.t.t.n, .int .i64 d.e.d.t.t.s, .slice d.e.d.ka d.e.d.n d.e.d.kc, .slice d.v.a d.v.len d.v.cap, .slice d.ta d.tb.length d.tc, .slice d.ka d.n d.kc]) (by kernel_rfl) ?_ (fun hHeld => ?_)
        · exact ⟨Below.drew HSr.out.bl, HSr.out.bx.below (Below.drew (Below.refl _ _))⟩
        refine takeq (i := 0) 39 (v := ?v24) rfl rfl (by kernel_rfl) (by kernel_rfl) (by kernel_rfl) (fun _ _ _ h => h) (Or.inl ⟨by rfl, ?y24⟩) hHeld ?r24
        case y24 => (intro w' hSw; skip; go_simp; (try with_reducible rfl))
        try simp only [Act.put, List.setIfInBounds_toArray, List.set_cons_zero, List.set_cons_succ]
        refine takeq (i := 1) 40 (v := ?v25) rfl rfl (by kernel_rfl) (by kernel_rfl) (by kernel_rfl) (fun _ _ _ h => h) (Or.inl ⟨by rfl, ?y25⟩) hHeld ?r25
        case y25 => (intro w' hSw; skip; go_simp; (try with_reducible rfl))
        try simp only [Act.put, List.setIfInBounds_toArray, List.set_cons_zero, List.set_cons_succ]
        refine takeq (i := 2) 41 (v := .agg #[.int .i64 d.e.d.k, .int .i64 d.e.d.op, .slice d.e.d.v.a d.e.d.v.len d.e.d.v.cap, .int .i64 d.e.d.t.t.k, .slice d.e.d.t.t.a d.e.d.t.t.len d.e.d.t.t.cap, .int .i64 d.e.d.t.t.n, .int .i64 d.e.d.t.t.s, .slice d.e.d.ka d.e.d.n d.e.d.kc]) rfl rfl (by kernel_rfl) (by kernel_rfl) (by kernel_rfl) (fun _ _ _ h => h) (yieldsIf_load_mid (by rfl) 39 _ rfl w.heap.size 2 rfl [.int .i64 d.e.d.k, .int .i64 d.e.d.op, .slice d.e.d.v.a d.e.d.v.len d.e.d.v.cap, .int .i64 d.e.d.t.t.k, .slice d.e.d.t.t.a d.e.d.t.t.len d.e.d.t.t.cap, .int .i64 d.e.d.t.t.n, .int .i64 d.e.d.t.t.s, .slice d.e.d.ka d.e.d.n d.e.d.kc] _ (fun w' hw' => hw'.2.range 2 _ rfl) Try.underlying39 rfl (by kernel_rfl)) hHeld ?_
        try simp only [Act.put, List.setIfInBounds_toArray, List.set_cons_zero, List.set_cons_succ]
        refine takeq (i := 4) 43 (v := ?v26) rfl rfl (by kernel_rfl) (by kernel_rfl) (by kernel_rfl) (fun _ _ _ h => h) (Or.inl ⟨by rfl, ?y26⟩) hHeld ?r26
        case y26 => (intro w' hSw; skip; go_simp; (try with_reducible rfl))
        try simp only [Act.put, List.setIfInBounds_toArray, List.set_cons_zero, List.set_cons_succ]
        refine takeq (i := 5) 44 (v := ?v27) rfl rfl (by kernel_rfl) (by kernel_rfl) (by kernel_rfl) (fun _ _ _ h => h) (Or.inl ⟨by rfl, ?y27⟩) hHeld ?r27
        case y27 => (intro w' hSw; obtain ⟨q1, q2⟩ := HF5.out w' hSw; go_simp; (try with_reducible rfl))
        try simp only [Act.put, List.setIfInBounds_toArray, List.set_cons_zero, List.set_cons_succ]
        refine wpAnyH_ready (rs := [3]) (by kernel_rfl) (by simp) ?_
        refine AllReadyH.cons rfl (fun K hK => ?_) AllReadyH.nil
        go_simp
        refine (l4exprVars_any d.e v' L' B w0 _ HEL.out HS0.out.vl HS0.out.bl HLN1.out HS0.out.lo hwB).mono ?_
        rintro e z1 ⟨v1, M1, rfl, hV1, hR1, hK1⟩
        have HS1 : Hid (LS w0 w W B v v1 M1 [.int .i64 d.k, .slice d.pa d.pn d.pc, .int .i64 d.e.d.k, .int .i64 d.e.d.op, .slice d.e.d.v.a d.e.d.v.len d.e.d.v.cap, .int .i64 d.e.d.t.t.k, .slice d.e.d.t.t.a d.e.d.t.t.len d.e.d.t.t.cap, .int .i64 d.e.d.t.t.n, .int .i64 d.e.d.t.t.s, .slice d.e.d.ka d.e.d.n d.e.d.kc, .slice d.v.a d.v.len d.v.cap, .slice d.ta d.tb.length d.tc, .slice d.ka d.n d.kc] z1) := HS0.out.step HWE.out HNV.out hwB hV1 hK1
        have HE1 : Hid (M1.map SL.b = eV d.e (foldN d.pn (fun i acc => ptV (d.pat i) acc) (L.map SL.b))) := (show _ = _ by rw [hR1, HRr.out])
        have HLN2 : Hid (M1.length ≤ 1000000) := (show M1.length ≤ 1000000 by have h1 := congrArg List.length HE1.out; rw [List.length_map] at h1; rw [h1]; exact HLE.out.2)
        clear hV1 hR1 hK1
        go_wp2_with fail
        refine hK.out _ _ ?_ (fun hHeld => ?_)
        · exact ⟨HS1.out.bl, HS1.out.bx⟩
        clear hK K
        try simp only [Act.put, List.setIfInBounds_toArray, List.set_cons_zero, List.set_cons_succ]
        refine wpAnyH_ready (rs := [6]) (by kernel_rfl) (by simp) ?_
        refine AllReadyH.cons rfl (fun K hK => ?_) AllReadyH.nil
        go_simp
        refine (l4add_any v1 M1 d.v B w0 _ HS1.out.vl HS1.out.bl HVX.out HLN2.out HS1.out.lo).mono ?_
        rintro e z2 ⟨v2, M2, rfl, hV2, hR2, hK2⟩
        have HS2 : Hid (LS w0 w W B v v2 M2 [.int .i64 d.k, .slice d.pa d.pn d.pc, .int .i64 d.e.d.k, .int .i64 d.e.d.op, .slice d.e.d.v.a d.e.d.v.len d.e.d.v.cap, .int .i64 d.e.d.t.t.k, .slice d.e.d.t.t.a d.e.d.t.t.len d.e.d.t.t.cap, .int .i64 d.e.d.t.t.n, .int .i64 d.e.d.t.t.s, .slice d.e.d.ka d.e.d.n d.e.d.kc, .slice d.v.a d.v.len d.v.cap, .slice d.ta d.tb.length d.tc, .slice d.ka d.n d.kc] z2) := HS1.out.step HWE.out HNV.out hwB hV2 hK2
        have HE2 : Hid (M2.map SL.b = foldN 0 (fun i acc => aV (kid i) acc) (addV (eV d.e (foldN d.pn (fun i acc => ptV (d.pat i) acc) (L.map SL.b))) d.v.b)) := (show M2.map SL.b = addV (eV d.e (foldN d.pn (fun i acc => ptV (d.pat i) acc) (L.map SL.b))) d.v.b by rw [hR2, HE1.out])
        clear hV2 hR2 hK2
        go_wp2_with fail
        refine hK.out _ _ ?_ (fun hHeld => ?_)
        · exact ⟨HS2.out.bl, HS2.out.bx⟩
        clear hK K
        try simp only [Act.put, List.setIfInBounds_toArray, List.set_cons_zero, List.set_cons_succ]
        refine takeq (i := 7) 0 (v := ?v28) rfl rfl (by kernel_rfl) (by kernel_rfl) (by kernel_rfl) (fun _ _ _ h => h) (Or.inl ⟨by rfl, ?y28⟩) hHeld ?r28
        case y28 => (intro w' hSw; skip; go_simp; (try with_reducible rfl))
        try simp only [Act.put, List.setIfInBounds_toArray, List.set_cons_zero]
        refine wpAnyH_done (by kernel_rfl) ?_ _
        clear hHeld HF5 HS0 HS1 HE1 HLN1 HLN2 HSr HRr x1
        go_wp2_with fail
        go_loopw [0, 6] (fun lv i wr => ∃ (k : Nat) (v' : Value) (L' : List SL), k ≤ d.n ∧ v' = lv ∧ i = .int .i64 k ∧ Hid (LS w0 w W B v v' L' [.int .i64 d.k, .slice d.pa d.pn d.pc, .int .i64 d.e.d.k, .int .i64 d.e.d.op, .slice d.e.d.v.a d.e.d.v.len d.e.d.v.cap, .int .i64 d.e.d.t.t.k, .slice d.e.d.t.t.a d.e.d.t.t.len d.e.d.t.t.cap, .int .i64 d.e.d.t.t.n, .int .i64 d.e.d.t.t.s, .slice d.e.d.ka d.e.d.n d.e.d.kc, .slice d.v.a d.v.len d.v.cap, .slice d.ta d.tb.length d.tc, .slice d.ka d.n d.kc] wr) ∧ Hid (L'.map SL.b = foldN k (fun i acc => aV (kid i) acc) (addV (eV d.e (foldN d.pn (fun i acc => ptV (d.pat i) acc) (L.map SL.b))) d.v.b))) (fun _ i _ => d.n - (intOf i).toNat)
        case atStart => exact ⟨0, v2, M2, Nat.zero_le _, rfl, rfl, HS2, HE2⟩
        case round =>
          clear HS2 HE2
          obtain ⟨k, v', L', hk, rfl, rfl, HSr, HRr⟩ := hrel
          have x12 := HSr.out.bx.2 12 _ rfl
          by_cases hlk : k < d.n
          · have hlkz : (k : Int) < (d.n : Int) := by omega
            obtain ⟨b, off, eK, _, hbk, hck⟩ := HKR.out.resolve_left (by omega)
            have hcx : wr.rangeAt b (off + k * 13) [.int .i64 (kid k).d.k, .slice (kid k).d.pa (kid k).d.pn (kid k).d.pc, .int .i64 (kid k).d.e.d.k, .int .i64 (kid k).d.e.d.op, .slice (kid k).d.e.d.v.a (kid k).d.e.d.v.len (kid k).d.e.d.v.cap, .int .i64 (kid k).d.e.d.t.t.k, .slice (kid k).d.e.d.t.t.a (kid k).d.e.d.t.t.len (kid k).d.e.d.t.t.cap, .int .i64 (kid k).d.e.d.t.t.n, .int .i64 (kid k).d.e.d.t.t.s, .slice (kid k).d.e.d.ka (kid k).d.e.d.n (kid k).d.e.d.kc, .slice (kid k).d.v.a (kid k).d.v.len (kid k).d.v.cap, .slice (kid k).d.ta (kid k).d.tb.length (kid k).d.tc, .slice (kid k).d.ka (kid k).d.n (kid k).d.kc] := fun c u hu => (HSr.out.bl.cell (p := ⟨b, off + k * 13 + c, none⟩) hbk).trans (hck k hlk c u hu)
            have hll : L'.length = (foldN k (fun i acc => aV (kid i) acc) (addV (eV d.e (foldN d.pn (fun i acc => ptV (d.pat i) acc) (L.map SL.b))) d.v.b)).length := by rw [← HRr.out, List.length_map]
            have Z := HIH.out k hlk v' L' wr HSr.out.vl HSr.out.bl (by rw [hll]; exact HLK.out k hlk) HSr.out.lo
            rw [HRr.out] at Z
            have HS : Hid (foldN (k + 1) (fun i acc => aV (kid i) acc) (addV (eV d.e (foldN d.pn (fun i acc => ptV (d.pat i) acc) (L.map SL.b))) d.v.b) = aV (kid k) (foldN k (fun i acc => aV (kid i) acc) (addV (eV d.e (foldN d.pn (fun i acc => ptV (d.pat i) acc) (L.map SL.b))) d.v.b))) := rfl
            rw [eK] at x12
            clear eK hck hll
            go_wp2_with (refine wpList_load_mid rfl 43 _ rfl b (off + k * 13) rfl [.int .i64 (kid k).d.k, .slice (kid k).d.pa (kid k).d.pn (kid k).d.pc, .int .i64 (kid k).d.e.d.k, .int .i64 (kid k).d.e.d.op, .slice (kid k).d.e.d.v.a (kid k).d.e.d.v.len (kid k).d.e.d.v.cap, .int .i64 (kid k).d.e.d.t.t.k, .slice (kid k).d.e.d.t.t.a (kid k).d.e.d.t.t.len (kid k).d.e.d.t.t.cap, .int .i64 (kid k).d.e.d.t.t.n, .int .i64 (kid k).d.e.d.t.t.s, .slice (kid k).d.e.d.ka (kid k).d.e.d.n (kid k).d.e.d.kc, .slice (kid k).d.v.a (kid k).d.v.len (kid k).d.v.cap, .slice (kid k).d.ta (kid k).d.tb.length (kid k).d.tc, .slice (kid k).d.ka (kid k).d.n (kid k).d.kc] _ hcx Try.underlying43 rfl (by kernel_rfl) ?_; try simp only [Act.put, List.setIfInBounds_toArray, List.set_cons_zero, List.set_cons_succ])
            refine Z.mono ?_
            rintro e w5 ⟨v5, L5, rfl, hV5, hR5, hK5⟩
            have HN1 : Hid (LS w0 w W B v v5 L5 [.int .i64 d.k, .slice d.pa d.pn d.pc, .int .i64 d.e.d.k, .int .i64 d.e.d.op, .slice d.e.d.v.a d.e.d.v.len d.e.d.v.cap, .int .i64 d.e.d.t.t.k, .slice d.e.d.t.t.a d.e.d.t.t.len d.e.d.t.t.cap, .int .i64 d.e.d.t.t.n, .int .i64 d.e.d.t.t.s, .slice d.e.d.ka d.e.d.n d.e.d.kc, .slice d.v.a d.v.len d.v.cap, .slice d.ta d.tb.length d.tc, .slice d.ka d.n d.kc] w5) := HSr.out.step HWE.out HNV.out hwB hV5 hK5
            have HN2 : Hid (L5.map SL.b = foldN (k + 1) (fun i acc => aV (kid i) acc) (addV (eV d.e (foldN d.pn (fun i acc => ptV (d.pat i) acc) (L.map SL.b))) d.v.b)) := (show _ = _ by rw [HS.out]; exact hR5)
            clear Z hcx hV5 hR5 hK5 x12 HSr HRr
            go_wp2_with fail
            go_roundw
            case rel => exact ⟨k + 1, v5, L5, by omega, rfl, by go_num, HN1, HN2⟩
            case measure => simp [intOf]; omega
          · obtain rfl : k = d.n := by omega
            have hlkz : ¬ (d.n : Int) < (d.n : Int) := by omega
            go_wp2_with fail
            go_ret
            exact ⟨_, L', rfl, HSr.out.vl, HRr.out, Kp.pre HBW.out HSr.out.kp⟩
end Go.Proofs.Ytpgbhkkdbkecoaa
