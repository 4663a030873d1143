/- Texts put together: TrxC -/
import Derived.Test.YtpgbhkkdbkecoaaNk21
import Derived.Test.YtpgbhkkdbkecoaaNk23
/- TrxC -/
namespace Go.Proofs.Ytpgbhkkdbkecoaa
open Go.RowKit Go.Deep
set_option maxRecDepth 100000

def pV : PT → List (List Int) → List (List Int)
  | .nil, l => l
  | .mk d kid, l => foldN d.n (fun i acc => pV (kid i) acc) (addV (eV d.e (ptV d.p l)) d.v.b)
/-- How many variables may come. -/
def pc : PT → Nat
  | .nil => 0
  | .mk d kid => 3 + esz d.e + 1 + sumN d.n (fun i => pc (kid i))
theorem pV_len (e : PT) : ∀ l, (pV e l).length ≤ l.length + pc e := by
  induction e with
  | nil => exact fun l => Nat.le_refl _
  | mk d kid ih =>
    intro l
    have h0 := ptV_len d.p l
    have h1 := eV_len d.e (ptV d.p l)
    have h2 := addV_len (eV d.e (ptV d.p l)) d.v.b
    have h3 := foldN_len (f := fun i acc => pV (kid i) acc) (c := fun i => pc (kid i)) (n := d.n) (fun i l _ => ih i l) (addV (eV d.e (ptV d.p l)) d.v.b)
    show (foldN d.n (fun i acc => pV (kid i) acc) (addV (eV d.e (ptV d.p l)) d.v.b)).length ≤ l.length + (3 + esz d.e + 1 + sumN d.n (fun i => pc (kid i)))
    omega
theorem pc_le {e : PT} : ∀ {deep : Int}, pOk e deep → pc e ≤ 5 * psz e := by
  induction e with
  | nil => exact fun h => False.elim h
  | mk d kid ih =>
    intro deep h
    obtain ⟨_, hn, hk⟩ := h
    have h1 : ∀ m, m ≤ d.n → sumN m (fun i => pc (kid i)) ≤ 5 * sumN m (fun i => psz (kid i)) := by
      intro m
      induction m with
      | zero => exact fun _ => Nat.le_refl _
      | succ m ihm =>
        intro hm
        have h2 := ihm (by omega)
        have h3 := ih m (hk m (by omega))
        show sumN m (fun i => pc (kid i)) + pc (kid m) ≤ 5 * (sumN m (fun i => psz (kid i)) + psz (kid m))
        omega
    have h2 := h1 d.n (Nat.le_refl _)
    show 3 + esz d.e + 1 + sumN d.n (fun i => pc (kid i)) ≤ 5 * (ownP d + sumN d.n (fun i => psz (kid i)))
    unfold ownP
    split
    · omega
    · rename_i hE
      have h3 := hn.e0 hE
      have h4 : esz d.e ≤ 1 := by
        cases he : d.e with
        | nil => exact Nat.zero_le _
        | mk d2 k2 =>
          rw [he] at h3
          have h5 : d2.n = 0 := h3.2.2.2.2
          show 1 + sumN d2.n _ ≤ 1
          rw [h5]
          exact Nat.le_refl _
      omega
set_option maxHeartbeats 8000000 in
theorem l7vars_any (e : PT) : ∀ (v : Value) (L : List SL) (B : Nat) (w0 w : World), e.lies 0 w0 → VL w0 w B v L → Below w0.heap.size w0 w → L.length + pc e ≤ 1000000 → B ≤ w.heap.size → w0.heap.size ≤ B →
    Calls Try.prog 37 #[v, .agg #[.int .i64 e.d.k, .int .i64 e.d.ord, .slice e.d.p.s.v.a e.d.p.s.v.len e.d.p.s.v.cap, .int .i64 e.d.p.s.t.t.k, .slice e.d.p.s.t.t.a e.d.p.s.t.t.len e.d.p.s.t.t.cap, .int .i64 e.d.p.s.t.t.n, .int .i64 e.d.p.s.t.t.s, .slice e.d.p.p.v.a e.d.p.p.v.len e.d.p.p.v.cap, .int .i64 e.d.p.p.t.t.k, .slice e.d.p.p.t.t.a e.d.p.p.t.t.len e.d.p.p.t.t.cap, .int .i64 e.d.p.p.t.t.n, .int .i64 e.d.p.p.t.t.s, .slice e.d.p.o.v.a e.d.p.o.v.len e.d.p.o.v.cap, .int .i64 e.d.p.o.t.t.k, .slice e.d.p.o.t.t.a e.d.p.o.t.t.len e.d.p.o.t.t.cap, .int .i64 e.d.p.o.t.t.n, .int .i64 e.d.p.o.t.t.s, .int .i64 e.d.e.d.k, .int .i64 e.d.e.d.op, .slice e.d.e.d.v.a e.d.e.d.v.len e.d.e.d.v.cap, .int .i64 e.d.e.d.t.t.k, .slice e.d.e.d.t.t.a e.d.e.d.t.t.len e.d.e.d.t.t.cap, .int .i64 e.d.e.d.t.t.n, .int .i64 e.d.e.d.t.t.s, .slice e.d.e.d.ka e.d.e.d.n e.d.e.d.kc, .slice e.d.v.a e.d.v.len e.d.v.cap, .slice e.d.ta e.d.tb.length e.d.tc, .slice e.d.ka e.d.n e.d.kc]] w (AddAns w0 B v (pV e (L.map SL.b)) w) := by
  induction e with
  | nil => exact fun _ _ _ _ _ h => False.elim h
  | mk d kid ih =>
    intro v L B w0 w hl hV hw hn hB hwB
    show Calls Try.prog 37 #[v, .agg #[.int .i64 d.k, .int .i64 d.ord, .slice d.p.s.v.a d.p.s.v.len d.p.s.v.cap, .int .i64 d.p.s.t.t.k, .slice d.p.s.t.t.a d.p.s.t.t.len d.p.s.t.t.cap, .int .i64 d.p.s.t.t.n, .int .i64 d.p.s.t.t.s, .slice d.p.p.v.a d.p.p.v.len d.p.p.v.cap, .int .i64 d.p.p.t.t.k, .slice d.p.p.t.t.a d.p.p.t.t.len d.p.p.t.t.cap, .int .i64 d.p.p.t.t.n, .int .i64 d.p.p.t.t.s, .slice d.p.o.v.a d.p.o.v.len d.p.o.v.cap, .int .i64 d.p.o.t.t.k, .slice d.p.o.t.t.a d.p.o.t.t.len d.p.o.t.t.cap, .int .i64 d.p.o.t.t.n, .int .i64 d.p.o.t.t.s, .int .i64 d.e.d.k, .int .i64 d.e.d.op, .slice d.e.d.v.a d.e.d.v.len d.e.d.v.cap, .int .i64 d.e.d.t.t.k, .slice d.e.d.t.t.a d.e.d.t.t.len d.e.d.t.t.cap, .int .i64 d.e.d.t.t.n, .int .i64 d.e.d.t.t.s, .slice d.e.d.ka d.e.d.n d.e.d.kc, .slice d.v.a d.v.len d.v.cap, .slice d.ta d.tb.length d.tc, .slice d.ka d.n d.kc]] w (AddAns w0 B v (foldN d.n (fun i acc => pV (kid i) acc) (addV (eV d.e (ptV d.p (L.map SL.b))) d.v.b)) w)
    obtain ⟨hp, he, hv, _, _, hn20, hR, hk⟩ := hl
    have hac : pc (.mk d kid) = 3 + esz d.e + 1 + sumN d.n (fun i => pc (kid i)) := rfl
    obtain ⟨W, hW⟩ : ∃ W, W = w.alloc (.cells #[.int .i64 d.k, .int .i64 d.ord, .slice d.p.s.v.a d.p.s.v.len d.p.s.v.cap, .int .i64 d.p.s.t.t.k, .slice d.p.s.t.t.a d.p.s.t.t.len d.p.s.t.t.cap, .int .i64 d.p.s.t.t.n, .int .i64 d.p.s.t.t.s, .slice d.p.p.v.a d.p.p.v.len d.p.p.v.cap, .int .i64 d.p.p.t.t.k, .slice d.p.p.t.t.a d.p.p.t.t.len d.p.p.t.t.cap, .int .i64 d.p.p.t.t.n, .int .i64 d.p.p.t.t.s, .slice d.p.o.v.a d.p.o.v.len d.p.o.v.cap, .int .i64 d.p.o.t.t.k, .slice d.p.o.t.t.a d.p.o.t.t.len d.p.o.t.t.cap, .int .i64 d.p.o.t.t.n, .int .i64 d.p.o.t.t.s, .int .i64 d.e.d.k, .int .i64 d.e.d.op, .slice d.e.d.v.a d.e.d.v.len d.e.d.v.cap, .int .i64 d.e.d.t.t.k, .slice d.e.d.t.t.a d.e.d.t.t.len d.e.d.t.t.cap, .int .i64 d.e.d.t.t.n, .int .i64 d.e.d.t.t.s, .slice d.e.d.ka d.e.d.n d.e.d.kc, .slice d.v.a d.v.len d.v.cap, .slice d.ta d.tb.length d.tc, .slice d.ka d.n d.kc] 62) := ⟨_, rfl⟩
    have hbW : Below w.heap.size w W := by rw [hW]; exact bl_a _
    have HWE : Hid (W = w.alloc (.cells #[.int .i64 d.k, .int .i64 d.ord, .slice d.p.s.v.a d.p.s.v.len d.p.s.v.cap, .int .i64 d.p.s.t.t.k, .slice d.p.s.t.t.a d.p.s.t.t.len d.p.s.t.t.cap, .int .i64 d.p.s.t.t.n, .int .i64 d.p.s.t.t.s, .slice d.p.p.v.a d.p.p.v.len d.p.p.v.cap, .int .i64 d.p.p.t.t.k, .slice d.p.p.t.t.a d.p.p.t.t.len d.p.p.t.t.cap, .int .i64 d.p.p.t.t.n, .int .i64 d.p.p.t.t.s, .slice d.p.o.v.a d.p.o.v.len d.p.o.v.cap, .int .i64 d.p.o.t.t.k, .slice d.p.o.t.t.a d.p.o.t.t.len d.p.o.t.t.cap, .int .i64 d.p.o.t.t.n, .int .i64 d.p.o.t.t.s, .int .i64 d.e.d.k, .int .i64 d.e.d.op, .slice d.e.d.v.a d.e.d.v.len d.e.d.v.cap, .int .i64 d.e.d.t.t.k, .slice d.e.d.t.t.a d.e.d.t.t.len d.e.d.t.t.cap, .int .i64 d.e.d.t.t.n, .int .i64 d.e.d.t.t.s, .slice d.e.d.ka d.e.d.n d.e.d.kc, .slice d.v.a d.v.len d.v.cap, .slice d.ta d.tb.length d.tc, .slice d.ka d.n d.kc] 62)) := hW
    have HNV : Hid (v.ownBlock ≠ some w.heap.size) := hV.ne
    have HLS : Hid (LS w0 w W B v v L d.cells W) := ⟨hV.below hbW, Kp.of_below (Below.refl _ _), (show Box _ _ _ by rw [hW]; exact Box.new w #[.int .i64 d.k, .int .i64 d.ord, .slice d.p.s.v.a d.p.s.v.len d.p.s.v.cap, .int .i64 d.p.s.t.t.k, .slice d.p.s.t.t.a d.p.s.t.t.len d.p.s.t.t.cap, .int .i64 d.p.s.t.t.n, .int .i64 d.p.s.t.t.s, .slice d.p.p.v.a d.p.p.v.len d.p.p.v.cap, .int .i64 d.p.p.t.t.k, .slice d.p.p.t.t.a d.p.p.t.t.len d.p.p.t.t.cap, .int .i64 d.p.p.t.t.n, .int .i64 d.p.p.t.t.s, .slice d.p.o.v.a d.p.o.v.len d.p.o.v.cap, .int .i64 d.p.o.t.t.k, .slice d.p.o.t.t.a d.p.o.t.t.len d.p.o.t.t.cap, .int .i64 d.p.o.t.t.n, .int .i64 d.p.o.t.t.s, .int .i64 d.e.d.k, .int .i64 d.e.d.op, .slice d.e.d.v.a d.e.d.v.len d.e.d.v.cap, .int .i64 d.e.d.t.t.k, .slice d.e.d.t.t.a d.e.d.t.t.len d.e.d.t.t.cap, .int .i64 d.e.d.t.t.n, .int .i64 d.e.d.t.t.s, .slice d.e.d.ka d.e.d.n d.e.d.kc, .slice d.v.a d.v.len d.v.cap, .slice d.ta d.tb.length d.tc, .slice d.ka d.n d.kc] 62 _), hw.trans (hbW.mono hw.size), Nat.le_trans hB hbW.size, hV.ne⟩
    have HBW : Hid (Below w.heap.size w W) := hbW
    have HPT : Hid (BsF 0 w0 d.p.s.v ∧ BsF 0 w0 d.p.p.v ∧ BsF 0 w0 d.p.o.v) := ⟨hp.1.1, hp.2.1.1, hp.2.2.1⟩
    have HEL : Hid (d.e.lies 0 w0) := he
    have HVX : Hid (BsF 0 w0 d.v) := hv
    have HKR : Hid (KRow 0 w0 28 d.ka d.n (fun i => (kid i).d.cells)) := hR
    have HIH : Hid (∀ i, i < d.n → ∀ (v' : Value) (L' : List SL) (W' : World), VL w0 W' B v' L' → Below w0.heap.size w0 W' → L'.length + pc (kid i) ≤ 1000000 → B ≤ W'.heap.size → Calls Try.prog 37 #[v', .agg #[.int .i64 (kid i).d.k, .int .i64 (kid i).d.ord, .slice (kid i).d.p.s.v.a (kid i).d.p.s.v.len (kid i).d.p.s.v.cap, .int .i64 (kid i).d.p.s.t.t.k, .slice (kid i).d.p.s.t.t.a (kid i).d.p.s.t.t.len (kid i).d.p.s.t.t.cap, .int .i64 (kid i).d.p.s.t.t.n, .int .i64 (kid i).d.p.s.t.t.s, .slice (kid i).d.p.p.v.a (kid i).d.p.p.v.len (kid i).d.p.p.v.cap, .int .i64 (kid i).d.p.p.t.t.k, .slice (kid i).d.p.p.t.t.a (kid i).d.p.p.t.t.len (kid i).d.p.p.t.t.cap, .int .i64 (kid i).d.p.p.t.t.n, .int .i64 (kid i).d.p.p.t.t.s, .slice (kid i).d.p.o.v.a (kid i).d.p.o.v.len (kid i).d.p.o.v.cap, .int .i64 (kid i).d.p.o.t.t.k, .slice (kid i).d.p.o.t.t.a (kid i).d.p.o.t.t.len (kid i).d.p.o.t.t.cap, .int .i64 (kid i).d.p.o.t.t.n, .int .i64 (kid i).d.p.o.t.t.s, .int .i64 (kid i).d.e.d.k, .int .i64 (kid i).d.e.d.op, .slice (kid i).d.e.d.v.a (kid i).d.e.d.v.len (kid i).d.e.d.v.cap, .int .i64 (kid i).d.e.d.t.t.k, .slice (kid i).d.e.d.t.t.a (kid i).d.e.d.t.t.len (kid i).d.e.d.t.t.cap, .int .i64 (kid i).d.e.d.t.t.n, .int .i64 (kid i).d.e.d.t.t.s, .slice (kid i).d.e.d.ka (kid i).d.e.d.n (kid i).d.e.d.kc, .slice (kid i).d.v.a (kid i).d.v.len (kid i).d.v.cap, .slice (kid i).d.ta (kid i).d.tb.length (kid i).d.tc, .slice (kid i).d.ka (kid i).d.n (kid i).d.kc]] W' (AddAns w0 B v' (pV (kid i) (L'.map SL.b)) W')) := fun i hi v' L' W' h1 h2 h3 h4 => ih i v' L' B w0 W' (hk i hi) h1 h2 h3 h4 hwB
    have HLA : Hid (L.length + 3 + esz d.e + 1 + sumN d.n (fun i => pc (kid i)) ≤ 1000000) := (show _ ≤ 1000000 by omega)
    have HLQ : Hid ((addV (L.map SL.b) d.p.s.v.b).length ≤ 1000000 ∧ (addV (addV (L.map SL.b) d.p.s.v.b) d.p.p.v.b).length ≤ 1000000 ∧ (addV (addV (addV (L.map SL.b) d.p.s.v.b) d.p.p.v.b) d.p.o.v.b).length ≤ 1000000) := by
      have h1 := addV_len (L.map SL.b) d.p.s.v.b
      have h2 := addV_len (addV (L.map SL.b) d.p.s.v.b) d.p.p.v.b
      have h3 := addV_len (addV (addV (L.map SL.b) d.p.s.v.b) d.p.p.v.b) d.p.o.v.b
      have h4 := HLA.out
      rw [List.length_map] at h1
      exact ⟨by omega, by omega, by omega⟩
    have HLE : Hid ((ptV d.p (L.map SL.b)).length + esz d.e ≤ 1000000 ∧ (eV d.e (ptV d.p (L.map SL.b))).length ≤ 1000000) := by
      have h5 := eV_len d.e (ptV d.p (L.map SL.b))
      have h6 := ptV_len d.p (L.map SL.b)
      have h7 := HLA.out
      rw [List.length_map] at h6
      exact ⟨by omega, by omega⟩
    have HLK : Hid (∀ k, k < d.n → (foldN k (fun i acc => pV (kid i) acc) (addV (eV d.e (ptV d.p (L.map SL.b))) d.v.b)).length + pc (kid k) ≤ 1000000) := fun k hk => by
      have h1 := foldN_len (f := (fun i acc => pV (kid i) acc)) (c := fun i => pc (kid i)) (n := k) (fun i l _ => pV_len (kid i) l) (addV (eV d.e (ptV d.p (L.map SL.b))) d.v.b)
      have h2 := addV_len (eV d.e (ptV d.p (L.map SL.b))) d.v.b
      have h5 := eV_len d.e (ptV d.p (L.map SL.b))
      have h6 := ptV_len d.p (L.map SL.b)
      rw [List.length_map] at h6
      have h3 := sumN_mono (f := fun i => pc (kid i)) (show k + 1 ≤ d.n by omega)
      have h4 : sumN (k + 1) (fun i => pc (kid i)) = sumN k (fun i => pc (kid i)) + pc (kid k) := rfl
      have h7 := HLA.out
      omega
    have HS0 : Hid (LS w0 w W B v v L d.cells W.drew) := HLS.out.below (Below.drew (Below.refl _ _))
    have HLN1 : Hid (L.length ≤ 1000000) := (show L.length ≤ 1000000 by omega)
    have HF : Hid (∀ w', (Below w0.heap.size w0 w' ∧ Box w' w.heap.size d.cells) → w'.cell? ⟨w.heap.size, 2, none⟩ = some (.slice d.p.s.v.a d.p.s.v.len d.p.s.v.cap) ∧ w'.cell? ⟨w.heap.size, 7, none⟩ = some (.slice d.p.p.v.a d.p.p.v.len d.p.p.v.cap) ∧ w'.cell? ⟨w.heap.size, 12, none⟩ = some (.slice d.p.o.v.a d.p.o.v.len d.p.o.v.cap)) := fun w' hw' => ⟨hw'.2.2 2 _ rfl, hw'.2.2 7 _ rfl, hw'.2.2 12 _ rfl⟩
    clear hR hk ih hv hV hw hn hB hbW hac hp he
    go_enter Try.func37, Try.ntmps37
    go_upto_region 1 with fail
    rw [← hW]
    clear hW
    go_wp2_with fail
    refine wp_region_held_drew (S := fun w' => Below w0.heap.size w0 w' ∧ Box w' w.heap.size d.cells) (by kernel_rfl) ?_ (fun hHeld => ?_)
    · exact ⟨Below.drew HLS.out.bl, HLS.out.bx.below (Below.drew (Below.refl _ _))⟩
    refine takeq (i := 0) 6 (v := ?v1) rfl rfl (by kernel_rfl) (by kernel_rfl) (by kernel_rfl) (fun _ _ _ h => h) (Or.inl ⟨by rfl, ?y1⟩) hHeld ?r1
    case y1 => (intro w' hSw; skip; go_simp; (try with_reducible rfl))
    try simp only [Act.put, List.setIfInBounds_toArray, List.set_cons_zero, List.set_cons_succ]
    refine takeq (i := 1) 7 (v := ?v2) rfl rfl (by kernel_rfl) (by kernel_rfl) (by kernel_rfl) (fun _ _ _ h => h) (Or.inl ⟨by rfl, ?y2⟩) hHeld ?r2
    case y2 => (intro w' hSw; skip; go_simp; (try with_reducible rfl))
    try simp only [Act.put, List.setIfInBounds_toArray, List.set_cons_zero, List.set_cons_succ]
    refine takeq (i := 2) 8 (v := ?v3) rfl rfl (by kernel_rfl) (by kernel_rfl) (by kernel_rfl) (fun _ _ _ h => h) (Or.inl ⟨by rfl, ?y3⟩) hHeld ?r3
    case y3 => (intro w' hSw; skip; go_simp; (try with_reducible rfl))
    try simp only [Act.put, List.setIfInBounds_toArray, List.set_cons_zero, List.set_cons_succ]
    refine takeq (i := 3) 9 (v := ?v4) rfl rfl (by kernel_rfl) (by kernel_rfl) (by kernel_rfl) (fun _ _ _ h => h) (Or.inl ⟨by rfl, ?y4⟩) hHeld ?r4
    case y4 => (intro w' hSw; skip; go_simp; (try with_reducible rfl))
    try simp only [Act.put, List.setIfInBounds_toArray, List.set_cons_zero, List.set_cons_succ]
    refine takeq (i := 4) 10 (v := ?v5) rfl rfl (by kernel_rfl) (by kernel_rfl) (by kernel_rfl) (fun _ _ _ h => h) (Or.inl ⟨by rfl, ?y5⟩) hHeld ?r5
    case y5 => (intro w' hSw; obtain ⟨q1, q2, q3⟩ := HF.out w' hSw; go_simp; (try with_reducible rfl))
    try simp only [Act.put, List.setIfInBounds_toArray, List.set_cons_zero, List.set_cons_succ]
    refine takeq (i := 6) 12 (v := ?v6) rfl rfl (by kernel_rfl) (by kernel_rfl) (by kernel_rfl) (fun _ _ _ h => h) (Or.inl ⟨by rfl, ?y6⟩) hHeld ?r6
    case y6 => (intro w' hSw; skip; go_simp; (try with_reducible rfl))
    try simp only [Act.put, List.setIfInBounds_toArray, List.set_cons_zero, List.set_cons_succ]
    refine takeq (i := 7) 13 (v := ?v7) rfl rfl (by kernel_rfl) (by kernel_rfl) (by kernel_rfl) (fun _ _ _ h => h) (Or.inl ⟨by rfl, ?y7⟩) hHeld ?r7
    case y7 => (intro w' hSw; skip; go_simp; (try with_reducible rfl))
    try simp only [Act.put, List.setIfInBounds_toArray, List.set_cons_zero, List.set_cons_succ]
    refine takeq (i := 8) 14 (v := ?v8) rfl rfl (by kernel_rfl) (by kernel_rfl) (by kernel_rfl) (fun _ _ _ h => h) (Or.inl ⟨by rfl, ?y8⟩) hHeld ?r8
    case y8 => (intro w' hSw; skip; go_simp; (try with_reducible rfl))
    try simp only [Act.put, List.setIfInBounds_toArray, List.set_cons_zero, List.set_cons_succ]
    refine takeq (i := 9) 15 (v := ?v9) rfl rfl (by kernel_rfl) (by kernel_rfl) (by kernel_rfl) (fun _ _ _ h => h) (Or.inl ⟨by rfl, ?y9⟩) hHeld ?r9
    case y9 => (intro w' hSw; obtain ⟨q1, q2, q3⟩ := HF.out w' hSw; go_simp; (try with_reducible rfl))
    try simp only [Act.put, List.setIfInBounds_toArray, List.set_cons_zero, List.set_cons_succ]
    refine takeq (i := 11) 17 (v := ?v10) rfl rfl (by kernel_rfl) (by kernel_rfl) (by kernel_rfl) (fun _ _ _ h => h) (Or.inl ⟨by rfl, ?y10⟩) hHeld ?r10
    case y10 => (intro w' hSw; skip; go_simp; (try with_reducible rfl))
    try simp only [Act.put, List.setIfInBounds_toArray, List.set_cons_zero, List.set_cons_succ]
    refine takeq (i := 12) 18 (v := ?v11) rfl rfl (by kernel_rfl) (by kernel_rfl) (by kernel_rfl) (fun _ _ _ h => h) (Or.inl ⟨by rfl, ?y11⟩) hHeld ?r11
    case y11 => (intro w' hSw; skip; go_simp; (try with_reducible rfl))
    try simp only [Act.put, List.setIfInBounds_toArray, List.set_cons_zero, List.set_cons_succ]
    refine takeq (i := 13) 19 (v := ?v12) rfl rfl (by kernel_rfl) (by kernel_rfl) (by kernel_rfl) (fun _ _ _ h => h) (Or.inl ⟨by rfl, ?y12⟩) hHeld ?r12
    case y12 => (intro w' hSw; skip; go_simp; (try with_reducible rfl))
    try simp only [Act.put, List.setIfInBounds_toArray, List.set_cons_zero, List.set_cons_succ]
    refine takeq (i := 14) 20 (v := ?v13) rfl rfl (by kernel_rfl) (by kernel_rfl) (by kernel_rfl) (fun _ _ _ h => h) (Or.inl ⟨by rfl, ?y13⟩) hHeld ?r13
    case y13 => (intro w' hSw; obtain ⟨q1, q2, q3⟩ := HF.out w' hSw; go_simp; (try with_reducible rfl))
    try simp only [Act.put, List.setIfInBounds_toArray, List.set_cons_zero, List.set_cons_succ]
    refine wpAnyH_ready (rs := [5]) (by kernel_rfl) (by simp) ?_
    refine AllReadyH.cons rfl (fun K hK => ?_) AllReadyH.nil
    go_simp
    refine (l4add_any v L d.p.s.v B w0 _ HS0.out.vl HS0.out.bl HPT.out.1 HLN1.out HS0.out.lo).mono ?_
    rintro e z1 ⟨v1, M1, rfl, hV1, hR1, hK1⟩
    have HS1 : Hid (LS w0 w W B v v1 M1 d.cells z1) := HS0.out.step HWE.out HNV.out hwB hV1 hK1
    have HE1 : Hid (M1.map SL.b = addV (L.map SL.b) d.p.s.v.b) := (show _ = _ by rw [hR1])
    clear hV1 hR1 hK1
    have HLN2 : Hid (M1.length ≤ 1000000) := (show M1.length ≤ 1000000 by have h1 := congrArg List.length HE1.out; rw [List.length_map] at h1; have h2 := HLQ.out; omega)
    go_wp2_with fail
    refine hK.out _ _ ?_ (fun hHeld => ?_)
    · exact ⟨HS1.out.bl, HS1.out.bx⟩
    clear hK K
    try simp only [Act.put, List.setIfInBounds_toArray, List.set_cons_zero, List.set_cons_succ]
    refine wpAnyH_ready (rs := [10]) (by kernel_rfl) (by simp) ?_
    refine AllReadyH.cons rfl (fun K hK => ?_) AllReadyH.nil
    go_simp
    refine (l4add_any v1 M1 d.p.p.v B w0 _ HS1.out.vl HS1.out.bl HPT.out.2.1 HLN2.out HS1.out.lo).mono ?_
    rintro e z2 ⟨v2, M2, rfl, hV2, hR2, hK2⟩
    have HS2 : Hid (LS w0 w W B v v2 M2 d.cells z2) := HS1.out.step HWE.out HNV.out hwB hV2 hK2
    have HE2 : Hid (M2.map SL.b = addV (addV (L.map SL.b) d.p.s.v.b) d.p.p.v.b) := (show _ = _ by rw [hR2, HE1.out])
    clear hV2 hR2 hK2
    have HLN3 : Hid (M2.length ≤ 1000000) := (show M2.length ≤ 1000000 by have h1 := congrArg List.length HE2.out; rw [List.length_map] at h1; have h2 := HLQ.out; omega)
    go_wp2_with fail
    refine hK.out _ _ ?_ (fun hHeld => ?_)
    · exact ⟨HS2.out.bl, HS2.out.bx⟩
    clear hK K
    try simp only [Act.put, List.setIfInBounds_toArray, List.set_cons_zero, List.set_cons_succ]
    refine wpAnyH_ready (rs := [15]) (by kernel_rfl) (by simp) ?_
    refine AllReadyH.cons rfl (fun K hK => ?_) AllReadyH.nil
    go_simp
    refine (l4add_any v2 M2 d.p.o.v B w0 _ HS2.out.vl HS2.out.bl HPT.out.2.2 HLN3.out HS2.out.lo).mono ?_
    rintro e z3 ⟨v3, M3, rfl, hV3, hR3, hK3⟩
    have HS3 : Hid (LS w0 w W B v v3 M3 d.cells z3) := HS2.out.step HWE.out HNV.out hwB hV3 hK3
    have HE3 : Hid (M3.map SL.b = addV (addV (addV (L.map SL.b) d.p.s.v.b) d.p.p.v.b) d.p.o.v.b) := (show _ = _ by rw [hR3, HE2.out])
    clear hV3 hR3 hK3
    have HLN4 : Hid (M3.length ≤ 1000000) := (show M3.length ≤ 1000000 by have h1 := congrArg List.length HE3.out; rw [List.length_map] at h1; have h2 := HLQ.out; omega)
    go_wp2_with fail
    refine hK.out _ _ ?_ (fun hHeld => ?_)
    · exact ⟨HS3.out.bl, HS3.out.bx⟩
    clear hK K
    try simp only [Act.put, List.setIfInBounds_toArray, List.set_cons_zero, List.set_cons_succ]
    refine takeq (i := 16) 0 (v := ?v14) rfl rfl (by kernel_rfl) (by kernel_rfl) (by kernel_rfl) (fun _ _ _ h => h) (Or.inl ⟨by rfl, ?y14⟩) hHeld ?r14
    case y14 => (intro w' hSw; skip; go_simp; (try with_reducible rfl))
    try simp only [Act.put, List.setIfInBounds_toArray, List.set_cons_zero]
    refine wpAnyH_done (by kernel_rfl) ?_ _
    have HE3 : Hid (M3.map SL.b = ptV d.p (L.map SL.b)) := HE3
    clear hHeld HF HS0 HS1 HS2 HE1 HE2 HLN1 HLN2 HLN3 HLN4 HLS
    have HS0 : Hid (LS w0 w W B v v3 M3 d.cells z3.drew) := HS3.out.below (Below.drew (Below.refl _ _))
    have HF5 : Hid (∀ w', (Below w0.heap.size w0 w' ∧ Box w' w.heap.size d.cells) → w'.cell? ⟨w.heap.size, 25, none⟩ = some (.slice d.v.a d.v.len d.v.cap) ∧ True) := fun w' hw' => ⟨hw'.2.2 25 _ rfl, trivial⟩
    have HLN1 : Hid (M3.length + esz d.e ≤ 1000000) := (show _ ≤ 1000000 by have h1 := congrArg List.length HE3.out; rw [List.length_map] at h1; rw [h1]; exact HLE.out.1)
    go_wp2_with fail
    refine wp_region_held_drew (S := fun w' => Below w0.heap.size w0 w' ∧ Box w' w.heap.size d.cells) (by kernel_rfl) ?_ (fun hHeld => ?_)
    · exact ⟨Below.drew HS3.out.bl, HS3.out.bx.below (Below.drew (Below.refl _ _))⟩
    refine takeq (i := 0) 22 (v := ?v15) rfl rfl (by kernel_rfl) (by kernel_rfl) (by kernel_rfl) (fun _ _ _ h => h) (Or.inl ⟨by rfl, ?y15⟩) hHeld ?r15
    case y15 => (intro w' hSw; skip; go_simp; (try with_reducible rfl))
    try simp only [Act.put, List.setIfInBounds_toArray, List.set_cons_zero, List.set_cons_succ]
    refine takeq (i := 1) 23 (v := ?v16) rfl rfl (by kernel_rfl) (by kernel_rfl) (by kernel_rfl) (fun _ _ _ h => h) (Or.inl ⟨by rfl, ?y16⟩) hHeld ?r16
    case y16 => (intro w' hSw; skip; go_simp; (try with_reducible rfl))
    try simp only [Act.put, List.setIfInBounds_toArray, List.set_cons_zero, List.set_cons_succ]
    refine takeq (i := 2) 24 (v := .agg #[.int .i64 d.e.d.k, .int .i64 d.e.d.op, .slice d.e.d.v.a d.e.d.v.len d.e.d.v.cap, .int .i64 d.e.d.t.t.k, .slice d.e.d.t.t.a d.e.d.t.t.len d.e.d.t.t.cap, .int .i64 d.e.d.t.t.n, .int .i64 d.e.d.t.t.s, .slice d.e.d.ka d.e.d.n d.e.d.kc]) rfl rfl (by kernel_rfl) (by kernel_rfl) (by kernel_rfl) (fun _ _ _ h => h) (yieldsIf_load_mid (by rfl) 39 _ rfl w.heap.size 17 rfl [.int .i64 d.e.d.k, .int .i64 d.e.d.op, .slice d.e.d.v.a d.e.d.v.len d.e.d.v.cap, .int .i64 d.e.d.t.t.k, .slice d.e.d.t.t.a d.e.d.t.t.len d.e.d.t.t.cap, .int .i64 d.e.d.t.t.n, .int .i64 d.e.d.t.t.s, .slice d.e.d.ka d.e.d.n d.e.d.kc] _ (fun w' hw' => hw'.2.range 17 _ rfl) Try.underlying39 rfl (by kernel_rfl)) hHeld ?_
    try simp only [Act.put, List.setIfInBounds_toArray, List.set_cons_zero, List.set_cons_succ]
    refine takeq (i := 4) 26 (v := ?v17) rfl rfl (by kernel_rfl) (by kernel_rfl) (by kernel_rfl) (fun _ _ _ h => h) (Or.inl ⟨by rfl, ?y17⟩) hHeld ?r17
    case y17 => (intro w' hSw; skip; go_simp; (try with_reducible rfl))
    try simp only [Act.put, List.setIfInBounds_toArray, List.set_cons_zero, List.set_cons_succ]
    refine takeq (i := 5) 27 (v := ?v18) rfl rfl (by kernel_rfl) (by kernel_rfl) (by kernel_rfl) (fun _ _ _ h => h) (Or.inl ⟨by rfl, ?y18⟩) hHeld ?r18
    case y18 => (intro w' hSw; obtain ⟨q1, q2⟩ := HF5.out w' hSw; go_simp; (try with_reducible rfl))
    try simp only [Act.put, List.setIfInBounds_toArray, List.set_cons_zero, List.set_cons_succ]
    refine wpAnyH_ready (rs := [3]) (by kernel_rfl) (by simp) ?_
    refine AllReadyH.cons rfl (fun K hK => ?_) AllReadyH.nil
    go_simp
    refine (l4exprVars_any d.e v3 M3 B w0 _ HEL.out HS0.out.vl HS0.out.bl HLN1.out HS0.out.lo hwB).mono ?_
    rintro e z1 ⟨v4, M4, rfl, hV4, hR4, hK4⟩
    have HS4 : Hid (LS w0 w W B v v4 M4 d.cells z1) := HS0.out.step HWE.out HNV.out hwB hV4 hK4
    have HE4 : Hid (M4.map SL.b = eV d.e (ptV d.p (L.map SL.b))) := (show _ = _ by rw [hR4, HE3.out])
    have HLN2 : Hid (M4.length ≤ 1000000) := (show M4.length ≤ 1000000 by have h1 := congrArg List.length HE4.out; rw [List.length_map] at h1; rw [h1]; exact HLE.out.2)
    clear hV4 hR4 hK4
    go_wp2_with fail
    refine hK.out _ _ ?_ (fun hHeld => ?_)
    · exact ⟨HS4.out.bl, HS4.out.bx⟩
    clear hK K
    try simp only [Act.put, List.setIfInBounds_toArray, List.set_cons_zero, List.set_cons_succ]
    refine wpAnyH_ready (rs := [6]) (by kernel_rfl) (by simp) ?_
    refine AllReadyH.cons rfl (fun K hK => ?_) AllReadyH.nil
    go_simp
    refine (l4add_any v4 M4 d.v B w0 _ HS4.out.vl HS4.out.bl HVX.out HLN2.out HS4.out.lo).mono ?_
    rintro e z2 ⟨v5, M5, rfl, hV5, hR5, hK5⟩
    have HS5 : Hid (LS w0 w W B v v5 M5 d.cells z2) := HS4.out.step HWE.out HNV.out hwB hV5 hK5
    have HE5 : Hid (M5.map SL.b = foldN 0 (fun i acc => pV (kid i) acc) (addV (eV d.e (ptV d.p (L.map SL.b))) d.v.b)) := (show M5.map SL.b = addV (eV d.e (ptV d.p (L.map SL.b))) d.v.b by rw [hR5, HE4.out])
    clear hV5 hR5 hK5
    go_wp2_with fail
    refine hK.out _ _ ?_ (fun hHeld => ?_)
    · exact ⟨HS5.out.bl, HS5.out.bx⟩
    clear hK K
    try simp only [Act.put, List.setIfInBounds_toArray, List.set_cons_zero, List.set_cons_succ]
    refine takeq (i := 7) 0 (v := ?v19) rfl rfl (by kernel_rfl) (by kernel_rfl) (by kernel_rfl) (fun _ _ _ h => h) (Or.inl ⟨by rfl, ?y19⟩) hHeld ?r19
    case y19 => (intro w' hSw; skip; go_simp; (try with_reducible rfl))
    try simp only [Act.put, List.setIfInBounds_toArray, List.set_cons_zero]
    refine wpAnyH_done (by kernel_rfl) ?_ _
    clear hHeld HF5 HS0 HS3 HS4 HE3 HE4 HLN1 HLN2
    go_wp2_with fail
    go_loopw [0, 5] (fun lv i wr => ∃ (k : Nat) (v' : Value) (L' : List SL), k ≤ d.n ∧ v' = lv ∧ i = .int .i64 k ∧ Hid (LS w0 w W B v v' L' d.cells wr) ∧ Hid (L'.map SL.b = foldN k (fun i acc => pV (kid i) acc) (addV (eV d.e (ptV d.p (L.map SL.b))) d.v.b))) (fun _ i _ => d.n - (intOf i).toNat)
    case atStart => exact ⟨0, v5, M5, Nat.zero_le _, rfl, rfl, HS5, HE5⟩
    case round =>
      clear HS5 HE5
      obtain ⟨k, v', L', hk, rfl, rfl, HSr, HRr⟩ := hrel
      have x27 := HSr.out.bx.2 27 _ rfl
      by_cases hlk : k < d.n
      · have hlkz : (k : Int) < (d.n : Int) := by omega
        obtain ⟨b, off, eK, _, hbk, hck⟩ := HKR.out.resolve_left (by omega)
        have hcx : wr.rangeAt b (off + k * 28) [.int .i64 (kid k).d.k, .int .i64 (kid k).d.ord, .slice (kid k).d.p.s.v.a (kid k).d.p.s.v.len (kid k).d.p.s.v.cap, .int .i64 (kid k).d.p.s.t.t.k, .slice (kid k).d.p.s.t.t.a (kid k).d.p.s.t.t.len (kid k).d.p.s.t.t.cap, .int .i64 (kid k).d.p.s.t.t.n, .int .i64 (kid k).d.p.s.t.t.s, .slice (kid k).d.p.p.v.a (kid k).d.p.p.v.len (kid k).d.p.p.v.cap, .int .i64 (kid k).d.p.p.t.t.k, .slice (kid k).d.p.p.t.t.a (kid k).d.p.p.t.t.len (kid k).d.p.p.t.t.cap, .int .i64 (kid k).d.p.p.t.t.n, .int .i64 (kid k).d.p.p.t.t.s, .slice (kid k).d.p.o.v.a (kid k).d.p.o.v.len (kid k).d.p.o.v.cap, .int .i64 (kid k).d.p.o.t.t.k, .slice (kid k).d.p.o.t.t.a (kid k).d.p.o.t.t.len (kid k).d.p.o.t.t.cap, .int .i64 (kid k).d.p.o.t.t.n, .int .i64 (kid k).d.p.o.t.t.s, .int .i64 (kid k).d.e.d.k, .int .i64 (kid k).d.e.d.op, .slice (kid k).d.e.d.v.a (kid k).d.e.d.v.len (kid k).d.e.d.v.cap, .int .i64 (kid k).d.e.d.t.t.k, .slice (kid k).d.e.d.t.t.a (kid k).d.e.d.t.t.len (kid k).d.e.d.t.t.cap, .int .i64 (kid k).d.e.d.t.t.n, .int .i64 (kid k).d.e.d.t.t.s, .slice (kid k).d.e.d.ka (kid k).d.e.d.n (kid k).d.e.d.kc, .slice (kid k).d.v.a (kid k).d.v.len (kid k).d.v.cap, .slice (kid k).d.ta (kid k).d.tb.length (kid k).d.tc, .slice (kid k).d.ka (kid k).d.n (kid k).d.kc] := fun c u hu => (HSr.out.bl.cell (p := ⟨b, off + k * 28 + c, none⟩) hbk).trans (hck k hlk c u hu)
        have hll : L'.length = (foldN k (fun i acc => pV (kid i) acc) (addV (eV d.e (ptV d.p (L.map SL.b))) d.v.b)).length := by rw [← HRr.out, List.length_map]
        have Z := HIH.out k hlk v' L' wr HSr.out.vl HSr.out.bl (by rw [hll]; exact HLK.out k hlk) HSr.out.lo
        rw [HRr.out] at Z
        have HS : Hid (foldN (k + 1) (fun i acc => pV (kid i) acc) (addV (eV d.e (ptV d.p (L.map SL.b))) d.v.b) = pV (kid k) (foldN k (fun i acc => pV (kid i) acc) (addV (eV d.e (ptV d.p (L.map SL.b))) d.v.b))) := rfl
        rw [eK] at x27
        clear eK hck hll
        go_wp2_with (with_reducible refine wpq_at ?_; refine wpList_load_mid rfl 62 _ rfl b (off + k * 28) rfl [.int .i64 (kid k).d.k, .int .i64 (kid k).d.ord, .slice (kid k).d.p.s.v.a (kid k).d.p.s.v.len (kid k).d.p.s.v.cap, .int .i64 (kid k).d.p.s.t.t.k, .slice (kid k).d.p.s.t.t.a (kid k).d.p.s.t.t.len (kid k).d.p.s.t.t.cap, .int .i64 (kid k).d.p.s.t.t.n, .int .i64 (kid k).d.p.s.t.t.s, .slice (kid k).d.p.p.v.a (kid k).d.p.p.v.len (kid k).d.p.p.v.cap, .int .i64 (kid k).d.p.p.t.t.k, .slice (kid k).d.p.p.t.t.a (kid k).d.p.p.t.t.len (kid k).d.p.p.t.t.cap, .int .i64 (kid k).d.p.p.t.t.n, .int .i64 (kid k).d.p.p.t.t.s, .slice (kid k).d.p.o.v.a (kid k).d.p.o.v.len (kid k).d.p.o.v.cap, .int .i64 (kid k).d.p.o.t.t.k, .slice (kid k).d.p.o.t.t.a (kid k).d.p.o.t.t.len (kid k).d.p.o.t.t.cap, .int .i64 (kid k).d.p.o.t.t.n, .int .i64 (kid k).d.p.o.t.t.s, .int .i64 (kid k).d.e.d.k, .int .i64 (kid k).d.e.d.op, .slice (kid k).d.e.d.v.a (kid k).d.e.d.v.len (kid k).d.e.d.v.cap, .int .i64 (kid k).d.e.d.t.t.k, .slice (kid k).d.e.d.t.t.a (kid k).d.e.d.t.t.len (kid k).d.e.d.t.t.cap, .int .i64 (kid k).d.e.d.t.t.n, .int .i64 (kid k).d.e.d.t.t.s, .slice (kid k).d.e.d.ka (kid k).d.e.d.n (kid k).d.e.d.kc, .slice (kid k).d.v.a (kid k).d.v.len (kid k).d.v.cap, .slice (kid k).d.ta (kid k).d.tb.length (kid k).d.tc, .slice (kid k).d.ka (kid k).d.n (kid k).d.kc] _ hcx Try.underlying62 rfl (by kernel_rfl) ?_; try simp only [Act.put, List.setIfInBounds_toArray, List.set_cons_zero, List.set_cons_succ])
        refine Z.mono ?_
        rintro e w5 ⟨v6, L6, rfl, hV6, hR6, hK6⟩
        have HN1 : Hid (LS w0 w W B v v6 L6 d.cells w5) := HSr.out.step HWE.out HNV.out hwB hV6 hK6
        have HN2 : Hid (L6.map SL.b = foldN (k + 1) (fun i acc => pV (kid i) acc) (addV (eV d.e (ptV d.p (L.map SL.b))) d.v.b)) := (show _ = _ by rw [HS.out]; exact hR6)
        clear Z hcx hV6 hR6 hK6 x27 HSr HRr
        go_wp2_with fail
        go_roundw
        case rel => exact ⟨k + 1, v6, L6, by omega, rfl, by go_num, HN1, HN2⟩
        case measure => simp [intOf]; omega
      · obtain rfl : k = d.n := by omega
        have hlkz : ¬ (d.n : Int) < (d.n : Int) := by omega
        go_wp2_with fail
        go_ret
        exact ⟨_, L', rfl, HSr.out.vl, HRr.out, Kp.pre HBW.out HSr.out.kp⟩
end Go.Proofs.Ytpgbhkkdbkecoaa
