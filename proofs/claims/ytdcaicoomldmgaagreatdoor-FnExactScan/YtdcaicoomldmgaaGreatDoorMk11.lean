/- Texts put together: TriD GraB GraC -/
import Derived.Test.YtdcaicoomldmgaaGreatDoorMk07
import Derived.Deep.RegionHeld3
/- TriD -/
namespace Go.Proofs.YtdcaicoomldmgaaGreatDoor
open Go.RowKit Go.Deep

theorem left3_pos {l : Int} {t u v : Tm} (h : ¬ left3 l t u v < 0) : (t.len : Int) + u.len + v.len ≤ l ∧ left3 l t u v = l - t.len - u.len - v.len := by
  unfold left3 at h ⊢
  split at h
  · omega
  · split at h
    · omega
    · split at h
      · omega
      · rename_i a b c
        rw [if_neg a, if_neg b, if_neg c]
        omega
theorem bl_drew1 {w : World} : Below w.heap.size w w.drew := Below.drew (Below.refl _ _)

end Go.Proofs.YtdcaicoomldmgaaGreatDoor

/- GraB -/
namespace Go.Proofs.YtdcaicoomldmgaaGreatDoor
open Go.RowKit Go.Deep

/-- What measuring answers: a number; unless it is below 0 all are short. -/
def SzRes (n : Nat) (T U V : Nat → Tm) (e : Ending) : Prop := ∃ r : Int, e = .returned (.int .i64 r) ∧ r ≤ 1048576 ∧ (¬ r < 0 → n ≤ 1048576 ∧ ∀ i, i < n → (T i).len ≤ 1048576 ∧ (U i).len ≤ 1048576 ∧ (V i).len ≤ 1048576) ∧ (r < 0 → r = -1)

theorem szTripleS_any (a : Option Addr) (n cap : Nat) (T U V : Nat → Tm) (l : Int) (w : World) (h1 : 0 ≤ l) (h2 : l ≤ 1048576) (hn : n ≤ 9223372036854775807) (hR : Rows w a n T U V)
    (lt : ∀ i, i < n → (T i).len ≤ 9223372036854775807) (lu : ∀ i, i < n → (U i).len ≤ 9223372036854775807) (lv : ∀ i, i < n → (V i).len ≤ 9223372036854775807) :
    Calls Tryz.prog 33 #[.slice a n cap, .int .i64 l] w fun e w' => SzRes n T U V e ∧ Below w.heap.size w w' := by
  by_cases hbig : l < n
  · clear hR lt lu lv
    go_enter Tryz.func33, Tryz.ntmps33
    go_wp2
    go_ret
    exact ⟨⟨-1, rfl, by omega, fun h => absurd (by omega) h, fun _ => rfl⟩, Below.refl _ _⟩
  by_cases hn0 : n = 0
  · subst hn0
    clear hR lt lu lv
    go_enter Tryz.func33, Tryz.ntmps33
    go_wp2
    refine wp_loop_rounds 1 ?_
    rw [rounds_succ]
    go_wp2
    go_ret
    exact ⟨⟨_, rfl, by omega, fun _ => ⟨by omega, fun i hi => by omega⟩, fun h => by omega⟩, Below.refl _ _⟩
  obtain ⟨b, off, rfl, hlt, hc⟩ := hR.resolve_left hn0
  clear hR
  have HT : Hid (∀ i, i < n → (T i).len ≤ 9223372036854775807) := lt
  have HU : Hid (∀ i, i < n → (U i).len ≤ 9223372036854775807) := lu
  have HV : Hid (∀ i, i < n → (V i).len ≤ 9223372036854775807) := lv
  have HC : Hid (∀ i, i < n → Row12 w b (off + i * 12) (T i) (U i) (V i)) := hc
  clear lt lu lv hc
  go_enter Tryz.func33, Tryz.ntmps33
  go_wp2
  go_loopw [1, 5] (fun x i wr => ∃ (k : Nat) (r : Int), k ≤ n ∧ i = .int .i64 k ∧ x = .int .i64 r ∧ 0 ≤ r ∧ r ≤ 1048576 ∧ Below w.heap.size w wr ∧ Hid (∀ i, i < k → (T i).len ≤ 1048576 ∧ (U i).len ≤ 1048576 ∧ (V i).len ≤ 1048576))
    (fun _ i _ => n - (intOf i).toNat)
  case atStart => exact ⟨0, _, Nat.zero_le _, rfl, rfl, by omega, by omega, Below.refl _ _, fun i hi => by omega⟩
  case round =>
    obtain ⟨k, r, hk, rfl, rfl, hr0, hr1, hb, HH⟩ := hrel
    by_cases hlk : k < n
    · have hx := (HC.out k hlk).of_block (hb.block b hlt)
      have Z := fun w => szTriple_any (T k) (U k) (V k) r w hr0 hr1 (HT.out k hlk) (HU.out k hlk) (HV.out k hlk)
      have Z1 : Hid (0 ≤ left3 r (T k) (U k) (V k) → (T k).len ≤ 1048576 ∧ (U k).len ≤ 1048576 ∧ (V k).len ≤ 1048576 ∧ left3 r (T k) (U k) (V k) ≤ 1048576) := by
        intro h
        have := left3_pos (by omega : ¬ left3 r (T k) (U k) (V k) < 0)
        omega
      generalize left3 r (T k) (U k) (V k) = q at *
      obtain ⟨⟨x0, x1, x2, x3⟩, ⟨x4, x5, x6, x7⟩, ⟨x8, x9, xa, xb⟩⟩ := hx
      go_wp2_with fail
      refine (Z _).mono ?_
      rintro e w2 ⟨rfl, hb2⟩
      clear x0 x1 x2 x3 x4 x5 x6 x7 x8 x9 xa xb
      by_cases hq : q < 0
      · go_wp2
        go_ret
        exact ⟨⟨-1, rfl, by omega, fun h => absurd (by omega) h, fun _ => rfl⟩, bl_trans hb hb2⟩
      · have Z2 := Z1.out (by omega)
        clear Z
        go_wp2
        go_roundw
        case rel =>
          refine ⟨k + 1, q, by omega, by go_num, rfl, by omega, by omega, bl_trans hb hb2, fun i hi => ?_⟩
          by_cases e : i = k
          · subst e; exact ⟨by omega, by omega, by omega⟩
          · exact HH.out i (by omega)
        case measure => simp [intOf]; omega
    · obtain rfl : k = n := by omega
      go_wp2
      go_ret
      exact ⟨⟨r, rfl, hr1, fun _ => ⟨by omega, HH.out⟩, fun h => by omega⟩, hb⟩
end Go.Proofs.YtdcaicoomldmgaaGreatDoor

/- GraC -/
namespace Go.Proofs.YtdcaicoomldmgaaGreatDoor
open Go.RowKit Go.Deep

/-- All of the first N places of block g are there. -/
def Ex (w : World) (g N : Nat) : Prop := ∀ j, j < N → ∃ v, w.cell? ⟨g, j, none⟩ = some v
theorem Ex.set {w : World} {g N i : Nat} {v : Value} (h : Ex w g N) : Ex (w.setCell ⟨g, i, none⟩ v) g N := by
  intro j hj
  obtain ⟨u, hu⟩ := h j hj
  by_cases e : j = i
  · subst e; exact ⟨v, set_same hu⟩
  · exact ⟨u, by rw [set_other e]; exact hu⟩
theorem Ex.put {w : World} {g N i0 i1 i2 i3 : Nat} {x : Tm} (h : Ex w g N) : Ex (put4 w g i0 i1 i2 i3 x) g N := (((h.set).set).set).set
theorem Ex.below {w w' : World} {g N : Nat} (h : Ex w g N) (hg : g < w.heap.size) (hb : Below w.heap.size w w') : Ex w' g N := fun j hj => by
  obtain ⟨u, hu⟩ := h j hj
  exact ⟨u, (hb.cell (p := ⟨g, j, none⟩) hg).trans hu⟩
/-- .. and may be written. -/
def Wr (w : World) (g N : Nat) : Prop := ∀ j, j < N → w.frozen? ⟨g, j, none⟩ = false
theorem Wr.put {w : World} {g N i0 i1 i2 i3 : Nat} {x : Tm} (h : Wr w g N) : Wr (put4 w g i0 i1 i2 i3 x) g N := fun j hj => by simp [put4, h j hj]
theorem Wr.below {w w' : World} {g N : Nat} (h : Wr w g N) (hg : g < w.heap.size) (hb : Below w.heap.size w w') : Wr w' g N := fun j hj => (hb.frozen (p := ⟨g, j, none⟩) hg).trans (h j hj)

/-- A triple written at place o. -/
def put12 (w : World) (g o : Nat) (t u v : Tm) : World := put4 (put4 (put4 w g o (o + 1) (o + 2) (o + 3) t) g (o + 4) (o + 5) (o + 6) (o + 7) u) g (o + 8) (o + 9) (o + 10) (o + 11) v
theorem put12_size {w : World} {g o : Nat} {t u v : Tm} : (put12 w g o t u v).heap.size = w.heap.size := by simp [put12, put4]
theorem put12_other {w : World} {g o j : Nat} {t u v : Tm} (h : j < o ∨ o + 12 ≤ j) : (put12 w g o t u v).cell? ⟨g, j, none⟩ = w.cell? ⟨g, j, none⟩ := by
  unfold put12 put4
  rw [set_other (by omega), set_other (by omega), set_other (by omega), set_other (by omega), set_other (by omega), set_other (by omega), set_other (by omega), set_other (by omega), set_other (by omega), set_other (by omega), set_other (by omega), set_other (by omega)]
theorem Row12.put_other {w : World} {g o o' : Nat} {t u v t' u' v' : Tm} (h : Row12 w g o' t' u' v') (hne : o' + 12 ≤ o ∨ o + 12 ≤ o') : Row12 (put12 w g o t u v) g o' t' u' v' := by
  unfold Row12
  rw [put12_other (by omega), put12_other (by omega), put12_other (by omega), put12_other (by omega), put12_other (by omega), put12_other (by omega), put12_other (by omega), put12_other (by omega), put12_other (by omega), put12_other (by omega), put12_other (by omega), put12_other (by omega)]
  exact h
theorem put4_at {w : World} {g o : Nat} {t : Tm} {N : Nat} (h : Ex w g N) (ho : o + 3 < N) :
    (put4 w g o (o + 1) (o + 2) (o + 3) t).cell? ⟨g, o, none⟩ = some (.int .i64 t.k) ∧ (put4 w g o (o + 1) (o + 2) (o + 3) t).cell? ⟨g, o + 1, none⟩ = some (.slice t.a t.len t.cap) ∧ (put4 w g o (o + 1) (o + 2) (o + 3) t).cell? ⟨g, o + 2, none⟩ = some (.int .i64 t.n) ∧ (put4 w g o (o + 1) (o + 2) (o + 3) t).cell? ⟨g, o + 3, none⟩ = some (.int .i64 t.s) := by
  unfold put4
  refine ⟨?_, ?_, ?_, ?_⟩
  · obtain ⟨u, hu⟩ := h o (by omega)
    rw [set_other (by omega), set_other (by omega), set_other (by omega)]
    exact set_same hu
  · obtain ⟨u, hu⟩ := h.set (i := o) (v := .int .i64 t.k) (o + 1) (by omega)
    rw [set_other (by omega), set_other (by omega)]
    exact set_same hu
  · obtain ⟨u, hu⟩ := (h.set (i := o) (v := .int .i64 t.k)).set (i := o + 1) (v := .slice t.a t.len t.cap) (o + 2) (by omega)
    rw [set_other (by omega)]
    exact set_same hu
  · obtain ⟨u, hu⟩ := ((h.set (i := o) (v := .int .i64 t.k)).set (i := o + 1) (v := .slice t.a t.len t.cap)).set (i := o + 2) (v := .int .i64 t.n) (o + 3) (by omega)
    exact set_same hu
theorem put4_off {w : World} {g o i0 i1 i2 i3 : Nat} {t : Tm} (h : o ≠ i0 ∧ o ≠ i1 ∧ o ≠ i2 ∧ o ≠ i3) : (put4 w g i0 i1 i2 i3 t).cell? ⟨g, o, none⟩ = w.cell? ⟨g, o, none⟩ := by
  unfold put4
  rw [set_other h.2.2.2, set_other h.2.2.1, set_other h.2.1, set_other h.1]
theorem Row12.put {w : World} {g o N : Nat} {t u v : Tm} (h : Ex w g N) (ho : o + 12 ≤ N) : Row12 (put12 w g o t u v) g o t u v := by
  unfold Row12 put12
  have h1 := h.put (i0 := o) (i1 := o + 1) (i2 := o + 2) (i3 := o + 3) (x := t)
  have h2 := h1.put (i0 := o + 4) (i1 := o + 5) (i2 := o + 6) (i3 := o + 7) (x := u)
  have a1 := put4_at (t := t) h (show o + 3 < N by omega)
  have a2 := put4_at (t := u) (o := o + 4) h1 (show o + 4 + 3 < N by omega)
  have a3 := put4_at (t := v) (o := o + 8) h2 (show o + 8 + 3 < N by omega)
  refine ⟨⟨?_, ?_, ?_, ?_⟩, ⟨?_, ?_, ?_, ?_⟩, ⟨?_, ?_, ?_, ?_⟩⟩
  · rw [put4_off (by omega), put4_off (by omega)]; exact a1.1
  · rw [put4_off (by omega), put4_off (by omega)]; exact a1.2.1
  · rw [put4_off (by omega), put4_off (by omega)]; exact a1.2.2.1
  · rw [put4_off (by omega), put4_off (by omega)]; exact a1.2.2.2
  · rw [put4_off (by omega)]; exact a2.1
  · rw [put4_off (by omega)]; exact a2.2.1
  · rw [put4_off (by omega)]; exact a2.2.2.1
  · rw [put4_off (by omega)]; exact a2.2.2.2
  · exact a3.1
  · exact a3.2.1
  · exact a3.2.2.1
  · exact a3.2.2.2
theorem Ex.put12 {w : World} {g N o : Nat} {t u v : Tm} (h : Ex w g N) : Ex (put12 w g o t u v) g N := ((h.put).put).put
theorem Wr.put12 {w : World} {g N o : Nat} {t u v : Tm} (h : Wr w g N) : Wr (put12 w g o t u v) g N := ((h.put).put).put
theorem Bs.put12 {w : World} {g len : Nat} {bs : List Int} {c o : Nat} {t u v : Tm} (h : Bs w (some ⟨g, 0, none⟩) len bs) (hne : g ≠ c) : Bs (put12 w c o t u v) (some ⟨g, 0, none⟩) len bs := ((h.put hne).put hne).put hne
theorem OwnT.put12 {w : World} {g len : Nat} {bs : List Int} {c o : Nat} {t u v : Tm} (h : OwnT w g len bs) (hne : g ≠ c) : OwnT (put12 w c o t u v) g len bs := ((h.put hne).put hne).put hne
theorem put12_below {B : Nat} {w0 w : World} {b o : Nat} {t u v : Tm} (h : Below B w0 w) (hb : B ≤ b) : Below B w0 (put12 w b o t u v) := put4_below (put4_below (put4_below h hb) hb) hb

theorem Tryz.info110 : (Tryz.prog.info? 110).map (fun i => (i.zero, i.size, i.bytes)) = some (some (.agg #[.int .i64 0, .slice none 0 0, .int .i64 0, .int .i64 0, .int .i64 0, .slice none 0 0, .int .i64 0, .int .i64 0, .int .i64 0, .slice none 0 0, .int .i64 0, .int .i64 0]), 12, 144) := by kernel_rfl

theorem run_make_triples (n : Nat) (hn : n ≤ 1048576) (w : World) :
    (Instr.makeSlice 32 (.int .i64 (n : Int)) (.int .i64 (n : Int))).run Tryz.prog w = .ok (.slice (some ⟨w.heap.size, 0, none⟩) n n) (w.alloc (.cells (madeCells #[.int .i64 0, .slice none 0 0, .int .i64 0, .int .i64 0, .int .i64 0, .slice none 0 0, .int .i64 0, .int .i64 0, .int .i64 0, .slice none 0 0, .int .i64 0, .int .i64 0] (n * 12)) 110)) := by
  obtain ⟨i, hi, hzz⟩ := Option.map_eq_some_iff.1 Tryz.info110
  simp only [Prod.mk.injEq] at hzz
  obtain ⟨hz, hs, hb⟩ := hzz
  have hr := run_make (P := Tryz.prog) w 32 110 i _ Tryz.underlying32 hi hz .i64 .i64 n n (by omega) (Int.le_refl _) (by rw [hb]; omega) (by omega)
  simp only [Int.toNat_natCast, hs, Value.cells] at hr
  exact hr

/-- A row of triples of the call's own, its texts too. -/
structure Copied (w : World) (g n : Nat) (T U V : Nat → Tm) (bt bu bv : Nat → List Int) (G1 G2 G3 : Nat → Nat) : Prop where
  row : ∀ i, i < n → Row12 w g (i * 12) ((T i).own (G1 i)) ((U i).own (G2 i)) ((V i).own (G3 i))
  t1 : ∀ i, i < n → OwnT w (G1 i) (T i).len (bt i)
  t2 : ∀ i, i < n → OwnT w (G2 i) (U i).len (bu i)
  t3 : ∀ i, i < n → OwnT w (G3 i) (V i).len (bv i)
  g1 : ∀ i, i < n → g < G1 i
  g2 : ∀ i, i < n → g < G2 i
  g3 : ∀ i, i < n → g < G3 i
  wr : Wr w g (n * 12)
theorem Copied.b1 {w : World} {g n : Nat} {T U V : Nat → Tm} {bt bu bv : Nat → List Int} {G1 G2 G3 : Nat → Nat} (h : Copied w g n T U V bt bu bv G1 G2 G3) : ∀ i, i < n → Bs w (some ⟨G1 i, 0, none⟩) (T i).len (bt i) := fun i hi => (h.t1 i hi).1
theorem Copied.b2 {w : World} {g n : Nat} {T U V : Nat → Tm} {bt bu bv : Nat → List Int} {G1 G2 G3 : Nat → Nat} (h : Copied w g n T U V bt bu bv G1 G2 G3) : ∀ i, i < n → Bs w (some ⟨G2 i, 0, none⟩) (U i).len (bu i) := fun i hi => (h.t2 i hi).1
theorem Copied.b3 {w : World} {g n : Nat} {T U V : Nat → Tm} {bt bu bv : Nat → List Int} {G1 G2 G3 : Nat → Nat} (h : Copied w g n T U V bt bu bv G1 G2 G3) : ∀ i, i < n → Bs w (some ⟨G3 i, 0, none⟩) (V i).len (bv i) := fun i hi => (h.t3 i hi).1
theorem Copied.below {w w' : World} {g n : Nat} {T U V : Nat → Tm} {bt bu bv : Nat → List Int} {G1 G2 G3 : Nat → Nat} (h : Copied w g n T U V bt bu bv G1 G2 G3) (hg : g < w.heap.size) (hb : Below w.heap.size w w') : Copied w' g n T U V bt bu bv G1 G2 G3 :=
  ⟨fun i hi => (h.row i hi).of_block (hb.block g hg), fun i hi => (h.t1 i hi).below hb, fun i hi => (h.t2 i hi).below hb, fun i hi => (h.t3 i hi).below hb, h.g1, h.g2, h.g3, h.wr.below hg hb⟩
theorem Copied.step {w : World} {g k n : Nat} {T U V : Nat → Tm} {bt bu bv : Nat → List Int} {G1 G2 G3 : Nat → Nat} {a b c : Nat} (h : Copied w g k T U V bt bu bv G1 G2 G3) (hE : Ex w g (n * 12)) (hW : Wr w g (n * 12)) (hk : k < n)
    (ha : OwnT w a (T k).len (bt k)) (hb : OwnT w b (U k).len (bu k)) (hc : OwnT w c (V k).len (bv k)) (la : g < a) (lb : g < b) (lc : g < c) :
    Copied (put12 w g (k * 12) ((T k).own a) ((U k).own b) ((V k).own c)) g (k + 1) T U V bt bu bv (fun i => if i = k then a else G1 i) (fun i => if i = k then b else G2 i) (fun i => if i = k then c else G3 i) := by
  have hi' : ∀ i, i < k + 1 → i ≠ k → i < k := fun i h1 h2 => by omega
  refine ⟨fun i hi => ?_, fun i hi => ?_, fun i hi => ?_, fun i hi => ?_, fun i hi => ?_, fun i hi => ?_, fun i hi => ?_, fun j hj => hW.put12 j (by omega)⟩
  · by_cases e : i = k
    · subst e; simp only [if_true]; exact Row12.put hE (by omega)
    · simp only [if_neg e]; exact (h.row i (hi' i hi e)).put_other (by omega)
  · by_cases e : i = k
    · subst e; simp only [if_true]; exact ha.put12 (by omega)
    · simp only [if_neg e]; exact (h.t1 i (hi' i hi e)).put12 (by have := h.g1 i (hi' i hi e); omega)
  · by_cases e : i = k
    · subst e; simp only [if_true]; exact hb.put12 (by omega)
    · simp only [if_neg e]; exact (h.t2 i (hi' i hi e)).put12 (by have := h.g2 i (hi' i hi e); omega)
  · by_cases e : i = k
    · subst e; simp only [if_true]; exact hc.put12 (by omega)
    · simp only [if_neg e]; exact (h.t3 i (hi' i hi e)).put12 (by have := h.g3 i (hi' i hi e); omega)
  · by_cases e : i = k
    · subst e; simp only [if_true]; exact la
    · simp only [if_neg e]; exact h.g1 i (hi' i hi e)
  · by_cases e : i = k
    · subst e; simp only [if_true]; exact lb
    · simp only [if_neg e]; exact h.g2 i (hi' i hi e)
  · by_cases e : i = k
    · subst e; simp only [if_true]; exact lc
    · simp only [if_neg e]; exact h.g3 i (hi' i hi e)
end Go.Proofs.YtdcaicoomldmgaaGreatDoor
