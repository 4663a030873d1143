/- Texts put together: GraD GraE -/
import Derived.Test.YtdcaicoomldmgaaGreatDoorMk11
/- GraD -/
namespace Go.Proofs.YtdcaicoomldmgaaGreatDoor
open Go.RowKit Go.Deep

/-- What copying answers. -/
def CopyRes (w : World) (n : Nat) (T U V : Nat → Tm) (bt bu bv : Nat → List Int) (e : Ending) (w' : World) : Prop :=
  e = .returned (.slice (some ⟨w.heap.size, 0, none⟩) n n) ∧ w.heap.size < w'.heap.size ∧ ∃ G1 G2 G3, Copied w' w.heap.size n T U V bt bu bv G1 G2 G3

theorem toTripleS_any (a : Option Addr) (n cap : Nat) (T U V : Nat → Tm) (bt bu bv : Nat → List Int) (w : World) (hn : n ≤ 1048576) (hR : Rows w a n T U V) (h1 : Texts w n T bt) (h2 : Texts w n U bu) (h3 : Texts w n V bv) :
    Calls Tryz.prog 36 #[.slice a n cap] w fun e w' => CopyRes w n T U V bt bu bv e w' ∧ Below w.heap.size w w' := by
  have hmk := run_make_triples n hn
  by_cases hn0 : n = 0
  · subst hn0
    have hmk0 : ∀ w, (Instr.makeSlice 32 (.int .i64 0) (.int .i64 0)).run Tryz.prog w = .ok (.slice (some ⟨w.heap.size, 0, none⟩) 0 0) (w.alloc (.cells (madeCells #[.int .i64 0, .slice none 0 0, .int .i64 0, .int .i64 0, .int .i64 0, .slice none 0 0, .int .i64 0, .int .i64 0, .int .i64 0, .slice none 0 0, .int .i64 0, .int .i64 0] 0) 110)) := fun w => by simpa using hmk w
    clear hmk h1 h2 h3 hR
    go_enter Tryz.func36, Tryz.ntmps36
    go_wp2
    refine wp_loop_rounds 1 ?_
    rw [rounds_succ]
    go_wp2
    go_ret
    exact ⟨⟨rfl, by simp, fun _ => 0, fun _ => 0, fun _ => 0, ⟨fun i hi => by omega, fun i hi => by omega, fun i hi => by omega, fun i hi => by omega, fun i hi => by omega, fun i hi => by omega, fun i hi => by omega, fun j hj => by omega⟩⟩, bl_a _⟩
  obtain ⟨b, off, rfl, hlt, hc⟩ := hR.resolve_left hn0
  have HC : Hid (∀ i, i < n → Row12 w b (off + i * 12) (T i) (U i) (V i)) := hc
  have H1 : Hid (Texts w n T bt) := h1
  have H2 : Hid (Texts w n U bu) := h2
  have H3 : Hid (Texts w n V bv) := h3
  clear hR hc h1 h2 h3
  go_enter Tryz.func36, Tryz.ntmps36
  go_wp2
  go_loopw [4] (fun i wr => ∃ (k : Nat), k ≤ n ∧ i = .int .i64 k ∧ Below w.heap.size w wr ∧ w.heap.size < wr.heap.size ∧ Hid (Ex wr w.heap.size (n * 12)) ∧ Hid (Wr wr w.heap.size (n * 12)) ∧ Hid (∃ G1 G2 G3, Copied wr w.heap.size k T U V bt bu bv G1 G2 G3))
    (fun i _ => n - (intOf i).toNat)
  case atStart =>
    refine ⟨0, Nat.zero_le _, rfl, bl_a _, by simp, ?_, ?_, fun _ => 0, fun _ => 0, fun _ => 0, ⟨fun i hi => by omega, fun i hi => by omega, fun i hi => by omega, fun i hi => by omega, fun i hi => by omega, fun i hi => by omega, fun i hi => by omega, fun j hj => by omega⟩⟩
    · intro j hj
      obtain ⟨v, hv⟩ : ∃ v, (madeCells #[.int .i64 0, .slice none 0 0, .int .i64 0, .int .i64 0, .int .i64 0, .slice none 0 0, .int .i64 0, .int .i64 0, .int .i64 0, .slice none 0 0, .int .i64 0, .int .i64 0] (n * 12))[j]? = some v := ⟨_, Array.getElem?_eq_getElem (by rw [size_madeCells]; exact hj)⟩
      exact ⟨v, by simp [go_sem, hv]⟩
    · intro j hj
      simp [go_sem]
  case round =>
    obtain ⟨k, hk, rfl, hb, hsz, HE, HW, HG⟩ := hrel
    by_cases hlk : k < n
    · have hx := (HC.out k hlk).of_block (hb.block b hlt)
      have To := fun (w' : World) (hq : Below w.heap.size w w') => toTriple_new (T k) (U k) (V k) (bt k) (bu k) (bv k) w' ((H1.out k hlk).below hq) ((H2.out k hlk).below hq) ((H3.out k hlk).below hq)
      clear hmk
      obtain ⟨⟨x0, x1, x2, x3⟩, ⟨x4, x5, x6, x7⟩, ⟨x8, x9, xa, xb⟩⟩ := hx
      go_wp2_with fail
      refine (To _ hb).mono ?_
      rintro e w2 ⟨g1, g2, g3, rfl, i1, i2, i3, l1, l2, l3, hb2⟩
      clear x0 x1 x2 x3 x4 x5 x6 x7 x8 x9 xa xb To
      have hE2 := HE.out.below hsz hb2
      have hW2 := HW.out.below hsz hb2
      have hC2 : ∃ G1 G2 G3, Copied w2 w.heap.size k T U V bt bu bv G1 G2 G3 := by
        obtain ⟨G1, G2, G3, hC⟩ := HG.out
        exact ⟨G1, G2, G3, hC.below hsz hb2⟩
      have HE2 : Hid (Ex w2 w.heap.size (n * 12)) := hE2
      have HW2 : Hid (Wr w2 w.heap.size (n * 12)) := hW2
      have HC2 : Hid (∃ G1 G2 G3, Copied w2 w.heap.size k T U V bt bu bv G1 G2 G3) := hC2
      have hs2 := hb2.size
      clear HE HW HG hC2
      obtain ⟨e0, he0⟩ := hE2 (k * 12) (by omega)
      have hf0 := hW2 (k * 12) (by omega)
      obtain ⟨e1, he1⟩ := hE2 (k * 12 + 1) (by omega)
      have hf1 := hW2 (k * 12 + 1) (by omega)
      obtain ⟨e2, he2⟩ := hE2 (k * 12 + 2) (by omega)
      have hf2 := hW2 (k * 12 + 2) (by omega)
      obtain ⟨e3, he3⟩ := hE2 (k * 12 + 3) (by omega)
      have hf3 := hW2 (k * 12 + 3) (by omega)
      obtain ⟨e4, he4⟩ := hE2 (k * 12 + 4) (by omega)
      have hf4 := hW2 (k * 12 + 4) (by omega)
      obtain ⟨e5, he5⟩ := hE2 (k * 12 + 5) (by omega)
      have hf5 := hW2 (k * 12 + 5) (by omega)
      obtain ⟨e6, he6⟩ := hE2 (k * 12 + 6) (by omega)
      have hf6 := hW2 (k * 12 + 6) (by omega)
      obtain ⟨e7, he7⟩ := hE2 (k * 12 + 7) (by omega)
      have hf7 := hW2 (k * 12 + 7) (by omega)
      obtain ⟨e8, he8⟩ := hE2 (k * 12 + 8) (by omega)
      have hf8 := hW2 (k * 12 + 8) (by omega)
      obtain ⟨e9, he9⟩ := hE2 (k * 12 + 9) (by omega)
      have hf9 := hW2 (k * 12 + 9) (by omega)
      obtain ⟨e10, he10⟩ := hE2 (k * 12 + 10) (by omega)
      have hf10 := hW2 (k * 12 + 10) (by omega)
      obtain ⟨e11, he11⟩ := hE2 (k * 12 + 11) (by omega)
      have hf11 := hW2 (k * 12 + 11) (by omega)
      clear hE2 hW2
      go_wp2_with fail
      go_roundw
      case rel =>
        refine ⟨k + 1, by omega, by go_num, ?_, ?_, ?_, ?_, ?_⟩
        · exact (put12_below (bl_trans hb hb2) (Nat.le_refl _) : Below _ w (put12 w2 w.heap.size (k * 12) ((T k).own g1) ((U k).own g2) ((V k).own g3)))
        · have : w.heap.size < ((put12 w2 w.heap.size (k * 12) ((T k).own g1) ((U k).own g2) ((V k).own g3))).heap.size := by rw [put12_size]; omega
          exact this
        · exact (HE2.out.put12 : Ex (put12 w2 w.heap.size (k * 12) ((T k).own g1) ((U k).own g2) ((V k).own g3)) w.heap.size (n * 12))
        · exact (HW2.out.put12 : Wr (put12 w2 w.heap.size (k * 12) ((T k).own g1) ((U k).own g2) ((V k).own g3)) w.heap.size (n * 12))
        · obtain ⟨G1, G2, G3, hC⟩ := HC2.out
          exact ⟨_, _, _, hC.step HE2.out HW2.out hlk i1 i2 i3 (by omega) (by omega) (by omega)⟩
      case measure => simp [intOf]; omega
    · obtain rfl : k = n := by omega
      clear hmk
      go_wp2
      go_ret
      exact ⟨⟨rfl, hsz, HG.out⟩, hb⟩
end Go.Proofs.YtdcaicoomldmgaaGreatDoor

/- GraE -/
namespace Go.Proofs.YtdcaicoomldmgaaGreatDoor
open Go.RowKit Go.Deep

theorem Copied.set {w : World} {g n c i : Nat} {x : Value} {T U V : Nat → Tm} {bt bu bv : Nat → List Int} {G1 G2 G3 : Nat → Nat} (h : Copied w g n T U V bt bu bv G1 G2 G3) (hc : c < g) : Copied (w.setCell ⟨c, i, none⟩ x) g n T U V bt bu bv G1 G2 G3 := by
  have hB : But c w (w.setCell ⟨c, i, none⟩ x) := (But.refl c w).set i x
  exact ⟨fun j hj => (h.row j hj).of_block (hB.block g (by omega)), fun j hj => (h.t1 j hj).but hB (by have := h.g1 j hj; omega), fun j hj => (h.t2 j hj).but hB (by have := h.g2 j hj; omega), fun j hj => (h.t3 j hj).but hB (by have := h.g3 j hj; omega), h.g1, h.g2, h.g3, fun j hj => by rw [hB.frozen (p := ⟨g, j, none⟩) (by show g ≠ c; omega)]; exact h.wr j hj⟩
theorem Copied.rows {w : World} {g n : Nat} {T U V : Nat → Tm} {bt bu bv : Nat → List Int} {G1 G2 G3 : Nat → Nat} (h : Copied w g n T U V bt bu bv G1 G2 G3) (hg : g < w.heap.size) :
    Rows w (some ⟨g, 0, none⟩) n (fun i => (T i).own (G1 i)) (fun i => (U i).own (G2 i)) (fun i => (V i).own (G3 i)) :=
  .inr ⟨g, 0, rfl, hg, fun i hi => by rw [Nat.zero_add]; exact h.row i hi⟩

theorem szGraph_any (a : Option Addr) (n cap : Nat) (T U V : Nat → Tm) (l : Int) (w : World) (h1 : 0 ≤ l) (h2 : l ≤ 1048576) (hn : n ≤ 9223372036854775807) (hR : Rows w a n T U V)
    (lt : ∀ i, i < n → (T i).len ≤ 9223372036854775807) (lu : ∀ i, i < n → (U i).len ≤ 9223372036854775807) (lv : ∀ i, i < n → (V i).len ≤ 9223372036854775807) :
    Calls Tryz.prog 7 #[.agg #[.slice a n cap], .int .i64 l] w fun e w' => SzRes n T U V e ∧ Below w.heap.size w w' := by
  have Z := fun w hR => szTripleS_any a n cap T U V l w h1 h2 hn hR lt lu lv
  have HR : Hid (Rows w a n T U V) := hR
  clear lt lu lv hR
  go_enter Tryz.func7, Tryz.ntmps7
  go_wp2_with fail
  refine (Z _ (HR.out.below (bl_a _))).mono ?_
  rintro e w1 ⟨⟨r, rfl, hr, hs, hm⟩, hb1⟩
  clear Z
  have HS : Hid (¬ r < 0 → n ≤ 1048576 ∧ ∀ i, i < n → (T i).len ≤ 1048576 ∧ (U i).len ≤ 1048576 ∧ (V i).len ≤ 1048576) := hs
  clear hs
  by_cases hr0 : r < 0
  · have hm := hm hr0
    go_wp2
    go_ret
    exact ⟨⟨-1, rfl, by omega, fun h => absurd (by omega) h, fun _ => rfl⟩, bl_trans (bl_a _) hb1⟩
  · clear hm
    go_wp2
    go_ret
    exact ⟨⟨r, rfl, hr, fun h => HS.out (by omega), fun h => by omega⟩, bl_trans (bl_a _) hb1⟩

/-- What copying a graph answers. -/
def CopyG (w : World) (n : Nat) (T U V : Nat → Tm) (bt bu bv : Nat → List Int) (e : Ending) (w' : World) : Prop :=
  ∃ g, e = .returned (.agg #[.slice (some ⟨g, 0, none⟩) n n]) ∧ w.heap.size ≤ g ∧ g < w'.heap.size ∧ ∃ G1 G2 G3, Copied w' g n T U V bt bu bv G1 G2 G3

theorem toGraph_any (a : Option Addr) (n cap : Nat) (T U V : Nat → Tm) (bt bu bv : Nat → List Int) (w : World) (hn : n ≤ 1048576) (hR : Rows w a n T U V) (h1 : Texts w n T bt) (h2 : Texts w n U bu) (h3 : Texts w n V bv) :
    Calls Tryz.prog 9 #[.agg #[.slice a n cap]] w fun e w' => CopyG w n T U V bt bu bv e w' ∧ Below w.heap.size w w' := by
  have To := fun (w' : World) (hq : Below w.heap.size w w') => toTripleS_any a n cap T U V bt bu bv w' hn (hR.below hq) (h1.below hq) (h2.below hq) (h3.below hq)
  clear h1 h2 h3 hR
  go_enter Tryz.func9, Tryz.ntmps9
  go_wp2_with fail
  refine (To _ (bl_alloc (bl_alloc (bl_a _) _) _)).mono ?_
  rintro e w1 ⟨⟨rfl, hs1, hC⟩, hb1⟩
  have HC : Hid (∃ G1 G2 G3, Copied w1 _ n T U V bt bu bv G1 G2 G3) := hC
  have hR1 : w1.cell? ⟨w.heap.size + 1, 0, none⟩ = some (.slice none 0 0) := (hb1.cell (p := ⟨w.heap.size + 1, 0, none⟩) (by simp)).trans (by simp [go_sem])
  have hO1 : w1.cell? ⟨w.heap.size + 1 + 1, 0, none⟩ = some (.slice none 0 0) := (hb1.cell (p := ⟨w.heap.size + 1 + 1, 0, none⟩) (by simp)).trans (by simp [go_sem])
  have fR1 : w1.frozen? ⟨w.heap.size + 1, 0, none⟩ = false := (hb1.frozen (p := ⟨w.heap.size + 1, 0, none⟩) (by simp)).trans (by simp [go_sem])
  have fO1 : w1.frozen? ⟨w.heap.size + 1 + 1, 0, none⟩ = false := (hb1.frozen (p := ⟨w.heap.size + 1 + 1, 0, none⟩) (by simp)).trans (by simp [go_sem])
  have hw1 := bl_trans (bl_alloc (bl_alloc (bl_a _) _) _) hb1
  simp at hs1
  clear To hC hb1
  go_wp2
  refine bodyPost_ret (v := .agg #[.slice (some ⟨w.heap.size + 1 + 1 + 1, 0, none⟩) n n]) (by simp [results, Tryz.results9, go_sem, *]) rfl ⟨⟨_, rfl, by omega, ?_, ?_⟩, ?_⟩
  · simp
    omega
  · obtain ⟨G1, G2, G3, hC⟩ := HC.out
    simp at hC
    exact ⟨G1, G2, G3, (hC.set (by omega)).set (by omega)⟩
  · exact bl_set (bl_set hw1 (by dsimp only; omega) _) (by dsimp only; omega) _

theorem eqGraph_like (a a' : Option Addr) (n cap cap' : Nat) (T U V T' U' V' : Nat → Tm) (bt bu bv : Nat → List Int) (w : World) (hn : n ≤ 1048576)
    (hR : Rows w a n T U V) (hR' : Rows w a' n T' U' V') (h1 : Texts w n T bt) (h2 : Texts w n U bu) (h3 : Texts w n V bv) (h1' : Texts w n T' bt) (h2' : Texts w n U' bu) (h3' : Texts w n V' bv)
    (l1 : ∀ i, i < n → (T i).like (T' i)) (l2 : ∀ i, i < n → (U i).like (U' i)) (l3 : ∀ i, i < n → (V i).like (V' i)) :
    Calls Tryz.prog 12 #[.agg #[.slice a n cap], .agg #[.slice a' n cap']] w fun e w' => e = .returned (.bool true) ∧ Below w.heap.size w w' := by
  have E := fun (w' : World) (hq : Below w.heap.size w w') => eqTripleS_like a a' n cap cap' T U V T' U' V' bt bu bv w' hn (hR.below hq) (hR'.below hq) (h1.below hq) (h2.below hq) (h3.below hq) (h1'.below hq) (h2'.below hq) (h3'.below hq) l1 l2 l3
  clear h1 h2 h3 h1' h2' h3' hR hR' l1 l2 l3
  go_enter Tryz.func12, Tryz.ntmps12
  go_wp2_with fail
  refine (E _ (bl_alloc (bl_a _) _)).mono ?_
  rintro e w1 ⟨rfl, hb1⟩
  go_wp2
  go_ret
  exact ⟨rfl, bl_trans (bl_alloc (bl_a _) _) hb1⟩
end Go.Proofs.YtdcaicoomldmgaaGreatDoor
