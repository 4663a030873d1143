/- toTripleS walked. -/
import Derived.Test.YtmpiadlmkeimdaaDoorGraC
namespace Go.Proofs.YtmpiadlmkeimdaaDoor
open Go.RowKit Go.Deep

/-- What copying answers. -/
def CopyRes (w : World) (n : Nat) (T U V : Nat → Tm) (bt bu bv : Nat → List Int) (e : Ending) (w' : World) : Prop :=
  e = .returned (.slice (some ⟨w.heap.size, 0, none⟩) n n) ∧ w.heap.size < w'.heap.size ∧ ∃ G1 G2 G3, Copied w' w.heap.size n T U V bt bu bv G1 G2 G3

theorem toTripleS_any (a : Option Addr) (n cap : Nat) (T U V : Nat → Tm) (bt bu bv : Nat → List Int) (w : World) (hn : n ≤ 1048576) (hR : Rows w a n T U V) (h1 : Texts w n T bt) (h2 : Texts w n U bu) (h3 : Texts w n V bv) :
    Calls Tryd.prog 32 #[.slice a n cap] w fun e w' => CopyRes w n T U V bt bu bv e w' ∧ Below w.heap.size w w' := by
  have hmk := run_make_triples n hn
  by_cases hn0 : n = 0
  · subst hn0
    have hmk0 : ∀ w, (Instr.makeSlice 40 (.int .i64 0) (.int .i64 0)).run Tryd.prog w = .ok (.slice (some ⟨w.heap.size, 0, none⟩) 0 0) (w.alloc (.cells (madeCells #[.int .i64 0, .slice none 0 0, .int .i64 0, .int .i64 0, .int .i64 0, .slice none 0 0, .int .i64 0, .int .i64 0, .int .i64 0, .slice none 0 0, .int .i64 0, .int .i64 0] 0) 59)) := fun w => by simpa using hmk w
    clear hmk h1 h2 h3 hR
    go_enter Tryd.func32, Tryd.ntmps32
    go_wp2
    refine wp_loop_rounds 1 ?_
    rw [rounds_succ]
    go_wp2
    go_ret
    exact ⟨⟨rfl, by simp, fun _ => 0, fun _ => 0, fun _ => 0, ⟨fun i hi => by omega, fun i hi => by omega, fun i hi => by omega, fun i hi => by omega, fun i hi => by omega, fun i hi => by omega, fun i hi => by omega, fun j hj => by omega⟩⟩, bl_a _⟩
  obtain ⟨b, off, rfl, hlt, hc⟩ := hR.resolve_left hn0
  have HC : Hid (∀ i, i < n → Row12 w b (off + i * 12) (T i) (U i) (V i)) := hc
  have H1 : Hid (Texts w n T bt) := h1
  have H2 : Hid (Texts w n U bu) := h2
  have H3 : Hid (Texts w n V bv) := h3
  clear hR hc h1 h2 h3
  go_enter Tryd.func32, Tryd.ntmps32
  go_wp2
  go_loopw [4] (fun i wr => ∃ (k : Nat), k ≤ n ∧ i = .int .i64 k ∧ Below w.heap.size w wr ∧ w.heap.size < wr.heap.size ∧ Hid (Ex wr w.heap.size (n * 12)) ∧ Hid (Wr wr w.heap.size (n * 12)) ∧ Hid (∃ G1 G2 G3, Copied wr w.heap.size k T U V bt bu bv G1 G2 G3))
    (fun i _ => n - (intOf i).toNat)
  case atStart =>
    refine ⟨0, Nat.zero_le _, rfl, bl_a _, by simp, ?_, ?_, fun _ => 0, fun _ => 0, fun _ => 0, ⟨fun i hi => by omega, fun i hi => by omega, fun i hi => by omega, fun i hi => by omega, fun i hi => by omega, fun i hi => by omega, fun i hi => by omega, fun j hj => by omega⟩⟩
    · intro j hj
      obtain ⟨v, hv⟩ : ∃ v, (madeCells #[.int .i64 0, .slice none 0 0, .int .i64 0, .int .i64 0, .int .i64 0, .slice none 0 0, .int .i64 0, .int .i64 0, .int .i64 0, .slice none 0 0, .int .i64 0, .int .i64 0] (n * 12))[j]? = some v := ⟨_, Array.getElem?_eq_getElem (by rw [size_madeCells]; exact hj)⟩
      exact ⟨v, by simp [go_sem, hv]⟩
    · intro j hj
      simp [go_sem]
  case round =>
    obtain ⟨k, hk, rfl, hb, hsz, HE, HW, HG⟩ := hrel
    by_cases hlk : k < n
    · have hx := (HC.out k hlk).of_block (hb.block b hlt)
      have To := fun (w' : World) (hq : Below w.heap.size w w') => toTriple_new (T k) (U k) (V k) (bt k) (bu k) (bv k) w' ((H1.out k hlk).below hq) ((H2.out k hlk).below hq) ((H3.out k hlk).below hq)
      clear hmk
      obtain ⟨⟨x0, x1, x2, x3⟩, ⟨x4, x5, x6, x7⟩, ⟨x8, x9, xa, xb⟩⟩ := hx
      go_wp2_with fail
      refine (To _ hb).mono ?_
      rintro e w2 ⟨g1, g2, g3, rfl, i1, i2, i3, l1, l2, l3, hb2⟩
      clear x0 x1 x2 x3 x4 x5 x6 x7 x8 x9 xa xb To
      have hE2 := HE.out.below hsz hb2
      have hW2 := HW.out.below hsz hb2
      have hC2 : ∃ G1 G2 G3, Copied w2 w.heap.size k T U V bt bu bv G1 G2 G3 := by
        obtain ⟨G1, G2, G3, hC⟩ := HG.out
        exact ⟨G1, G2, G3, hC.below hsz hb2⟩
      have HE2 : Hid (Ex w2 w.heap.size (n * 12)) := hE2
      have HW2 : Hid (Wr w2 w.heap.size (n * 12)) := hW2
      have HC2 : Hid (∃ G1 G2 G3, Copied w2 w.heap.size k T U V bt bu bv G1 G2 G3) := hC2
      have hs2 := hb2.size
      clear HE HW HG hC2
      obtain ⟨e0, he0⟩ := hE2 (k * 12) (by omega)
      have hf0 := hW2 (k * 12) (by omega)
      obtain ⟨e1, he1⟩ := hE2 (k * 12 + 1) (by omega)
      have hf1 := hW2 (k * 12 + 1) (by omega)
      obtain ⟨e2, he2⟩ := hE2 (k * 12 + 2) (by omega)
      have hf2 := hW2 (k * 12 + 2) (by omega)
      obtain ⟨e3, he3⟩ := hE2 (k * 12 + 3) (by omega)
      have hf3 := hW2 (k * 12 + 3) (by omega)
      obtain ⟨e4, he4⟩ := hE2 (k * 12 + 4) (by omega)
      have hf4 := hW2 (k * 12 + 4) (by omega)
      obtain ⟨e5, he5⟩ := hE2 (k * 12 + 5) (by omega)
      have hf5 := hW2 (k * 12 + 5) (by omega)
      obtain ⟨e6, he6⟩ := hE2 (k * 12 + 6) (by omega)
      have hf6 := hW2 (k * 12 + 6) (by omega)
      obtain ⟨e7, he7⟩ := hE2 (k * 12 + 7) (by omega)
      have hf7 := hW2 (k * 12 + 7) (by omega)
      obtain ⟨e8, he8⟩ := hE2 (k * 12 + 8) (by omega)
      have hf8 := hW2 (k * 12 + 8) (by omega)
      obtain ⟨e9, he9⟩ := hE2 (k * 12 + 9) (by omega)
      have hf9 := hW2 (k * 12 + 9) (by omega)
      obtain ⟨e10, he10⟩ := hE2 (k * 12 + 10) (by omega)
      have hf10 := hW2 (k * 12 + 10) (by omega)
      obtain ⟨e11, he11⟩ := hE2 (k * 12 + 11) (by omega)
      have hf11 := hW2 (k * 12 + 11) (by omega)
      clear hE2 hW2
      go_wp2_with fail
      go_roundw
      case rel =>
        refine ⟨k + 1, by omega, by go_num, ?_, ?_, ?_, ?_, ?_⟩
        · exact (put12_below (bl_trans hb hb2) (Nat.le_refl _) : Below _ w (put12 w2 w.heap.size (k * 12) ((T k).own g1) ((U k).own g2) ((V k).own g3)))
        · have : w.heap.size < ((put12 w2 w.heap.size (k * 12) ((T k).own g1) ((U k).own g2) ((V k).own g3))).heap.size := by rw [put12_size]; omega
          exact this
        · exact (HE2.out.put12 : Ex (put12 w2 w.heap.size (k * 12) ((T k).own g1) ((U k).own g2) ((V k).own g3)) w.heap.size (n * 12))
        · exact (HW2.out.put12 : Wr (put12 w2 w.heap.size (k * 12) ((T k).own g1) ((U k).own g2) ((V k).own g3)) w.heap.size (n * 12))
        · obtain ⟨G1, G2, G3, hC⟩ := HC2.out
          exact ⟨_, _, _, hC.step HE2.out HW2.out hlk i1 i2 i3 (by omega) (by omega) (by omega)⟩
      case measure => simp [intOf]; omega
    · obtain rfl : k = n := by omega
      clear hmk
      go_wp2
      go_ret
      exact ⟨⟨rfl, hsz, HG.out⟩, hb⟩
end Go.Proofs.YtmpiadlmkeimdaaDoor
