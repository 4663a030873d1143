/- Graphs: szGraph, toGraph, eqGraph. -/
import Derived.Test.YtmpiadlmkeimdaaDoorGraD
namespace Go.Proofs.YtmpiadlmkeimdaaDoor
open Go.RowKit Go.Deep

theorem Copied.set {w : World} {g n c i : Nat} {x : Value} {T U V : Nat → Tm} {bt bu bv : Nat → List Int} {G1 G2 G3 : Nat → Nat} (h : Copied w g n T U V bt bu bv G1 G2 G3) (hc : c < g) : Copied (w.setCell ⟨c, i, none⟩ x) g n T U V bt bu bv G1 G2 G3 := by
  have hB : But c w (w.setCell ⟨c, i, none⟩ x) := (But.refl c w).set i x
  exact ⟨fun j hj => (h.row j hj).of_block (hB.block g (by omega)), fun j hj => (h.t1 j hj).but hB (by have := h.g1 j hj; omega), fun j hj => (h.t2 j hj).but hB (by have := h.g2 j hj; omega), fun j hj => (h.t3 j hj).but hB (by have := h.g3 j hj; omega), h.g1, h.g2, h.g3, fun j hj => by rw [hB.frozen (p := ⟨g, j, none⟩) (by show g ≠ c; omega)]; exact h.wr j hj⟩
theorem Copied.rows {w : World} {g n : Nat} {T U V : Nat → Tm} {bt bu bv : Nat → List Int} {G1 G2 G3 : Nat → Nat} (h : Copied w g n T U V bt bu bv G1 G2 G3) (hg : g < w.heap.size) :
    Rows w (some ⟨g, 0, none⟩) n (fun i => (T i).own (G1 i)) (fun i => (U i).own (G2 i)) (fun i => (V i).own (G3 i)) :=
  .inr ⟨g, 0, rfl, hg, fun i hi => by rw [Nat.zero_add]; exact h.row i hi⟩

theorem szGraph_any (a : Option Addr) (n cap : Nat) (T U V : Nat → Tm) (l : Int) (w : World) (h1 : 0 ≤ l) (h2 : l ≤ 1048576) (hn : n ≤ 9223372036854775807) (hR : Rows w a n T U V)
    (lt : ∀ i, i < n → (T i).len ≤ 9223372036854775807) (lu : ∀ i, i < n → (U i).len ≤ 9223372036854775807) (lv : ∀ i, i < n → (V i).len ≤ 9223372036854775807) :
    Calls Tryd.prog 14 #[.agg #[.slice a n cap], .int .i64 l] w fun e w' => SzRes n T U V e ∧ Below w.heap.size w w' := by
  have Z := fun w hR => szTripleS_any a n cap T U V l w h1 h2 hn hR lt lu lv
  have HR : Hid (Rows w a n T U V) := hR
  clear lt lu lv hR
  go_enter Tryd.func14, Tryd.ntmps14
  go_wp2_with fail
  refine (Z _ (HR.out.below (bl_a _))).mono ?_
  rintro e w1 ⟨⟨r, rfl, hr, hs, hm⟩, hb1⟩
  clear Z
  have HS : Hid (¬ r < 0 → n ≤ 1048576 ∧ ∀ i, i < n → (T i).len ≤ 1048576 ∧ (U i).len ≤ 1048576 ∧ (V i).len ≤ 1048576) := hs
  clear hs
  by_cases hr0 : r < 0
  · have hm := hm hr0
    go_wp2
    go_ret
    exact ⟨⟨-1, rfl, by omega, fun h => absurd (by omega) h, fun _ => rfl⟩, bl_trans (bl_a _) hb1⟩
  · clear hm
    go_wp2
    go_ret
    exact ⟨⟨r, rfl, hr, fun h => HS.out (by omega), fun h => by omega⟩, bl_trans (bl_a _) hb1⟩

/-- What copying a graph answers. -/
def CopyG (w : World) (n : Nat) (T U V : Nat → Tm) (bt bu bv : Nat → List Int) (e : Ending) (w' : World) : Prop :=
  ∃ g, e = .returned (.agg #[.slice (some ⟨g, 0, none⟩) n n]) ∧ w.heap.size ≤ g ∧ g < w'.heap.size ∧ ∃ G1 G2 G3, Copied w' g n T U V bt bu bv G1 G2 G3

theorem toGraph_any (a : Option Addr) (n cap : Nat) (T U V : Nat → Tm) (bt bu bv : Nat → List Int) (w : World) (hn : n ≤ 1048576) (hR : Rows w a n T U V) (h1 : Texts w n T bt) (h2 : Texts w n U bu) (h3 : Texts w n V bv) :
    Calls Tryd.prog 16 #[.agg #[.slice a n cap]] w fun e w' => CopyG w n T U V bt bu bv e w' ∧ Below w.heap.size w w' := by
  have To := fun (w' : World) (hq : Below w.heap.size w w') => toTripleS_any a n cap T U V bt bu bv w' hn (hR.below hq) (h1.below hq) (h2.below hq) (h3.below hq)
  clear h1 h2 h3 hR
  go_enter Tryd.func16, Tryd.ntmps16
  go_wp2_with fail
  refine (To _ (bl_alloc (bl_alloc (bl_a _) _) _)).mono ?_
  rintro e w1 ⟨⟨rfl, hs1, hC⟩, hb1⟩
  have HC : Hid (∃ G1 G2 G3, Copied w1 _ n T U V bt bu bv G1 G2 G3) := hC
  have hR1 : w1.cell? ⟨w.heap.size + 1, 0, none⟩ = some (.slice none 0 0) := (hb1.cell (p := ⟨w.heap.size + 1, 0, none⟩) (by simp)).trans (by simp [go_sem])
  have hO1 : w1.cell? ⟨w.heap.size + 1 + 1, 0, none⟩ = some (.slice none 0 0) := (hb1.cell (p := ⟨w.heap.size + 1 + 1, 0, none⟩) (by simp)).trans (by simp [go_sem])
  have fR1 : w1.frozen? ⟨w.heap.size + 1, 0, none⟩ = false := (hb1.frozen (p := ⟨w.heap.size + 1, 0, none⟩) (by simp)).trans (by simp [go_sem])
  have fO1 : w1.frozen? ⟨w.heap.size + 1 + 1, 0, none⟩ = false := (hb1.frozen (p := ⟨w.heap.size + 1 + 1, 0, none⟩) (by simp)).trans (by simp [go_sem])
  have hw1 := bl_trans (bl_alloc (bl_alloc (bl_a _) _) _) hb1
  simp at hs1
  clear To hC hb1
  go_wp2
  refine bodyPost_ret (v := .agg #[.slice (some ⟨w.heap.size + 1 + 1 + 1, 0, none⟩) n n]) (by simp [results, Tryd.results16, go_sem, *]) rfl ⟨⟨_, rfl, by omega, ?_, ?_⟩, ?_⟩
  · simp
    omega
  · obtain ⟨G1, G2, G3, hC⟩ := HC.out
    simp at hC
    exact ⟨G1, G2, G3, (hC.set (by omega)).set (by omega)⟩
  · exact bl_set (bl_set hw1 (by dsimp only; omega) _) (by dsimp only; omega) _

theorem eqGraph_like (a a' : Option Addr) (n cap cap' : Nat) (T U V T' U' V' : Nat → Tm) (bt bu bv : Nat → List Int) (w : World) (hn : n ≤ 1048576)
    (hR : Rows w a n T U V) (hR' : Rows w a' n T' U' V') (h1 : Texts w n T bt) (h2 : Texts w n U bu) (h3 : Texts w n V bv) (h1' : Texts w n T' bt) (h2' : Texts w n U' bu) (h3' : Texts w n V' bv)
    (l1 : ∀ i, i < n → (T i).like (T' i)) (l2 : ∀ i, i < n → (U i).like (U' i)) (l3 : ∀ i, i < n → (V i).like (V' i)) :
    Calls Tryd.prog 18 #[.agg #[.slice a n cap], .agg #[.slice a' n cap']] w fun e w' => e = .returned (.bool true) ∧ Below w.heap.size w w' := by
  have E := fun (w' : World) (hq : Below w.heap.size w w') => eqTripleS_like a a' n cap cap' T U V T' U' V' bt bu bv w' hn (hR.below hq) (hR'.below hq) (h1.below hq) (h2.below hq) (h3.below hq) (h1'.below hq) (h2'.below hq) (h3'.below hq) l1 l2 l3
  clear h1 h2 h3 h1' h2' h3' hR hR' l1 l2 l3
  go_enter Tryd.func18, Tryd.ntmps18
  go_wp2_with fail
  refine (E _ (bl_alloc (bl_a _) _)).mono ?_
  rintro e w1 ⟨rfl, hb1⟩
  go_wp2
  go_ret
  exact ⟨rfl, bl_trans (bl_alloc (bl_a _) _) hb1⟩
end Go.Proofs.YtmpiadlmkeimdaaDoor
