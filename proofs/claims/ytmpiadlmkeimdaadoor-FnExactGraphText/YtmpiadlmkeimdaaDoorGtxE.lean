/- The law FnExactGraphText, walked. -/
import Derived.Test.YtmpiadlmkeimdaaDoorGtxC
import Derived.Test.YtmpiadlmkeimdaaDoorGtxD
import Derived.Test.YtmpiadlmkeimdaaDoorShwK
namespace Go.Proofs.YtmpiadlmkeimdaaDoor
open Go.RowKit Go.Deep
set_option maxRecDepth 100000

theorem specGraphText_any (a : Option Addr) (n cap : Nat) (T U V : Nat → Tm) (bt bu bv : Nat → List Int) (w : World) (hn : n ≤ 1048576) (hf : AllFit n T U V) (hR : Rows w a n T U V) (h1 : Texts w n T bt) (h2 : Texts w n U bu) (h3 : Texts w n V bv) :
    Calls Tryd.prog 15 #[.agg #[.slice a n cap]] w fun e w' => GtRes w (graphOk n T U V bt bu bv) (textL n T U V bt bu bv) e w' := by
  have O := fun (w' : World) (hq : Below w.heap.size w w') => specGraphOk_any a n cap T U V bt bu bv w' hn hf (hR.below hq) (h1.below hq) (h2.below hq) (h3.below hq)
  cases hok : graphOk n T U V bt bu bv
  · have e : textL n T U V bt bu bv = [] := by simp [textL, hok]
    rw [e]
    rw [hok] at O
    clear hR h1 h2 h3 hf
    go_enter Tryd.func15, Tryd.ntmps15
    go_wp2_with fail
    refine (O _ (bl_a _)).mono ?_
    rintro e w1 ⟨rfl, hb1⟩
    have HB1 : Hid (Below w.heap.size w w1) := bl_trans (bl_a _) hb1
    clear hb1 O
    go_wp2_with fail
    go_ret2
    exact ⟨none, 0, rfl, Nw.nil _ _, HB1.out⟩
  · have e : textL n T U V bt bu bv = linesL T U V bt bu bv n := by simp [textL, hok]
    rw [e]
    rw [hok] at O
    obtain ⟨hn60, hst⟩ := graphOk_out hok
    have X := fun (w' : World) (hq : Below w.heap.size w w') => l2text_any a n cap T U V bt bu bv w' hn60 (hR.below hq) (h1.below hq) (h2.below hq) (h3.below hq) hst
    clear hR h1 h2 h3 hf hok e hst
    generalize linesL T U V bt bu bv n = L at *
    go_enter Tryd.func15, Tryd.ntmps15
    go_wp2_with fail
    refine (O _ (bl_a _)).mono ?_
    rintro e w1 ⟨rfl, hb1⟩
    have hB1 := bl_trans (bl_a _) hb1
    have hbox : w1.cell? ⟨w.heap.size, 0, none⟩ = some (.slice a n cap) := (hb1.cell (p := ⟨w.heap.size, 0, none⟩) (by simp)).trans (by simp [go_sem])
    clear hb1 O
    go_wp2_with fail
    refine (X _ hB1).mono ?_
    intro e w2 hR
    have hR' := hR.later hB1
    clear hR X
    obtain ⟨x, cp, rfl, hr, hb⟩ := hR'
    have HR : Hid (Nw w2 w.heap.size x L.length L) := hr
    have HB : Hid (Below w.heap.size w w2) := hb
    clear hr hb
    go_wp2_with fail
    go_ret2
    exact ⟨x, cp, rfl, HR.out, HB.out⟩

theorem linesL_own (n : Nat) (T U V : Nat → Tm) (bt bu bv : Nat → List Int) (G1 G2 G3 : Nat → Nat) : linesL (fun i => (T i).own (G1 i)) (fun i => (U i).own (G2 i)) (fun i => (V i).own (G3 i)) bt bu bv n = linesL T U V bt bu bv n := by
  induction n with
  | zero => rfl
  | succ n ih =>
    simp only [linesL]
    rw [ih]
    rfl
theorem graphOk_own' (n : Nat) (T U V : Nat → Tm) (bt bu bv : Nat → List Int) (G1 G2 G3 : Nat → Nat) : graphOk n (fun i => (T i).own (G1 i)) (fun i => (U i).own (G2 i)) (fun i => (V i).own (G3 i)) bt bu bv = graphOk n T U V bt bu bv := rfl
theorem textL_own (n : Nat) (T U V : Nat → Tm) (bt bu bv : Nat → List Int) (G1 G2 G3 : Nat → Nat) : textL n (fun i => (T i).own (G1 i)) (fun i => (U i).own (G2 i)) (fun i => (V i).own (G3 i)) bt bu bv = textL n T U V bt bu bv := by
  unfold textL
  rw [linesL_own, graphOk_own']

theorem Nw.mid {w w' : World} {B C B' len : Nat} {a : Option Addr} {bs : List Int} (h : Nw w B' a len bs) (hm : Mid B C w w') (hC : C ≤ B') : Nw w' B' a len bs := by
  rcases h with h | ⟨g, ha, hB, ho1, ho2, ho3, ho4⟩
  · exact .inl h
  · have hb : w'.heap[g]? = w.heap[g]? := hm.block g (.inr (by omega))
    have ec : ∀ j, w'.cell? ⟨g, j, none⟩ = w.cell? ⟨g, j, none⟩ := fun j => World.cell?_of_block (w := w) (a := ⟨g, j, none⟩) hb
    have ef : ∀ j, w'.frozen? ⟨g, j, none⟩ = w.frozen? ⟨g, j, none⟩ := fun j => World.frozen?_of_block (w := w) (a := ⟨g, j, none⟩) hb
    refine .inr ⟨g, ha, hB, ⟨ho1.1, ho1.2.1, ho1.2.2.1, ?_⟩, by rw [hm.size]; exact ho2, fun i hi => by rw [ec]; exact ho3 i hi, fun i hi => by rw [ef]; exact ho4 i hi⟩
    rcases ho1.2.2.2 with h0 | ⟨b, off, hq, hlt, hc⟩
    · exact .inl h0
    · cases hq
      exact .inr ⟨g, 0, rfl, by rw [hm.size]; exact hlt, fun i hi => by rw [ec]; exact hc i hi⟩

/-- A copy may be marked. -/
theorem Copied.marks {w w' : World} {B g n : Nat} {T U V : Nat → Tm} {bt bu bv : Nat → List Int} {G1 G2 G3 : Nat → Nat} (h : Copied w g n T U V bt bu bv G1 G2 G3) (hB : B ≤ g) (hg : g < w.heap.size) (hb : Below w.heap.size w w') :
    Mk w' B w.heap.size g n G1 G2 G3 (fun i => (T i).len) (fun i => (U i).len) (fun i => (V i).len) := by
  have h' := h.below hg hb
  refine ⟨fun j hj => ?_, h'.wr, fun i hi => (h'.row i hi).1.2.1, fun i hi => (h'.row i hi).2.1.2.1, fun i hi => (h'.row i hi).2.2.2.1, fun i hi j hj => ⟨(h'.t1 i hi).2.2.1 j hj, (h'.t1 i hi).2.2.2 j hj⟩, fun i hi j hj => ⟨(h'.t2 i hi).2.2.1 j hj, (h'.t2 i hi).2.2.2 j hj⟩, fun i hi j hj => ⟨(h'.t3 i hi).2.2.1 j hj, (h'.t3 i hi).2.2.2 j hj⟩,
    fun i hi => ⟨h.g1 i hi, (h.t1 i hi).2.1, (h.t1 i hi).1.2.1⟩, fun i hi => ⟨h.g2 i hi, (h.t2 i hi).2.1, (h.t2 i hi).1.2.1⟩, fun i hi => ⟨h.g3 i hi, (h.t3 i hi).2.1, (h.t3 i hi).1.2.1⟩, hB, hg⟩
  have hi : j / 12 < n := by omega
  obtain ⟨⟨x0, x1, x2, x3⟩, ⟨x4, x5, x6, x7⟩, ⟨x8, x9, xa, xb⟩⟩ := h'.row (j / 12) hi
  have hj12 : j = j / 12 * 12 + j % 12 := by omega
  have hlt : j % 12 < 12 := Nat.mod_lt _ (by omega)
  generalize j / 12 * 12 = o at *
  generalize j % 12 = c at *
  subst hj12
  rcases (by omega : c = 0 ∨ c = 1 ∨ c = 2 ∨ c = 3 ∨ c = 4 ∨ c = 5 ∨ c = 6 ∨ c = 7 ∨ c = 8 ∨ c = 9 ∨ c = 10 ∨ c = 11) with rfl | rfl | rfl | rfl | rfl | rfl | rfl | rfl | rfl | rfl | rfl | rfl
  · exact ⟨_, x0⟩
  · exact ⟨_, x1⟩
  · exact ⟨_, x2⟩
  · exact ⟨_, x3⟩
  · exact ⟨_, x4⟩
  · exact ⟨_, x5⟩
  · exact ⟨_, x6⟩
  · exact ⟨_, x7⟩
  · exact ⟨_, x8⟩
  · exact ⟨_, x9⟩
  · exact ⟨_, xa⟩
  · exact ⟨_, xb⟩
theorem box_keep {w w' : World} {b : Nat} {v : Value} (h : w.cell? ⟨b, 0, none⟩ = some v ∧ b < w.heap.size) (hb : Below w.heap.size w w') : w'.cell? ⟨b, 0, none⟩ = some v ∧ b < w'.heap.size :=
  ⟨(hb.cell (p := ⟨b, 0, none⟩) h.2).trans h.1, Nat.lt_of_lt_of_le h.2 hb.size⟩

set_option maxHeartbeats 4000000 in
theorem walkGraphText (a : Option Addr) (n cap : Nat) (T U V : Nat → Tm) (bt bu bv : Nat → List Int) (w : World) (hnl : n ≤ 9223372036854775807) (hf : AllFit n T U V) (hR : Rows w a n T U V)
    (lt : ∀ i, i < n → (T i).len ≤ 9223372036854775807) (lu : ∀ i, i < n → (U i).len ≤ 9223372036854775807) (lv : ∀ i, i < n → (V i).len ≤ 9223372036854775807)
    (h1 : ∀ i, i < n → (T i).len ≤ 1048576 → Bs w (T i).a (T i).len (bt i)) (h2 : ∀ i, i < n → (U i).len ≤ 1048576 → Bs w (U i).a (U i).len (bu i)) (h3 : ∀ i, i < n → (V i).len ≤ 1048576 → Bs w (V i).a (V i).len (bv i)) (ht : Tab w) :
    Calls Tryd.prog 4 #[.agg #[.slice a n cap]] w fun e w' => e = .returned (.bool true) ∧ Below w.heap.size w w' := by
  have Z := fun (w' : World) (hq : Below w.heap.size w w') => szGraph_any a n cap T U V 1048576 w' (by omega) (by omega) hnl (hR.below hq) lt lu lv
  have To : n ≤ 1048576 → (∀ i, i < n → (T i).len ≤ 1048576 ∧ (U i).len ≤ 1048576 ∧ (V i).len ≤ 1048576) → ∀ (w' : World), Below w.heap.size w w' → Calls Tryd.prog 16 #[.agg #[.slice a n cap]] w' fun e w'' => CopyG w' n T U V bt bu bv e w'' ∧ Below w'.heap.size w' w'' :=
    fun hn hs w' hq => toGraph_any a n cap T U V bt bu bv w' hn (hR.below hq) (fun i hi => (h1 i hi (hs i hi).1).below hq) (fun i hi => (h2 i hi (hs i hi).2.1).below hq) (fun i hi => (h3 i hi (hs i hi).2.2).below hq)
  obtain ⟨p, hp⟩ : ∃ p, p = graphOk n T U V bt bu bv := ⟨_, rfl⟩
  obtain ⟨L, hL⟩ : ∃ L, L = textL n T U V bt bu bv := ⟨_, rfl⟩
  have hlen : L.length ≤ 12000 := by rw [hL]; exact textL_len _ _ _ _ _ _ _
  have Sp : n ≤ 1048576 → ∀ (w : World) (g : Nat) (G1 G2 G3 : Nat → Nat), g < w.heap.size → Copied w g n T U V bt bu bv G1 G2 G3 → Calls Tryd.prog 15 #[.agg #[.slice (some ⟨g, 0, none⟩) n n]] w fun e w' => GtRes w p L e w' := by
    intro hn w g G1 G2 G3 hg hC
    subst hp hL
    have h := specGraphText_any (some ⟨g, 0, none⟩) n n (fun i => (T i).own (G1 i)) (fun i => (U i).own (G2 i)) (fun i => (V i).own (G3 i)) bt bu bv w hn (fun i hi => hf i hi) (hC.rows hg) hC.b1 hC.b2 hC.b3
    rw [textL_own, graphOk_own'] at h
    exact h
  have Im : n ≤ 1048576 → ∀ (w : World) (g : Nat) (G1 G2 G3 : Nat → Nat), g < w.heap.size → Copied w g n T U V bt bu bv G1 G2 G3 → Tab w → Calls Tryd.prog 17 #[.agg #[.slice (some ⟨g, 0, none⟩) n n]] w fun e w' => GtRes w p L e w' := by
    intro hn w g G1 G2 G3 hg hC hT
    subst hp hL
    have h := implGraphText_any (some ⟨g, 0, none⟩) n n (fun i => (T i).own (G1 i)) (fun i => (U i).own (G2 i)) (fun i => (V i).own (G3 i)) bt bu bv w hn (fun i hi => hf i hi) (hC.rows hg) hC.b1 hC.b2 hC.b3 hT
    rw [textL_own, graphOk_own'] at h
    exact h
  have Eq : n ≤ 1048576 → ∀ (w : World) (g g' : Nat) (G1 G2 G3 G1' G2' G3' : Nat → Nat), g < w.heap.size → Copied w g n T U V bt bu bv G1 G2 G3 → g' < w.heap.size → Copied w g' n T U V bt bu bv G1' G2' G3' →
      Calls Tryd.prog 18 #[.agg #[.slice (some ⟨g, 0, none⟩) n n], .agg #[.slice (some ⟨g', 0, none⟩) n n]] w fun e w' => e = .returned (.bool true) ∧ Below w.heap.size w w' := by
    intro hn w g g' G1 G2 G3 G1' G2' G3' hg hC hg' hC'
    exact eqGraph_like _ _ n n n _ _ _ _ _ _ bt bu bv w hn (hC.rows hg) (hC'.rows hg') hC.b1 hC.b2 hC.b3 hC'.b1 hC'.b2 hC'.b3 (fun _ _ => ⟨rfl, rfl, rfl⟩) (fun _ _ => ⟨rfl, rfl, rfl⟩) (fun _ _ => ⟨rfl, rfl, rfl⟩)
  have HTB : Hid (∀ w', Below w.heap.size w w' → Tab w') := fun w' h => ht.below h
  have HCP : Hid (∀ (w w' : World) (g : Nat) (G1 G2 G3 : Nat → Nat), g < w.heap.size → Copied w g n T U V bt bu bv G1 G2 G3 → Below w.heap.size w w' → Copied w' g n T U V bt bu bv G1 G2 G3) := fun w w' g G1 G2 G3 hg hC hb => hC.below hg hb
  clear hp hL hf hR lt lu lv h1 h2 h3 ht
  have HS : Hid _ := Sp
  have HI : Hid _ := Im
  have HE : Hid _ := Eq
  have HTo : Hid _ := To
  clear Sp Im Eq To
  go_enter Tryd.func4, Tryd.ntmps4
  go_wp2_with fail
  refine (Z _ (bl_a _)).mono ?_
  rintro e w1 ⟨⟨r, rfl, hr, hs, hm⟩, hb1⟩
  have hA1 : w1.cell? ⟨w.heap.size, 0, none⟩ = some (.slice a n cap) ∧ w.heap.size < w1.heap.size := box_keep ⟨by simp [go_sem], by simp⟩ hb1
  have hW1 := bl_trans (bl_a _) hb1
  clear hb1 Z
  by_cases hr0 : r < 0
  · clear hs hm
    go_wp2
    go_ret
    exact ⟨rfl, hW1⟩
  obtain ⟨hn, hs⟩ := hs hr0
  have To := HTo.out hn hs
  have Sp := HS.out hn
  have Im := HI.out hn
  have Eq := HE.out hn
  clear hs hm HTo HS HI HE
  obtain ⟨c0, c1⟩ := id hA1
  go_wp2_with fail
  refine (To _ hW1).mono ?_
  rintro e w2 ⟨⟨g2, rfl, _, hg2, G1, G2, G3, hC2⟩, hb2⟩
  clear c0 c1
  go_wp2_with fail
  refine (Sp _ _ _ _ _ hg2 hC2).mono ?_
  rintro e w3 ⟨a0, cp0, rfl, hN3, hb3⟩
  have hb := bl_trans hb2 hb3
  have HA3 : Hid (w3.cell? ⟨w.heap.size, 0, none⟩ = some (.slice a n cap) ∧ w.heap.size < w3.heap.size) := box_keep hA1 hb
  have HV3 : Hid (Bs w3 a0 L.length L) := hN3.bs
  have HW3 : Hid (Below w.heap.size w w3) := bl_trans hW1 hb
  clear hb hb2 hb3 hg2 hC2 hN3 hA1 hW1 Sp
  obtain ⟨c0, c1⟩ := id HA3.out
  go_wp2_with fail
  refine (To _ HW3.out).mono ?_
  rintro e w4 ⟨⟨g4, rfl, hg4, hg4', K1, K2, K3, hK4⟩, hb4⟩
  have hba : Below w4.heap.size w4 (w4.alloc (.cells #[.slice (some ⟨g4, 0, none⟩) n n] 42)) := bl_a _
  have HD5 : Hid (Below w3.heap.size w3 (w4.alloc (.cells #[.slice (some ⟨g4, 0, none⟩) n n] 42))) := bl_trans hb4 hba
  have HX5 : Hid ((w4.alloc (.cells #[.slice (some ⟨g4, 0, none⟩) n n] 42)).cell? ⟨w4.heap.size, 0, none⟩ = some (.slice (some ⟨g4, 0, none⟩) n n) ∧ w4.heap.size < (w4.alloc (.cells #[.slice (some ⟨g4, 0, none⟩) n n] 42)).heap.size) := ⟨by simp [go_sem], by simp⟩
  have HK4 : Hid (Copied w4 g4 n T U V bt bu bv K1 K2 K3) := hK4
  have hK5 := hK4.below hg4' hba
  have hg5 := Nat.lt_of_lt_of_le hg4' hba.size
  have HS5 : Hid ((w4.alloc (.cells #[.slice (some ⟨g4, 0, none⟩) n n] 42)).heap.size = w4.heap.size + 1) := by show _ = _; simp
  have HE5 : Hid (Below w4.heap.size w4 (w4.alloc (.cells #[.slice (some ⟨g4, 0, none⟩) n n] 42))) := hba
  have HT5 : Hid (Tab (w4.alloc (.cells #[.slice (some ⟨g4, 0, none⟩) n n] 42))) := HTB.out _ (bl_trans HW3.out HD5.out)
  clear hb4 hba hK4 c0 c1
  have hl34 : w3.heap.size ≤ w4.heap.size := by omega
  go_wp2_with fail
  refine (Im _ _ _ _ _ hg5 hK5 HT5.out).mono ?_
  rintro e w6 ⟨ag, cg, rfl, hN6, hb6⟩
  have HG6 : Hid (Nw w6 (w4.heap.size + 1) ag L.length L) := by rw [HS5.out] at hN6; exact hN6
  have HD6 : Hid (Below w3.heap.size w3 w6) := bl_trans HD5.out hb6
  have HE6 : Hid (Below w4.heap.size w4 w6) := bl_trans HE5.out hb6
  have HX6 : Hid (w6.cell? ⟨w4.heap.size, 0, none⟩ = some (.slice (some ⟨g4, 0, none⟩) n n) ∧ w4.heap.size < w6.heap.size) := box_keep HX5.out hb6
  clear hN6 hb6 HD5 HE5 HX5 HT5 HS5 hK5 hg5
  go_wp2_with fail
  refine (eqByteS_any ag a0 L.length L.length cg cp0 L L _ HG6.out.bs (HV3.out.below HD6.out)).mono ?_
  rintro e w7 ⟨rfl, q7, rfl⟩
  have HG7 : Hid (Nw (w6.drewN q7) (w4.heap.size + 1) ag L.length L) := HG6.out.below (bl_drewN q7)
  have HD7 : Hid (Below w3.heap.size w3 (w6.drewN q7)) := bl_trans HD6.out (bl_drewN q7)
  have HE7 : Hid (Below w4.heap.size w4 (w6.drewN q7)) := bl_trans HE6.out (bl_drewN q7)
  have HX7 : Hid ((w6.drewN q7).cell? ⟨w4.heap.size, 0, none⟩ = some (.slice (some ⟨g4, 0, none⟩) n n) ∧ w4.heap.size < (w6.drewN q7).heap.size) := box_keep HX6.out (bl_drewN q7)
  clear HG6 HD6 HE6 HX6
  generalize w6.drewN q7 = w7 at *
  have HA7 : Hid (w7.cell? ⟨w.heap.size, 0, none⟩ = some (.slice a n cap) ∧ w.heap.size < w7.heap.size) := box_keep HA3.out HD7.out
  have HK7 : Hid (Copied w7 g4 n T U V bt bu bv K1 K2 K3) := HCP.out _ _ _ _ _ _ hg4' HK4.out HE7.out
  have hg7 : g4 < w7.heap.size := Nat.lt_of_lt_of_le hg4' HE7.out.size
  have hW7 := bl_trans HW3.out HD7.out
  have HW7 : Hid (Below w.heap.size w w7) := hW7
  clear hW7
  obtain ⟨x0, x1⟩ := id HX7.out
  obtain ⟨y0, y1⟩ := id HA7.out
  go_wp2_with fail
  go_region_held3 (fun w' => w'.cell? ⟨w4.heap.size, 0, none⟩ = some (.slice (some ⟨g4, 0, none⟩) n n) ∧ w'.cell? ⟨w.heap.size, 0, none⟩ = some (.slice a n cap)) (simp [*, go_sem])
    (first
      | (go_at_call 16; refine (To _ (bl_trans HW7.out bl_drew0)).mono ?_; rintro e w8 ⟨⟨g8, rfl, _, hg8, M1, M2, M3, hM⟩, hb8⟩; have hb8 := bl_trans bl_drew0 hb8; have hX8 := box_keep HX7.out hb8; have hA8 := box_keep HA7.out hb8; have hK8 := HCP.out _ _ _ _ _ _ hg7 HK7.out hb8; have hg78 := Nat.lt_of_lt_of_le hg7 hb8.size; obtain ⟨x0, x1⟩ := id hX8; obtain ⟨y0, y1⟩ := id hA8)
      | (go_at_call 18; refine (Eq _ _ _ _ _ _ _ _ _ hg78 hK8 hg8 hM).mono ?_; rintro e w10 ⟨rfl, hbb⟩; have hb10 := bl_trans hb8 hbb; have hX10 := box_keep hX8 hbb; have hA10 := box_keep hA8 hbb; obtain ⟨x0, x1⟩ := id hX10; obtain ⟨y0, y1⟩ := id hA10))
  clear x0 x1 y0 y1
  have HG10 : Hid (Nw w10 (w4.heap.size + 1) ag L.length L) := HG7.out.below hb10
  have HD10 : Hid (Below w3.heap.size w3 w10) := bl_trans HD7.out hb10
  have HE10 : Hid (Below w4.heap.size w4 w10) := bl_trans HE7.out hb10
  have HX10 : Hid (w10.cell? ⟨w4.heap.size, 0, none⟩ = some (.slice (some ⟨g4, 0, none⟩) n n) ∧ w4.heap.size < w10.heap.size) := hX10
  clear hX10 hA10 hX8 hA8 hK8 hg78 hM hg8 hb8 hbb hb10 HG7 HD7 HE7 HX7 HA7 HK7 hg7 HW7 Eq
  obtain ⟨x0, x1⟩ := id HX10.out
  go_wp2_with fail
  refine (markGraph_any w3.heap.size w4.heap.size g4 n n K1 K2 K3 _ _ _ 1 _ hn (by omega) (by omega) (fun o => HK4.out.marks hg4 hg4' (bl_alloc HE10.out o))).mono ?_
  rintro e w11 ⟨q11, o11, rfl, hq11, hM11⟩
  have HD11 : Hid (Below w3.heap.size w3 w11) := (bl_alloc HD10.out o11).trans hM11.below
  have HG11 : Hid (Nw w11 (w4.heap.size + 1) ag L.length L) := (HG10.out.below (bl_a o11)).mid hM11 (by omega)
  have hs11 : w4.heap.size + 1 ≤ w11.heap.size := by rw [hM11.size]; simp; omega
  clear x0 x1 hM11 HD10 HG10 HE10 HX10
  have hk : ¬ (q11 < 0) := by omega
  go_wp2_with fail
  refine (eqByteS_any ag a0 L.length L.length cg cp0 L L _ HG11.out.bs (HV3.out.below HD11.out)).mono ?_
  rintro e w12 ⟨rfl, q12, rfl⟩
  have HG12 : Hid (Nw (w11.drewN q12) (w4.heap.size + 1) ag L.length L) := HG11.out.below (bl_drewN q12)
  have HD12 : Hid (Below w3.heap.size w3 (w11.drewN q12)) := bl_trans HD11.out (bl_drewN q12)
  clear HG11 HD11 hs11
  generalize w11.drewN q12 = w12 at *
  go_wp2_with fail
  refine (mark_nw ag L.length cg (w4.heap.size + 1) L 1 _ HG12.out (by omega) (by omega) (by omega)).mono ?_
  rintro e w13 ⟨rfl, hM, hb13, hz13⟩
  have HD13 : Hid (Below w3.heap.size w3 w13) := HD12.out.trans (hb13.mono (by omega))
  have HM13 : Hid (Marked w13 ag L.length 1) := hM
  clear hM hb13 hz13 HD12 HG12 hk
  go_wp2_with fail
  refine (held_any ag L.length cg 1 _ HM13.out (by omega) (by omega) (by omega)).mono ?_
  rintro e w13' ⟨rfl, rfl⟩
  obtain ⟨y0, y1⟩ := box_keep HA3.out HD13.out
  go_wp2_with fail
  refine (To _ (bl_trans HW3.out HD13.out)).mono ?_
  rintro e w14 ⟨⟨g14, rfl, _, hg14, N1, N2, N3, hN14⟩, hb14⟩
  have HD14 : Hid (Below w3.heap.size w3 w14) := bl_trans HD13.out hb14
  have HM14 : Hid (Marked w14 ag L.length 1) := HM13.out.below hb14
  clear y0 y1 hb14 HD13 HM13 To
  go_wp2_with fail
  refine (Im _ _ _ _ _ hg14 hN14 (HTB.out _ (bl_trans HW3.out HD14.out))).mono ?_
  rintro e w15 ⟨ah, ch, rfl, hN15, hb15⟩
  have HD15 : Hid (Below w3.heap.size w3 w15) := bl_trans HD14.out hb15
  have HM15 : Hid (Marked w15 ag L.length 1) := HM14.out.below hb15
  have HH15 : Hid (Bs w15 ah L.length L) := hN15.bs
  clear hN15 hb15 HD14 HM14 hN14 hg14 Im
  go_wp2_with fail
  refine (eqByteS_any ah a0 L.length L.length ch cp0 L L _ HH15.out (HV3.out.below HD15.out)).mono ?_
  rintro e w16 ⟨rfl, q16, rfl⟩
  have HD16 : Hid (Below w3.heap.size w3 (w15.drewN q16)) := bl_trans HD15.out (bl_drewN q16)
  have HM16 : Hid (Marked (w15.drewN q16) ag L.length 1) := HM15.out.below (bl_drewN q16)
  clear HD15 HM15 HH15
  generalize w15.drewN q16 = w16 at *
  go_wp2_with fail
  refine (held_any ag L.length cg 1 _ HM16.out (by omega) (by omega) (by omega)).mono ?_
  rintro e w16' ⟨rfl, rfl⟩
  go_wp2_with fail
  go_ret
  exact ⟨rfl, bl_trans HW3.out HD16.out⟩
end Go.Proofs.YtmpiadlmkeimdaaDoor
