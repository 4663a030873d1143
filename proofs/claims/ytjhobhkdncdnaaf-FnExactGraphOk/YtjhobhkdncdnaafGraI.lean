/- The law FnExactGraphOk walked. -/
import Derived.Test.YtjhobhkdncdnaafGraH
namespace Go.Proofs.Ytjhobhkdncdnaaf
open Go.RowKit Go.Deep

theorem graphOk_own (n : Nat) (T U V : Nat → Tm) (bt bu bv : Nat → List Int) (G1 G2 G3 : Nat → Nat) : graphOk n (fun i => (T i).own (G1 i)) (fun i => (U i).own (G2 i)) (fun i => (V i).own (G3 i)) bt bu bv = graphOk n T U V bt bu bv := rfl

set_option maxRecDepth 20000 in
set_option maxHeartbeats 4000000 in
theorem walkGraphOk (a : Option Addr) (n cap : Nat) (T U V : Nat → Tm) (bt bu bv : Nat → List Int) (w : World) (hnl : n ≤ 9223372036854775807) (hf : AllFit n T U V) (hR : Rows w a n T U V)
    (lt : ∀ i, i < n → (T i).len ≤ 9223372036854775807) (lu : ∀ i, i < n → (U i).len ≤ 9223372036854775807) (lv : ∀ i, i < n → (V i).len ≤ 9223372036854775807)
    (h1 : ∀ i, i < n → (T i).len ≤ 1048576 → Bs w (T i).a (T i).len (bt i)) (h2 : ∀ i, i < n → (U i).len ≤ 1048576 → Bs w (U i).a (U i).len (bu i)) (h3 : ∀ i, i < n → (V i).len ≤ 1048576 → Bs w (V i).a (V i).len (bv i)) :
    Calls Try.prog 4 #[.agg #[.slice a n cap]] w fun e w' => e = .returned (.bool true) ∧ Below w.heap.size w w' := by
  have Z := fun (w' : World) (hq : Below w.heap.size w w') => szGraph_any a n cap T U V 1048576 w' (by omega) (by omega) hnl (hR.below hq) lt lu lv
  have To : n ≤ 1048576 → (∀ i, i < n → (T i).len ≤ 1048576 ∧ (U i).len ≤ 1048576 ∧ (V i).len ≤ 1048576) → ∀ (w' : World), Below w.heap.size w w' → Calls Try.prog 13 #[.agg #[.slice a n cap]] w' fun e w'' => CopyG w' n T U V bt bu bv e w'' ∧ Below w'.heap.size w' w'' :=
    fun hn hs w' hq => toGraph_any a n cap T U V bt bu bv w' hn (hR.below hq) (fun i hi => (h1 i hi (hs i hi).1).below hq) (fun i hi => (h2 i hi (hs i hi).2.1).below hq) (fun i hi => (h3 i hi (hs i hi).2.2).below hq)
  obtain ⟨p, hp⟩ : ∃ p, p = graphOk n T U V bt bu bv := ⟨_, rfl⟩
  have Sp : n ≤ 1048576 → ∀ (w : World) (g : Nat) (G1 G2 G3 : Nat → Nat), g < w.heap.size → Copied w g n T U V bt bu bv G1 G2 G3 → Calls Try.prog 12 #[.agg #[.slice (some ⟨g, 0, none⟩) n n]] w fun e w' => e = .returned (.bool p) ∧ Below w.heap.size w w' := by
    intro hn w g G1 G2 G3 hg hC
    subst hp
    have h := specGraphOk_any (some ⟨g, 0, none⟩) n n (fun i => (T i).own (G1 i)) (fun i => (U i).own (G2 i)) (fun i => (V i).own (G3 i)) bt bu bv w hn (fun i hi => hf i hi) (hC.rows hg) hC.t1 hC.t2 hC.t3
    rw [graphOk_own] at h
    exact h
  have Im : n ≤ 1048576 → ∀ (w : World) (g : Nat) (G1 G2 G3 : Nat → Nat), g < w.heap.size → Copied w g n T U V bt bu bv G1 G2 G3 → Calls Try.prog 14 #[.agg #[.slice (some ⟨g, 0, none⟩) n n]] w fun e w' => e = .returned (.bool p) ∧ Below w.heap.size w w' := by
    intro hn w g G1 G2 G3 hg hC
    subst hp
    have h := implGraphOk_any (some ⟨g, 0, none⟩) n n (fun i => (T i).own (G1 i)) (fun i => (U i).own (G2 i)) (fun i => (V i).own (G3 i)) bt bu bv w hn (fun i hi => hf i hi) (hC.rows hg) hC.t1 hC.t2 hC.t3
    rw [graphOk_own] at h
    exact h
  have Eq : n ≤ 1048576 → ∀ (w : World) (g g' : Nat) (G1 G2 G3 G1' G2' G3' : Nat → Nat), g < w.heap.size → Copied w g n T U V bt bu bv G1 G2 G3 → g' < w.heap.size → Copied w g' n T U V bt bu bv G1' G2' G3' →
      Calls Try.prog 15 #[.agg #[.slice (some ⟨g, 0, none⟩) n n], .agg #[.slice (some ⟨g', 0, none⟩) n n]] w fun e w' => e = .returned (.bool true) ∧ Below w.heap.size w w' := by
    intro hn w g g' G1 G2 G3 G1' G2' G3' hg hC hg' hC'
    exact eqGraph_like _ _ n n n _ _ _ _ _ _ bt bu bv w hn (hC.rows hg) (hC'.rows hg') hC.t1 hC.t2 hC.t3 hC'.t1 hC'.t2 hC'.t3 (fun _ _ => ⟨rfl, rfl, rfl⟩) (fun _ _ => ⟨rfl, rfl, rfl⟩) (fun _ _ => ⟨rfl, rfl, rfl⟩)
  clear hp hf hR lt lu lv h1 h2 h3
  have HS : Hid (n ≤ 1048576 → ∀ (w : World) (g : Nat) (G1 G2 G3 : Nat → Nat), g < w.heap.size → Copied w g n T U V bt bu bv G1 G2 G3 → Calls Try.prog 12 #[.agg #[.slice (some ⟨g, 0, none⟩) n n]] w fun e w' => e = .returned (.bool p) ∧ Below w.heap.size w w') := Sp
  have HI : Hid (n ≤ 1048576 → ∀ (w : World) (g : Nat) (G1 G2 G3 : Nat → Nat), g < w.heap.size → Copied w g n T U V bt bu bv G1 G2 G3 → Calls Try.prog 14 #[.agg #[.slice (some ⟨g, 0, none⟩) n n]] w fun e w' => e = .returned (.bool p) ∧ Below w.heap.size w w') := Im
  have HE : Hid (n ≤ 1048576 → ∀ (w : World) (g g' : Nat) (G1 G2 G3 G1' G2' G3' : Nat → Nat), g < w.heap.size → Copied w g n T U V bt bu bv G1 G2 G3 → g' < w.heap.size → Copied w g' n T U V bt bu bv G1' G2' G3' →
      Calls Try.prog 15 #[.agg #[.slice (some ⟨g, 0, none⟩) n n], .agg #[.slice (some ⟨g', 0, none⟩) n n]] w fun e w' => e = .returned (.bool true) ∧ Below w.heap.size w w') := Eq
  have HTo : Hid (n ≤ 1048576 → (∀ i, i < n → (T i).len ≤ 1048576 ∧ (U i).len ≤ 1048576 ∧ (V i).len ≤ 1048576) → ∀ (w' : World), Below w.heap.size w w' → Calls Try.prog 13 #[.agg #[.slice a n cap]] w' fun e w'' => CopyG w' n T U V bt bu bv e w'' ∧ Below w'.heap.size w' w'') := To
  clear Sp Im Eq To
  go_enter Try.func4, Try.ntmps4
  go_wp2_with fail
  refine (Z _ (bl_a _)).mono ?_
  rintro e w1 ⟨⟨r, rfl, hr, hs, hm⟩, hb1⟩
  have hA : w1.cell? ⟨w.heap.size, 0, none⟩ = some (.slice a n cap) := (hb1.cell (p := ⟨w.heap.size, 0, none⟩) (by simp)).trans (by simp [go_sem])
  have hal : w.heap.size < w1.heap.size := Nat.lt_of_lt_of_le (by simp) hb1.size
  have hw := bl_trans (bl_a _) hb1
  clear hb1 Z
  by_cases hr0 : r < 0
  · clear hs hm
    go_wp2
    go_ret
    exact ⟨rfl, hw⟩
  obtain ⟨hn, hs⟩ := hs hr0
  have To := HTo.out hn hs
  have Sp := HS.out hn
  have Im := HI.out hn
  have Eq := HE.out hn
  clear hs hm HTo HS HI HE
  go_wp2_with fail
  refine (To _ hw).mono ?_
  rintro e w2 ⟨⟨g, rfl, _, hg, G1, G2, G3, hC⟩, hb2⟩
  replace hA := (hb2.cell (p := ⟨w.heap.size, 0, none⟩) hal).trans hA
  replace hal := Nat.lt_of_lt_of_le hal hb2.size
  replace hw := bl_trans hw hb2
  clear hb2
  go_wp2_with fail
  refine (Sp _ _ _ _ _ hg hC).mono ?_
  rintro e w3 ⟨rfl, hb3⟩
  replace hA := (hb3.cell (p := ⟨w.heap.size, 0, none⟩) hal).trans hA
  replace hal := Nat.lt_of_lt_of_le hal hb3.size
  replace hw := bl_trans hw hb3
  clear hb3 hg hC
  go_wp2_with fail
  refine (To _ hw).mono ?_
  rintro e w4 ⟨⟨g4, rfl, _, hg4, K1, K2, K3, hK⟩, hb4⟩
  have hba : Below w4.heap.size w4 (w4.alloc (.cells #[.slice (some ⟨g4, 0, none⟩) n n] 42)) := bl_a _
  have hX : (w4.alloc (.cells #[.slice (some ⟨g4, 0, none⟩) n n] 42)).cell? ⟨w4.heap.size, 0, none⟩ = some (.slice (some ⟨g4, 0, none⟩) n n) := by simp [go_sem]
  have hxl : w4.heap.size < (w4.alloc (.cells #[.slice (some ⟨g4, 0, none⟩) n n] 42)).heap.size := by simp
  replace hA := (hb4.cell (p := ⟨w.heap.size, 0, none⟩) hal).trans hA
  replace hal := Nat.lt_of_lt_of_le hal hb4.size
  replace hA := (hba.cell (p := ⟨w.heap.size, 0, none⟩) hal).trans hA
  replace hal := Nat.lt_of_lt_of_le hal hba.size
  replace hw := bl_trans (bl_trans hw hb4) hba
  replace hK := hK.below hg4 hba
  replace hg4 := Nat.lt_of_lt_of_le hg4 hba.size
  clear hb4 hba
  go_wp2_with fail
  refine (Im _ _ _ _ _ hg4 hK).mono ?_
  rintro e w5 ⟨rfl, hb5⟩
  replace hA := (hb5.cell (p := ⟨w.heap.size, 0, none⟩) hal).trans hA
  replace hal := Nat.lt_of_lt_of_le hal hb5.size
  replace hX := (hb5.cell (p := ⟨w4.heap.size, 0, none⟩) hxl).trans hX
  replace hxl := Nat.lt_of_lt_of_le hxl hb5.size
  replace hw := bl_trans hw hb5
  replace hK := hK.below hg4 hb5
  replace hg4 := Nat.lt_of_lt_of_le hg4 hb5.size
  clear hb5
  go_wp2_with fail
  go_region_held3 (fun w' => w'.cell? ⟨w4.heap.size, 0, none⟩ = some (.slice (some ⟨g4, 0, none⟩) n n) ∧ w'.cell? ⟨w.heap.size, 0, none⟩ = some (.slice a n cap)) (simp [*, go_sem])
    (first
      | (go_at_call 13; refine (To _ (bl_trans hw bl_drew0)).mono ?_; rintro e w6 ⟨⟨g6, rfl, _, hg6, L1, L2, L3, hL⟩, hb6⟩; have hb6 := bl_trans bl_drew0 hb6; have hA6 := (hb6.cell (p := ⟨w.heap.size, 0, none⟩) hal).trans hA; have hX6 := (hb6.cell (p := ⟨w4.heap.size, 0, none⟩) hxl).trans hX; have hK6 := hK.below hg4 hb6; have hg46 := Nat.lt_of_lt_of_le hg4 hb6.size; have hw6 := bl_trans hw hb6)
      | (go_at_call 15; refine (Eq _ _ _ _ _ _ _ _ _ hg46 hK6 hg6 hL).mono ?_; rintro e w7 ⟨rfl, hb7⟩; have hA7 := (hb7.cell (p := ⟨w.heap.size, 0, none⟩) (Nat.lt_of_lt_of_le hal hb6.size)).trans hA6; have hX7 := (hb7.cell (p := ⟨w4.heap.size, 0, none⟩) (Nat.lt_of_lt_of_le hxl hb6.size)).trans hX6))
  go_wp2
  go_ret
  exact ⟨rfl, bl_trans hw6 hb7⟩
end Go.Proofs.Ytjhobhkdncdnaaf
