/- Texts put together: DvStwF DvGraJ -/
import Derived.Test.YtdcaicoomldmgaaGreatDoorMkWb
import Derived.Test.YtdcaicoomldmgaaGreatDoorMk43
import Derived.Test.YtdcaicoomldmgaaGreatDoorMk35
import Derived.Deep.RegionHeld3
import Derived.Test.YtdcaicoomldmgaaGreatDoorMk13
import Derived.Test.YtdcaicoomldmgaaGreatDoorMk45
/- DvStwF -/
namespace Go.Proofs.YtdcaicoomldmgaaGreatDoor
open Go.RowKit Go.Deep
set_option maxRecDepth 100000

/-- A struct of two fields at the head of block b. -/
def Box2 (w : World) (b : Nat) (v0 v1 : Value) : Prop := w.cell? ⟨b, 0, none⟩ = some v0 ∧ w.cell? ⟨b, 1, none⟩ = some v1 ∧ b < w.heap.size
theorem Box2.below {w w' : World} {b : Nat} {v0 v1 : Value} (h : Box2 w b v0 v1) (hb : Below w.heap.size w w') : Box2 w' b v0 v1 :=
  ⟨(hb.cell (p := ⟨b, 0, none⟩) h.2.2).trans h.1, (hb.cell (p := ⟨b, 1, none⟩) h.2.2).trans h.2.1, Nat.lt_of_lt_of_le h.2.2 hb.size⟩
theorem Box2.new (w : World) (v0 v1 : Value) (t : TypeId) : Box2 (w.alloc (.cells #[v0, v1] t)) w.heap.size v0 v1 := by
  refine ⟨?_, ?_, by simp⟩ <;> simp [go_sem]
theorem Box2.mid {w w' : World} {b B C : Nat} {v0 v1 : Value} (h : Box2 w b v0 v1) (hm : Mid B C w w') (hb : b < B ∨ C ≤ b) : Box2 w' b v0 v1 :=
  ⟨(World.cell?_of_block (w := w) (a := ⟨b, 0, none⟩) (hm.block b hb)).trans h.1, (World.cell?_of_block (w := w) (a := ⟨b, 1, none⟩) (hm.block b hb)).trans h.2.1, by rw [hm.size]; exact h.2.2⟩
theorem box_keepS {w w' : World} {b : Nat} {v : Value} (h : w.cell? ⟨b, 0, none⟩ = some v ∧ b < w.heap.size) (hb : Below w.heap.size w w') : w'.cell? ⟨b, 0, none⟩ = some v ∧ b < w'.heap.size :=
  ⟨(hb.cell (p := ⟨b, 0, none⟩) h.2).trans h.1, Nat.lt_of_lt_of_le h.2 hb.size⟩
theorem cell_drewW {w : World} : Below w.heap.size w w.drew := Below.drew (Below.refl _ _)
theorem Copied.marksS {w w' : World} {B g n : Nat} {T U V : Nat → Tm} {bt bu bv : Nat → List Int} {G1 G2 G3 : Nat → Nat} (h : Copied w g n T U V bt bu bv G1 G2 G3) (hB : B ≤ g) (hg : g < w.heap.size) (hb : Below w.heap.size w w') :
    Mk w' B w.heap.size g n G1 G2 G3 (fun i => (T i).len) (fun i => (U i).len) (fun i => (V i).len) := by
  have h' := h.below hg hb
  refine ⟨fun j hj => ?_, h'.wr, fun i hi => (h'.row i hi).1.2.1, fun i hi => (h'.row i hi).2.1.2.1, fun i hi => (h'.row i hi).2.2.2.1, fun i hi j hj => ⟨(h'.t1 i hi).2.2.1 j hj, (h'.t1 i hi).2.2.2 j hj⟩, fun i hi j hj => ⟨(h'.t2 i hi).2.2.1 j hj, (h'.t2 i hi).2.2.2 j hj⟩, fun i hi j hj => ⟨(h'.t3 i hi).2.2.1 j hj, (h'.t3 i hi).2.2.2 j hj⟩,
    fun i hi => ⟨h.g1 i hi, (h.t1 i hi).2.1, (h.t1 i hi).1.2.1⟩, fun i hi => ⟨h.g2 i hi, (h.t2 i hi).2.1, (h.t2 i hi).1.2.1⟩, fun i hi => ⟨h.g3 i hi, (h.t3 i hi).2.1, (h.t3 i hi).1.2.1⟩, hB, hg⟩
  have hi : j / 12 < n := by omega
  obtain ⟨⟨x0, x1, x2, x3⟩, ⟨x4, x5, x6, x7⟩, ⟨x8, x9, xa, xb⟩⟩ := h'.row (j / 12) hi
  have hj12 : j = j / 12 * 12 + j % 12 := by omega
  have hlt : j % 12 < 12 := Nat.mod_lt _ (by omega)
  generalize j / 12 * 12 = o at *
  generalize j % 12 = c at *
  subst hj12
  rcases (by omega : c = 0 ∨ c = 1 ∨ c = 2 ∨ c = 3 ∨ c = 4 ∨ c = 5 ∨ c = 6 ∨ c = 7 ∨ c = 8 ∨ c = 9 ∨ c = 10 ∨ c = 11) with rfl | rfl | rfl | rfl | rfl | rfl | rfl | rfl | rfl | rfl | rfl | rfl
  · exact ⟨_, x0⟩
  · exact ⟨_, x1⟩
  · exact ⟨_, x2⟩
  · exact ⟨_, x3⟩
  · exact ⟨_, x4⟩
  · exact ⟨_, x5⟩
  · exact ⟨_, x6⟩
  · exact ⟨_, x7⟩
  · exact ⟨_, x8⟩
  · exact ⟨_, x9⟩
  · exact ⟨_, xa⟩
  · exact ⟨_, xb⟩

theorem OS.sarg {w : World} {C H : Nat} {aT aR : Option Addr} {kT kR : Nat} {r : List TB} {s : List RB} (h : OS w C H (.slice aT r.length kT) (.slice aR s.length kR) r s) : SArg w aT r aR s := by
  obtain ⟨a', c', b', d', e1, e2, h'⟩ := h.arg
  simp only [Value.slice.injEq] at e1 e2
  obtain ⟨rfl, _, _⟩ := e1
  obtain ⟨rfl, _, _⟩ := e2
  exact h'
theorem OS.markS {w : World} {C H : Nat} {aT aR : Option Addr} {kT kR : Nat} {r : List TB} {s : List RB} (h : OS w C H (.slice aT r.length kT) (.slice aR s.length kR) r s) :
    Calls Tryz.prog 14 #[.agg #[.slice aT r.length kT, .slice aR s.length kR], .int .i64 1] w fun e w' => e = .returned (.int .i64 (marksOf r s)) ∧ MHT w' aT r ∧ MHR w' aR s (posT (tL r) 1 r.length) ∧ ∃ o, Mid C H (w.alloc o) w' := by
  obtain ⟨a', c', b', d', e1, e2, h'⟩ := markStore_any w h
  simp only [Value.slice.injEq] at e1 e2
  obtain ⟨rfl, _, rfl⟩ := e1
  obtain ⟨rfl, _, rfl⟩ := e2
  exact h'

set_option maxHeartbeats 8000000 in
theorem walkStoreOf (a : Option Addr) (n cap : Nat) (T U V : Nat → Tm) (bt bu bv : Nat → List Int) (w : World) (hnl : n ≤ 9223372036854775807) (hf : AllFit n T U V) (hR : Rows w a n T U V)
    (lt : ∀ i, i < n → (T i).len ≤ 9223372036854775807) (lu : ∀ i, i < n → (U i).len ≤ 9223372036854775807) (lv : ∀ i, i < n → (V i).len ≤ 9223372036854775807)
    (h1 : ∀ i, i < n → (T i).len ≤ 1048576 → Bs w (T i).a (T i).len (bt i)) (h2 : ∀ i, i < n → (U i).len ≤ 1048576 → Bs w (U i).a (U i).len (bu i)) (h3 : ∀ i, i < n → (V i).len ≤ 1048576 → Bs w (V i).a (V i).len (bv i)) (ht : Tab w) :
    Calls Tryz.prog 3 #[.agg #[.slice a n cap]] w fun e w' => e = .returned (.bool true) ∧ Below w.heap.size w w' := by
  have Z := fun (w' : World) (hq : Below w.heap.size w w') => szGraph_any a n cap T U V 1048576 w' (by omega) (by omega) hnl (hR.below hq) lt lu lv
  have To : n ≤ 1048576 → (∀ i, i < n → (T i).len ≤ 1048576 ∧ (U i).len ≤ 1048576 ∧ (V i).len ≤ 1048576) → ∀ (w' : World), Below w.heap.size w w' → Calls Tryz.prog 9 #[.agg #[.slice a n cap]] w' fun e w'' => CopyG w' n T U V bt bu bv e w'' ∧ Below w'.heap.size w' w'' :=
    fun hn hs w' hq => toGraph_any a n cap T U V bt bu bv w' hn (hR.below hq) (fun i hi => (h1 i hi (hs i hi).1).below hq) (fun i hi => (h2 i hi (hs i hi).2.1).below hq) (fun i hi => (h3 i hi (hs i hi).2.2).below hq)
  obtain ⟨p, hp⟩ : ∃ p, p = graphOk n T U V bt bu bv := ⟨_, rfl⟩
  obtain ⟨P, hP⟩ : ∃ P : List TD → List (List (Int × Int × Int)) → Prop, P = Ans p n T U V bt bu bv := ⟨_, rfl⟩
  have Un : (∀ i, i < n → (T i).len ≤ 1048576 ∧ (U i).len ≤ 1048576 ∧ (V i).len ≤ 1048576) → ∀ D E D' E', P D E → P D' E' → D = D' ∧ E = E' := by
    intro hs D E D' E' k k'
    subst hP
    refine Ans.unique (fun hp' => ?_) k k'
    rw [hp] at hp'
    exact allT_good (fun z hz => ((graph_good hp' (fun i hi => h1 i hi (hs i hi).1) (fun i hi => h2 i hi (hs i hi).2.1) (fun i hi => h3 i hi (hs i hi).2.2)).2 z hz).1)
  have Sp : n ≤ 1048576 → ∀ (w : World) (g : Nat) (G1 G2 G3 : Nat → Nat), g < w.heap.size → Copied w g n T U V bt bu bv G1 G2 G3 → Calls Tryz.prog 8 #[.agg #[.slice (some ⟨g, 0, none⟩) n n]] w fun e w' => ∃ aT capT aR capR r rbs, e = .returned (.tuple #[.agg #[.slice aT (List.length r) capT, .slice aR (List.length rbs) capR], .bool p]) ∧ SArg w' aT r aR rbs ∧ P (r.map TB.td) (rbs.map RB.l) ∧ Below w.heap.size w w' := by
    intro hn w g G1 G2 G3 hg hC
    subst hP hp
    exact specStoreOf_any (some ⟨g, 0, none⟩) n n (fun i => (T i).own (G1 i)) (fun i => (U i).own (G2 i)) (fun i => (V i).own (G3 i)) bt bu bv w hn (fun i hi => hf i hi) (hC.rows hg) hC.b1 hC.b2 hC.b3
  have Im : n ≤ 1048576 → ∀ (w : World) (g : Nat) (G1 G2 G3 : Nat → Nat), g < w.heap.size → Copied w g n T U V bt bu bv G1 G2 G3 → Tab w → Calls Tryz.prog 10 #[.agg #[.slice (some ⟨g, 0, none⟩) n n]] w fun e w' => ∃ aT capT aR capR r rbs, e = .returned (.tuple #[.agg #[.slice aT (List.length r) capT, .slice aR (List.length rbs) capR], .bool p]) ∧ OS w' w.heap.size w'.heap.size (.slice aT r.length capT) (.slice aR rbs.length capR) r rbs ∧ P (r.map TB.td) (rbs.map RB.l) ∧ Below w.heap.size w w' := by
    intro hn w g G1 G2 G3 hg hC hT
    subst hP hp
    exact implStoreOf_any (some ⟨g, 0, none⟩) n n (fun i => (T i).own (G1 i)) (fun i => (U i).own (G2 i)) (fun i => (V i).own (G3 i)) bt bu bv w hn (fun i hi => hf i hi) (hC.rows hg) hC.b1 hC.b2 hC.b3 hT
  have Eq : n ≤ 1048576 → ∀ (w : World) (g g' : Nat) (G1 G2 G3 G1' G2' G3' : Nat → Nat), g < w.heap.size → Copied w g n T U V bt bu bv G1 G2 G3 → g' < w.heap.size → Copied w g' n T U V bt bu bv G1' G2' G3' →
      Calls Tryz.prog 12 #[.agg #[.slice (some ⟨g, 0, none⟩) n n], .agg #[.slice (some ⟨g', 0, none⟩) n n]] w fun e w' => e = .returned (.bool true) ∧ Below w.heap.size w w' := by
    intro hn w g g' G1 G2 G3 G1' G2' G3' hg hC hg' hC'
    exact eqGraph_like _ _ n n n _ _ _ _ _ _ bt bu bv w hn (hC.rows hg) (hC'.rows hg') hC.b1 hC.b2 hC.b3 hC'.b1 hC'.b2 hC'.b3 (fun _ _ => ⟨rfl, rfl, rfl⟩) (fun _ _ => ⟨rfl, rfl, rfl⟩) (fun _ _ => ⟨rfl, rfl, rfl⟩)
  have HTB : Hid (∀ w', Below w.heap.size w w' → Tab w') := fun w' h => ht.below h
  have HCP : Hid (∀ (w w' : World) (g : Nat) (G1 G2 G3 : Nat → Nat), g < w.heap.size → Copied w g n T U V bt bu bv G1 G2 G3 → Below w.heap.size w w' → Copied w' g n T U V bt bu bv G1 G2 G3) := fun w w' g G1 G2 G3 hg hC hb => hC.below hg hb
  clear hp hP hf hR lt lu lv h1 h2 h3 ht
  have HS : Hid _ := Sp
  have HI : Hid _ := Im
  have HE : Hid _ := Eq
  have HTo : Hid _ := To
  have HUn : Hid _ := Un
  clear Sp Im Eq To Un
  go_enter Tryz.func3, Tryz.ntmps3
  go_wp2_with fail
  refine (Z _ (bl_a _)).mono ?_
  rintro e w1 ⟨⟨z, rfl, hz, hs, hm⟩, hb1⟩
  have hA1 : w1.cell? ⟨w.heap.size, 0, none⟩ = some (.slice a n cap) ∧ w.heap.size < w1.heap.size := box_keepS ⟨by simp [go_sem], by simp⟩ hb1
  have hW1 := bl_trans (bl_a _) hb1
  clear hb1 Z
  by_cases hr0 : z < 0
  · clear hs hm
    go_wp2
    go_ret
    exact ⟨rfl, hW1⟩
  obtain ⟨hn, hs⟩ := hs hr0
  have To := HTo.out hn hs
  have Sp := HS.out hn
  have Im := HI.out hn
  have Eq := HE.out hn
  have HU : Hid (∀ D E D' E', P D E → P D' E' → D = D' ∧ E = E') := HUn.out hs
  have HES : Hid (∀ W aT kT aR kR r s aT' kT' aR' kR' r' s', SArg W aT r aR s → SArg W aT' r' aR' s' → P (r.map TB.td) (s.map RB.l) → P (r'.map TB.td) (s'.map RB.l) → Calls Tryz.prog 11 #[.agg #[.slice aT (List.length r) kT, .slice aR (List.length s) kR], .agg #[.slice aT' (List.length r') kT', .slice aR' (List.length s') kR']] W fun e w' => e = .returned (.bool true) ∧ Below W.heap.size W w') :=
    fun W aT kT aR kR r s aT' kT' aR' kR' r' s' h h' k k' => eqStore_like aT aT' aR aR' kT kT' kR kR' r r' s s' W h h' (HU.out _ _ _ _ k k').1 (HU.out _ _ _ _ k k').2
  clear hs hm HTo HS HI HE HUn hz
  obtain ⟨c0, c1⟩ := id hA1
  go_wp2_with fail
  refine (To _ hW1).mono ?_
  rintro e w2 ⟨⟨g2, rfl, _, hg2, G1, G2, G3, hC2⟩, hb2⟩
  clear c0 c1
  go_wp2_with fail
  refine (Sp _ _ _ _ _ hg2 hC2).mono ?_
  rintro e w3 ⟨aT0, kT0, aR0, kR0, r0, s0, rfl, hN3, hP3, hb3⟩
  have hb := bl_trans hb2 hb3
  have HV3 : Hid (SArg w3 aT0 r0 aR0 s0) := hN3
  have HP3 : Hid (P (r0.map TB.td) (s0.map RB.l)) := hP3
  have HA3w : Hid (w3.cell? ⟨w.heap.size, 0, none⟩ = some (.slice a n cap) ∧ w.heap.size < w3.heap.size) := box_keepS hA1 hb
  have HA3 : Hid (∀ o, (w3.alloc o).cell? ⟨w.heap.size, 0, none⟩ = some (.slice a n cap) ∧ w.heap.size < (w3.alloc o).heap.size) := fun o => box_keepS hA1 (bl_alloc hb o)
  have HW3 : Hid (Below w.heap.size w w3) := bl_trans hW1 hb
  clear hb hb2 hb3 hg2 hC2 hN3 hP3 hA1 hW1 Sp
  have c0 := fun o => (HA3.out o).1
  go_wp2_with fail
  refine (To _ (bl_alloc HW3.out _)).mono ?_
  rintro e w4 ⟨⟨g4, rfl, hg4, hg4', K1, K2, K3, hK4⟩, hb4⟩
  have HX4 : Hid (Box2 w4 w3.heap.size (.slice aT0 r0.length kT0) (.slice aR0 s0.length kR0)) := (Box2.new w3 _ _ 29).below hb4
  have HD4 : Hid (Below w3.heap.size w3 w4) := bl_trans (bl_a _) hb4
  have hG4 : w3.heap.size + 1 ≤ g4 := by simpa using hg4
  have hl34 : w3.heap.size + 1 ≤ w4.heap.size := by omega
  have hba : Below w4.heap.size w4 (w4.alloc (.cells #[.slice (some ⟨g4, 0, none⟩) n n] 34)) := bl_a _
  have HX5 : Hid ((w4.alloc (.cells #[.slice (some ⟨g4, 0, none⟩) n n] 34)).cell? ⟨w4.heap.size, 0, none⟩ = some (.slice (some ⟨g4, 0, none⟩) n n) ∧ w4.heap.size < (w4.alloc (.cells #[.slice (some ⟨g4, 0, none⟩) n n] 34)).heap.size) := ⟨by simp [go_sem], by simp⟩
  have HK4 : Hid (Copied w4 g4 n T U V bt bu bv K1 K2 K3) := hK4
  have hK5 := hK4.below hg4' hba
  have hg5 := Nat.lt_of_lt_of_le hg4' hba.size
  have HE5 : Hid (Below w4.heap.size w4 (w4.alloc (.cells #[.slice (some ⟨g4, 0, none⟩) n n] 34))) := hba
  have HT5 : Hid (Tab (w4.alloc (.cells #[.slice (some ⟨g4, 0, none⟩) n n] 34))) := HTB.out _ (bl_trans HW3.out (bl_trans HD4.out hba))
  clear hb4 hba hK4 c0
  go_wp2_with fail
  refine (Im _ _ _ _ _ hg5 hK5 HT5.out).mono ?_
  rintro e w6 ⟨aT, kT, aR, kR, r, s, rfl, hO6, hP6, hb6⟩
  have HO6 : Hid (OS w6 (w4.heap.size + 1) w6.heap.size (.slice aT r.length kT) (.slice aR s.length kR) r s) := (by simpa using hO6 : OS w6 (w4.heap.size + 1) w6.heap.size (.slice aT r.length kT) (.slice aR s.length kR) r s)
  have HP6 : Hid (P (r.map TB.td) (s.map RB.l)) := hP6
  have HE6 : Hid (Below w4.heap.size w4 w6) := bl_trans HE5.out hb6
  have HD6 : Hid (Below w3.heap.size w3 w6) := bl_trans HD4.out HE6.out
  have HX6 : Hid (w6.cell? ⟨w4.heap.size, 0, none⟩ = some (.slice (some ⟨g4, 0, none⟩) n n) ∧ w4.heap.size < w6.heap.size) := box_keepS HX5.out hb6
  have HY6 : Hid (Box2 w6 w3.heap.size (.slice aT0 r0.length kT0) (.slice aR0 s0.length kR0)) := HX4.out.below HE6.out
  have hl46 : w4.heap.size + 1 ≤ w6.heap.size := HX6.out.2
  clear hO6 hP6 hb6 HD4 HE5 HX4 HX5 HT5 hK5 hg5
  have y0 := fun o => (HY6.out.below (bl_a o)).1
  have y1 := fun o => (HY6.out.below (bl_a o)).2.1
  have hq := fun o => HES.out (w6.alloc o) aT kT aR kR r s aT0 kT0 aR0 kR0 r0 s0 (HO6.out.below (bl_a o)).sarg (HV3.out.below (bl_trans HD6.out (bl_a o))) HP6.out HP3.out
  go_wp2_with fail
  refine (hq _).mono ?_
  rintro e w8 ⟨rfl, hb8⟩
  have HBG8 : Hid (Box2 w8 w6.heap.size (.slice aT r.length kT) (.slice aR s.length kR)) := (Box2.new w6 _ _ 29).below hb8
  have hb8 := bl_trans (bl_a _) hb8
  have HO8 : Hid (OS w8 (w4.heap.size + 1) w6.heap.size (.slice aT r.length kT) (.slice aR s.length kR) r s) := HO6.out.below hb8
  have HE8 : Hid (Below w4.heap.size w4 w8) := bl_trans HE6.out hb8
  have HD8 : Hid (Below w3.heap.size w3 w8) := bl_trans HD6.out hb8
  have HX8 : Hid (w8.cell? ⟨w4.heap.size, 0, none⟩ = some (.slice (some ⟨g4, 0, none⟩) n n) ∧ w4.heap.size < w8.heap.size) := box_keepS HX6.out hb8
  have HY8 : Hid (Box2 w8 w3.heap.size (.slice aT0 r0.length kT0) (.slice aR0 s0.length kR0)) := HY6.out.below hb8
  have HA8 : Hid (w8.cell? ⟨w.heap.size, 0, none⟩ = some (.slice a n cap) ∧ w.heap.size < w8.heap.size) := box_keepS HA3w.out HD8.out
  have HK8 : Hid (Copied w8 g4 n T U V bt bu bv K1 K2 K3) := HCP.out _ _ _ _ _ _ hg4' HK4.out HE8.out
  have hg8 : g4 < w8.heap.size := Nat.lt_of_lt_of_le hg4' HE8.out.size
  have HW8 : Hid (Below w.heap.size w w8) := bl_trans HW3.out HD8.out
  clear hb8 hq y0 y1 HO6 HE6 HD6 HX6 HY6
  obtain ⟨x0, x1⟩ := id HX8.out
  obtain ⟨y0, y1⟩ := id HA8.out
  go_wp2_with fail
  go_region_held3 (fun w' => w'.cell? ⟨w4.heap.size, 0, none⟩ = some (.slice (some ⟨g4, 0, none⟩) n n) ∧ w'.cell? ⟨w.heap.size, 0, none⟩ = some (.slice a n cap)) (simp [*, go_sem])
    (first
      | (go_at_call 9; refine (To _ (bl_trans HW8.out bl_drew0)).mono ?_; rintro e w9 ⟨⟨g9, rfl, _, hg9, M1, M2, M3, hM⟩, hb9⟩; have hb9 := bl_trans bl_drew0 hb9; have hX9 := box_keepS HX8.out hb9; have hA9 := box_keepS HA8.out hb9; have hK9 := HCP.out _ _ _ _ _ _ hg8 HK8.out hb9; have hg89 := Nat.lt_of_lt_of_le hg8 hb9.size; obtain ⟨x0, x1⟩ := id hX9; obtain ⟨y0, y1⟩ := id hA9)
      | (go_at_call 12; refine (Eq _ _ _ _ _ _ _ _ _ hg89 hK9 hg9 hM).mono ?_; rintro e w10 ⟨rfl, hbb⟩; have hb10 := bl_trans hb9 hbb; have hX10 := box_keepS hX9 hbb; have hA10 := box_keepS hA9 hbb; obtain ⟨x0, x1⟩ := id hX10; obtain ⟨y0, y1⟩ := id hA10))
  clear x0 x1 y0 y1
  have HO10 : Hid (OS w10 (w4.heap.size + 1) w6.heap.size (.slice aT r.length kT) (.slice aR s.length kR) r s) := HO8.out.below hb10
  have HBG10 : Hid (Box2 w10 w6.heap.size (.slice aT r.length kT) (.slice aR s.length kR)) := HBG8.out.below hb10
  have HY10 : Hid (Box2 w10 w3.heap.size (.slice aT0 r0.length kT0) (.slice aR0 s0.length kR0)) := HY8.out.below hb10
  have HD10 : Hid (Below w3.heap.size w3 w10) := bl_trans HD8.out hb10
  have HE10 : Hid (Below w4.heap.size w4 w10) := bl_trans HE8.out hb10
  have HX10 : Hid (w10.cell? ⟨w4.heap.size, 0, none⟩ = some (.slice (some ⟨g4, 0, none⟩) n n) ∧ w4.heap.size < w10.heap.size) := hX10
  clear hX10 hA10 hX9 hA9 hK9 hg89 hM hg9 hb9 hbb hb10 HO8 HBG8 HY8 HD8 HE8 HX8 HA8 HK8 hg8 HW8 Eq
  obtain ⟨x0, x1⟩ := id HX10.out
  go_wp2_with fail
  refine (markGraph_any (w3.heap.size + 1) w4.heap.size g4 n n K1 K2 K3 _ _ _ 1 _ hn (by omega) (by omega) (fun o => HK4.out.marksS hG4 hg4' (bl_alloc HE10.out o))).mono ?_
  rintro e w11 ⟨q11, o11, rfl, hq11, hM11⟩
  have HD11 : Hid (Below w3.heap.size w3 w11) := (bl_alloc HD10.out o11).trans (hM11.below.mono (by omega))
  have HO11 : Hid (OS w11 (w4.heap.size + 1) w6.heap.size (.slice aT r.length kT) (.slice aR s.length kR) r s) := (HO10.out.below (bl_a o11)).upper (by rw [hM11.size]; exact Nat.le_refl _) (fun b h1 _ => hM11.block b (.inr (by omega)))
  have HBG11 : Hid (Box2 w11 w6.heap.size (.slice aT r.length kT) (.slice aR s.length kR)) := (HBG10.out.below (bl_a o11)).mid hM11 (.inr (by omega))
  have HY11 : Hid (Box2 w11 w3.heap.size (.slice aT0 r0.length kT0) (.slice aR0 s0.length kR0)) := (HY10.out.below (bl_a o11)).mid hM11 (.inl (by omega))
  clear x0 x1 hM11 HD10 HE10 HX10 HO10 HBG10 HY10 HK4
  have hk : ¬ (q11 < 0) := by omega
  obtain ⟨x0, x1, x2⟩ := id HBG11.out
  obtain ⟨y0, y1, y2⟩ := id HY11.out
  have hq := HES.out w11 aT kT aR kR r s aT0 kT0 aR0 kR0 r0 s0 HO11.out.sarg (HV3.out.below HD11.out) HP6.out HP3.out
  go_wp2_with fail
  refine hq.mono ?_
  rintro e w12 ⟨rfl, hb12⟩
  have HD12 : Hid (Below w3.heap.size w3 w12) := bl_trans HD11.out hb12
  have HO12 : Hid (OS w12 (w4.heap.size + 1) w6.heap.size (.slice aT r.length kT) (.slice aR s.length kR) r s) := HO11.out.below hb12
  have HBG12 : Hid (Box2 w12 w6.heap.size (.slice aT r.length kT) (.slice aR s.length kR)) := HBG11.out.below hb12
  have HY12 : Hid (Box2 w12 w3.heap.size (.slice aT0 r0.length kT0) (.slice aR0 s0.length kR0)) := HY11.out.below hb12
  clear x0 x1 x2 y0 y1 y2 hq hb12 HD11 HO11 HBG11 HY11
  have HHS : Hid (∀ W, MHT W aT r → MHR W aR s (posT (tL r) 1 r.length) → Calls Tryz.prog 15 #[.agg #[.slice aT r.length kT, .slice aR s.length kR], .int .i64 1] W fun e w' => e = .returned (.int .i64 (marksOf r s)) ∧ Below W.heap.size W w') := fun W h1 h2 => heldStore_any aT aR kT kR r s W h1 h2 HO12.out.nr HO12.out.ns HO12.out.tlen HO12.out.rlen
  have hMp := marks_pos r s
  have hms := HO12.out.markS
  obtain ⟨M, hM⟩ : ∃ M, M = marksOf r s := ⟨_, rfl⟩
  rw [← hM] at hMp hms HHS
  clear hM
  obtain ⟨x0, x1, x2⟩ := id HBG12.out
  go_wp2_with fail
  refine hms.mono ?_
  rintro e w13 ⟨rfl, hMT, hMR, o13, hM13⟩
  have HD13 : Hid (Below w3.heap.size w3 w13) := (bl_alloc HD12.out o13).trans (hM13.below.mono (by omega))
  have HBG13 : Hid (Box2 w13 w6.heap.size (.slice aT r.length kT) (.slice aR s.length kR)) := (HBG12.out.below (bl_a o13)).mid hM13 (.inr (Nat.le_refl _))
  have HY13 : Hid (Box2 w13 w3.heap.size (.slice aT0 r0.length kT0) (.slice aR0 s0.length kR0)) := (HY12.out.below (bl_a o13)).mid hM13 (.inl (by omega))
  have HMT13 : Hid (MHT w13 aT r) := hMT
  have HMR13 : Hid (MHR w13 aR s (posT (tL r) 1 r.length)) := hMR
  clear x0 x1 x2 hms hMT hMR hM13 HD12 HO12 HBG12 HY12 hk
  obtain ⟨x0, x1, x2⟩ := id HBG13.out
  have hh := HHS.out w13 HMT13.out HMR13.out
  go_wp2_with fail
  refine hh.mono ?_
  rintro e w14 ⟨rfl, hb14⟩
  have HD14 : Hid (Below w3.heap.size w3 w14) := bl_trans HD13.out hb14
  have HBG14 : Hid (Box2 w14 w6.heap.size (.slice aT r.length kT) (.slice aR s.length kR)) := HBG13.out.below hb14
  have HY14 : Hid (Box2 w14 w3.heap.size (.slice aT0 r0.length kT0) (.slice aR0 s0.length kR0)) := HY13.out.below hb14
  have HMT14 : Hid (MHT w14 aT r) := HMT13.out.below hb14
  have HMR14 : Hid (MHR w14 aR s (posT (tL r) 1 r.length)) := HMR13.out.below hb14
  clear x0 x1 x2 hh hb14 HD13 HBG13 HY13 HMT13 HMR13
  have hM0 : ¬ (M < 0) := by omega
  obtain ⟨y0, y1⟩ := box_keepS HA3w.out HD14.out
  go_wp2_with fail
  refine (To _ (bl_trans HW3.out HD14.out)).mono ?_
  rintro e w15 ⟨⟨g15, rfl, _, hg15, N1, N2, N3, hN15⟩, hb15⟩
  have HD15 : Hid (Below w3.heap.size w3 w15) := bl_trans HD14.out hb15
  have HBG15 : Hid (Box2 w15 w6.heap.size (.slice aT r.length kT) (.slice aR s.length kR)) := HBG14.out.below hb15
  have HY15 : Hid (Box2 w15 w3.heap.size (.slice aT0 r0.length kT0) (.slice aR0 s0.length kR0)) := HY14.out.below hb15
  have HMT15 : Hid (MHT w15 aT r) := HMT14.out.below hb15
  have HMR15 : Hid (MHR w15 aR s (posT (tL r) 1 r.length)) := HMR14.out.below hb15
  clear y0 y1 hb15 HD14 HBG14 HY14 HMT14 HMR14 To
  go_wp2_with fail
  refine (Im _ _ _ _ _ hg15 hN15 (HTB.out _ (bl_trans HW3.out HD15.out))).mono ?_
  rintro e w16 ⟨aT', kT', aR', kR', r', s', rfl, hO16, hP16, hb16⟩
  have HO16 : Hid (SArg w16 aT' r' aR' s') := hO16.sarg
  have HP16 : Hid (P (r'.map TB.td) (s'.map RB.l)) := hP16
  have HD16 : Hid (Below w3.heap.size w3 w16) := bl_trans HD15.out hb16
  have HBG16 : Hid (Box2 w16 w6.heap.size (.slice aT r.length kT) (.slice aR s.length kR)) := HBG15.out.below hb16
  have HY16 : Hid (Box2 w16 w3.heap.size (.slice aT0 r0.length kT0) (.slice aR0 s0.length kR0)) := HY15.out.below hb16
  have HMT16 : Hid (MHT w16 aT r) := HMT15.out.below hb16
  have HMR16 : Hid (MHR w16 aR s (posT (tL r) 1 r.length)) := HMR15.out.below hb16
  clear hO16 hP16 hb16 HD15 HBG15 HY15 HMT15 HMR15 Im hg15 hN15
  have y0 := fun o => (HY16.out.below (bl_a o)).1
  have y1 := fun o => (HY16.out.below (bl_a o)).2.1
  have hq := fun o => HES.out (w16.alloc o) aT' kT' aR' kR' r' s' aT0 kT0 aR0 kR0 r0 s0 (HO16.out.below (bl_a o)) (HV3.out.below (bl_trans HD16.out (bl_a o))) HP16.out HP3.out
  go_wp2_with fail
  refine (hq _).mono ?_
  rintro e w17 ⟨rfl, hb17⟩
  have hb17 := bl_trans (bl_a _) hb17
  have HD17 : Hid (Below w3.heap.size w3 w17) := bl_trans HD16.out hb17
  have HBG17 : Hid (Box2 w17 w6.heap.size (.slice aT r.length kT) (.slice aR s.length kR)) := HBG16.out.below hb17
  have HMT17 : Hid (MHT w17 aT r) := HMT16.out.below hb17
  have HMR17 : Hid (MHR w17 aR s (posT (tL r) 1 r.length)) := HMR16.out.below hb17
  clear y0 y1 hq hb17 HD16 HBG16 HY16 HMT16 HMR16 HO16 HP16
  obtain ⟨x0, x1, x2⟩ := id HBG17.out
  have hh := HHS.out w17 HMT17.out HMR17.out
  go_wp2_with fail
  refine hh.mono ?_
  rintro e w18 ⟨rfl, hb18⟩
  have HD18 : Hid (Below w3.heap.size w3 w18) := bl_trans HD17.out hb18
  clear x0 x1 x2 hh hb18 HD17 HBG17 HMT17 HMR17
  go_wp2_with fail
  go_ret
  exact ⟨rfl, bl_trans HW3.out HD18.out⟩
end Go.Proofs.YtdcaicoomldmgaaGreatDoor

/- DvGraJ -/
namespace Go.Proofs.YtdcaicoomldmgaaGreatDoor
open Go.ChangeShapes Go.WideShapes Go.ChangeAt Go.RowKit Go.Joins Go.Deep

theorem Tryz.cells24 : Tryz.prog.cellsOf 24 = 1 := by kernel_rfl
theorem Tryz.cells22 : Tryz.prog.cellsOf 22 = 1 := by kernel_rfl

theorem add_none (b off i : Nat) : (⟨b, off, none⟩ : Addr).add i = ⟨b, off + i, none⟩ := by
  by_cases h0 : i = 0 <;> simp [Addr.add, h0]

/-- What is known of a triple that came in. -/
def Came (W : World) (q : (Tm × Tm × Tm) × (List Int × List Int × List Int)) : Prop :=
  (q.1.1.fits ∧ q.1.2.1.fits ∧ q.1.2.2.fits) ∧ (q.1.1.len ≤ 9223372036854775807 ∧ q.1.2.1.len ≤ 9223372036854775807 ∧ q.1.2.2.len ≤ 9223372036854775807) ∧
    ((q.1.1.len ≤ 1048576 → Bs W q.1.1.a q.1.1.len q.2.1) ∧ (q.1.2.1.len ≤ 1048576 → Bs W q.1.2.1.a q.1.2.1.len q.2.2.1) ∧ (q.1.2.2.len ≤ 1048576 → Bs W q.1.2.2.a q.1.2.2.len q.2.2.2))

set_option maxRecDepth 100000 in
/-- A row of triples that came in, opened. -/
theorem open_triples {H : Type} {enc : TypeId × Value → H} {W : World} {fuel : Nat} {c : Value} {x : DataW H × List MemPlace}
    (h : DataW.trod enc Tryz.prog W 0 (fun _ => true) true fuel 22 [c] = some x) :
    ∃ (a : Option Addr) (n cap : Nat) (F : Nat → (Tm × Tm × Tm) × (List Int × List Int × List Int)), c = .slice a n cap ∧ n ≤ 9223372036854775807 ∧ Rows W a n (fun i => (F i).1.1) (fun i => (F i).1.2.1) (fun i => (F i).1.2.2) ∧ ∀ i, i < n → Came W (F i) := by
  rcases open_slice Tryz.underlying22 h with ⟨hcs, _⟩ | ⟨a, len, cap, m, k, D, Pl, hcs, _, hl, hm, hmm, _, hx⟩
  · simp at hcs
    subst hcs
    exact ⟨none, 0, 0, fun _ => ((Tm0, Tm0, Tm0), ([], [], [])), rfl, by omega, .inl rfl, fun i hi => by omega⟩
  · simp at hcs
    subst hcs
    simp only [if_true] at hmm
    subst hmm
    rw [Tryz.cells107] at hx
    have hh : ∀ i, ∃ q : (Tm × Tm × Tm) × (List Int × List Int × List Int), i < m → (Came W q ∧ W.cells? 0 (a.add (i * 12)) 12 = some (tmCells q.1.1 ++ (tmCells q.1.2.1 ++ tmCells q.1.2.2))) := by
      intro i
      by_cases hi : i < m
      · obtain ⟨cs', hc, ht⟩ := hx i hi
        obtain ⟨t, u, v, bt, bu, bv, rfl, hf, hlen, hb⟩ := trod_triple ht
        exact ⟨((t, u, v), (bt, bu, bv)), fun _ => ⟨⟨hf, hlen, hb⟩, hc⟩⟩
      · exact ⟨((Tm0, Tm0, Tm0), ([], [], [])), fun h => absurd h hi⟩
    obtain ⟨F, hF⟩ := Classical.axiomOfChoice hh
    refine ⟨some a, len, m, F, rfl, by unfold maxLen at hm; omega, ?_, fun i hi => (hF i (by omega)).1⟩
    by_cases hn : len = 0
    · exact .inl hn
    right
    obtain ⟨b, off, spot⟩ := a
    obtain ⟨_, _, h0⟩ := World.cells?_some (hF 0 (by omega)).2
    have h00 := h0 0 (by omega)
    have hspot : spot = none := by
      have := World.cell?_spot (w := W) (a := ((⟨b, off, spot⟩ : Addr).add (0 * 12)).add 0) (by rw [h00]; rfl)
      simpa [Addr.add] using this
    subst hspot
    refine ⟨b, off, rfl, ?_, fun i hi => ?_⟩
    · rw [add_none, add_none] at h00
      exact cell_lt (a := ⟨b, off + 0 * 12 + 0, none⟩) h00
    · obtain ⟨_, _, hc⟩ := World.cells?_some (hF i (by omega)).2
      have hc' : ∀ j, j < 12 → W.cell? ⟨b, off + i * 12 + j, none⟩ = (tmCells (F i).1.1 ++ (tmCells (F i).1.2.1 ++ tmCells (F i).1.2.2))[j]? := fun j hj => by
        have := hc j hj
        rwa [add_none, add_none] at this
      exact ⟨⟨hc' 0 (by omega), hc' 1 (by omega), hc' 2 (by omega), hc' 3 (by omega)⟩, ⟨hc' 4 (by omega), hc' 5 (by omega), hc' 6 (by omega), hc' 7 (by omega)⟩, ⟨hc' 8 (by omega), hc' 9 (by omega), hc' 10 (by omega), hc' 11 (by omega)⟩⟩

set_option maxRecDepth 100000 in
/-- A graph that came in, opened. -/
theorem open_graph {H : Type} {enc : TypeId × Value → H} {W : World} {b0 : Nat} {x : Value} {d : DataW H} {p : List MemPlace}
    (hv : Value.okWide Tryz.prog W .any b0 24 x) (h : DataW.Trod enc Tryz.prog W 0 (fun _ => true) true 24 x d p) :
    ∃ (a : Option Addr) (n cap : Nat) (F : Nat → (Tm × Tm × Tm) × (List Int × List Int × List Int)), x = .agg #[.slice a n cap] ∧ n ≤ 9223372036854775807 ∧ Rows W a n (fun i => (F i).1.1) (fun i => (F i).1.2.1) (fun i => (F i).1.2.2) ∧ ∀ i, i < n → Came W (F i) := by
  obtain ⟨cs, rfl, hsz⟩ := okWide_struct Tryz.underlying24 hv
  rw [Tryz.cells24] at hsz
  obtain ⟨fuel, hf⟩ := h
  obtain ⟨y0, m, _, _, hy⟩ := trod_struct1 Tryz.underlying24 hf
  obtain ⟨c0, rfl⟩ : ∃ c0, cs = #[c0] := by
    cases cs with
    | mk l => match l, hsz with
      | [c0], _ => exact ⟨c0, rfl⟩
  simp [Tryz.cells22, Value.cells] at hy
  obtain ⟨a, n, cap, F, rfl, hr⟩ := open_triples hy
  exact ⟨a, n, cap, F, rfl, hr⟩
end Go.Proofs.YtdcaicoomldmgaaGreatDoor
