/- Draws: l1Below of more than a byte; DrawCalc. -/
import Derived.Test.YtjhobhkdncdnaaaDrwE
import Derived.Deep.RegionHeld3
namespace Go.Proofs.Ytjhobhkdncdnaaa
open Go.RowKit Go.Deep

theorem l1Below_big (g : Nat) (a : Option Addr) (len cap n : Nat) (w : World) (hlen : len ≤ 9223372036854775807) (hC : Cur w g a len cap) (h1 : 257 ≤ n) (h2 : n ≤ 100000) :
    Calls Try.prog 27 #[.pointer (some ⟨g, 0, none⟩), .int .i64 n] w fun e w' => Drawn g a len cap w n e w' := by
  have B := fun w h => l1Byte_any g a len cap w hlen h
  have HC : Hid (Cur w g a len cap) := hC
  clear hC
  go_enter Try.func27, Try.ntmps27
  go_wp2_with fail
  refine (B _ HC.out).mono ?_
  rintro e w1 ⟨x, rfl, x0, x1, hP1, hC1⟩
  have HP1 : Hid (Past g w w1) := hP1
  have HC1 : Hid (Cur w1 g a len cap) := hC1
  clear hP1 hC1 HC
  go_wp2_with fail
  refine (B _ HC1.out).mono ?_
  rintro e w2 ⟨y, rfl, y0, y1, hP2, hC2⟩
  have HP2 : Hid (Past g w w2) := HP1.out.trans hP2
  have HC2 : Hid (Cur w2 g a len cap) := hC2
  clear hP2 hC2 HC1 HP1
  go_wp2_with fail
  refine (B _ HC2.out).mono ?_
  rintro e w3 ⟨z, rfl, z0, z1, hP3, hC3⟩
  have HP3 : Hid (Past g w w3) := HP2.out.trans hP3
  have HC3 : Hid (Cur w3 g a len cap) := hC3
  clear hP3 hC3 HC2 HP2
  go_wp2_with fail
  refine (B _ HC3.out).mono ?_
  rintro e w4 ⟨v, rfl, v0, v1, hP4, hC4⟩
  have HP4 : Hid (Past g w w4) := HP3.out.trans hP4
  have HC4 : Hid (Cur w4 g a len cap) := hC4
  clear hP4 hC4 HC3 HP3 B
  go_wp2
  go_ret
  obtain ⟨q, hq⟩ : ∃ q : Nat, x * 16777216 + y * 65536 + z * 256 + v = q := ⟨(x * 16777216 + y * 65536 + z * 256 + v).toNat, by omega⟩
  refine ⟨q % n, ?_, Nat.mod_lt _ (by omega), HP4.out, HC4.out⟩
  show Ending.returned (.int .i64 ((x * 16777216 + y * 65536 + z * 256 + v) % (n : Int))) = _
  rw [hq, Int.natCast_emod]
/-- A term whose text is none or lies in a block of its own. -/
theorem BTx.none (w : World) (B : Nat) : BTx w B Option.none 0 [] := ⟨⟨rfl, by omega, by simp, .inl rfl⟩, .inl rfl⟩
/-- A term laid into block z. -/
theorem z_set4 {g z : Nat} {v0 v1 v2 v3 : Value} {a : Option Addr} {len cap : Nat} {w w3 : World} {ta : Option Addr} {tl : Nat} {bs : List Int} {B : Nat} (hC : Cur w g a len cap) (hP : Past g w w3) (hC3 : Cur w3 g a len cap) (hT : BTx w3 B ta tl bs) (hlt : z < B) (hz : w.heap.size ≤ z) (hzg : g ≠ z) :
    Past g w ((((w3.setCell ⟨z, 0, none⟩ v0).setCell ⟨z, 1, none⟩ v1).setCell ⟨z, 2, none⟩ v2).setCell ⟨z, 3, none⟩ v3) ∧ Cur ((((w3.setCell ⟨z, 0, none⟩ v0).setCell ⟨z, 1, none⟩ v1).setCell ⟨z, 2, none⟩ v2).setCell ⟨z, 3, none⟩ v3) g a len cap ∧ BTx ((((w3.setCell ⟨z, 0, none⟩ v0).setCell ⟨z, 1, none⟩ v1).setCell ⟨z, 2, none⟩ v2).setCell ⟨z, 3, none⟩ v3) B ta tl bs ∧ Past z w3 ((((w3.setCell ⟨z, 0, none⟩ v0).setCell ⟨z, 1, none⟩ v1).setCell ⟨z, 2, none⟩ v2).setCell ⟨z, 3, none⟩ v3) := by
  have hQ : Past z w3 ((((w3.setCell ⟨z, 0, none⟩ v0).setCell ⟨z, 1, none⟩ v1).setCell ⟨z, 2, none⟩ v2).setCell ⟨z, 3, none⟩ v3) := ((((Past.refl z w3).set 0 v0).set 1 v1).set 2 v2).set 3 v3
  have hP' : Past g w ((((w3.setCell ⟨z, 0, none⟩ v0).setCell ⟨z, 1, none⟩ v1).setCell ⟨z, 2, none⟩ v2).setCell ⟨z, 3, none⟩ v3) := (((hP.set_new (p := ⟨z, 0, none⟩) hz v0).set_new (p := ⟨z, 1, none⟩) hz v1).set_new (p := ⟨z, 2, none⟩) hz v2).set_new (p := ⟨z, 3, none⟩) hz v3
  exact ⟨hP', hC.glue hC3 hP' (hQ.block g hC3.lt hzg), hT.past hQ hlt, hQ⟩
theorem Own4.set4 {w : World} {g : Nat} {u0 u1 u2 u3 : Value} (h : Own4 w g u0 u1 u2 u3) (a b c d : Value) :
    Own4 ((((w.setCell ⟨g, 0, none⟩ a).setCell ⟨g, 1, none⟩ b).setCell ⟨g, 2, none⟩ c).setCell ⟨g, 3, none⟩ d) g a b c d := by
  obtain ⟨⟨hl, h0, h1, h2, h3⟩, f0, f1, f2, f3⟩ := h
  refine ⟨⟨by simpa using hl, ?_, ?_, ?_, ?_⟩, ?_, ?_, ?_, ?_⟩ <;> simp [go_sem, h0, h1, h2, h3, f0, f1, f2, f3]

/-- What a drawn reckoning is. -/
def CalcDrawn (w : World) (e : Ending) (w' : World) : Prop := ∃ (op : Int) (t u : Tq), e = .returned (.tuple #[.int .i64 op, .agg #[.int .i64 t.k, .slice t.a t.len t.cap, .int .i64 t.n, .int .i64 t.s], .agg #[.int .i64 u.k, .slice u.a u.len u.cap, .int .i64 u.n, .int .i64 u.s]]) ∧ t.at w' ∧ u.at w' ∧ Below w.heap.size w w'

set_option maxRecDepth 20000 in
set_option maxHeartbeats 4000000 in
theorem DrawCalc_any (a : Option Addr) (len cap : Nat) (w : World) (hlen : len ≤ 9223372036854775807) (hC : Code w a len) :
    Calls Try.prog 11 #[.slice a len cap] w fun e w' => CalcDrawn w e w' := by
  have NW := fun w h => l1New_any a len cap w hlen h
  have HC : Hid (∀ o o', Code ((w.alloc o).alloc o') a len) := fun o o' => by
    rcases hC with h | ⟨b, off, ha, hlt, hc⟩
    · exact .inl h
    · refine .inr ⟨b, off, ha, by simp; omega, fun i hi => ?_⟩
      rw [(bl_alloc (bl_a (w := w) o) o').cell (p := ⟨b, off + i, none⟩) hlt]
      exact hc i hi
  clear hC
  go_enter Try.func11, Try.ntmps11
  go_wp2_with fail
  refine (NW _ (HC.out _ _)).mono ?_
  rintro e w1 ⟨rfl, hb1, hC1⟩
  have hR1 := (Own4.at w w.heap.size (.int .i64 0) (.slice none 0 0) (.int .i64 0) (.int .i64 0) 24 rfl).below (bl_trans (bl_a _) hb1)
  have hR2 := (Own4.at (w.alloc _) (w.heap.size + 1) (.int .i64 0) (.slice none 0 0) (.int .i64 0) (.int .i64 0) 24 (by simp)).below hb1
  have hs1 := hb1.size
  simp at hs1 hC1
  have hw1 := bl_trans (bl_alloc (bl_a _) _) hb1
  have hg1 := hC1.lt
  have HCB : Hid (Cur w1 (w.heap.size + 1 + 1) a len cap) := hC1
  have HP0 : Hid (Past (w.heap.size + 1 + 1) w1 w1) := Past.refl _ _
  have B := fun v (n : Nat) (h : Cur v (w.heap.size + 1 + 1) a len cap) (h1 : 1 ≤ n) (h2 : n ≤ 256) => l1Below_any _ a len cap n v hlen h h1 h2
  have BB := fun v (n : Nat) (h : Cur v (w.heap.size + 1 + 1) a len cap) (h1 : 257 ≤ n) (h2 : n ≤ 100000) => l1Below_big _ a len cap n v hlen h h1 h2
  have O := fun v (n : Nat) (h : Cur v (w.heap.size + 1 + 1) a len cap) (h1 : 1 ≤ n) (h2 : n ≤ 256) => l1Once_any _ a len cap n v hlen h h1 h2
  have PI := fun v (lb n : Nat) (L : Nat → Int) (h : Cur v (w.heap.size + 1 + 1) a len cap) h1 h2 h3 h4 h5 => l1PickInt_any _ lb a len cap n L v hlen h h1 h2 h3 h4 h5
  clear hb1 NW HC
  go_wp2_with fail
  refine (BB _ 999 hC1 (by omega) (by omega)).mono ?_
  rintro e pA ⟨xA, rfl, hxA, hPpA, hCpA⟩
  have hspA := hPpA.size
  replace hR1 := hR1.past hPpA (by omega)
  replace hR2 := hR2.past hPpA (by omega)
  have HPpA : Hid (Past (w.heap.size + 1 + 1) w1 pA) := HP0.out.trans hPpA
  clear hPpA hC1 HP0
  go_wp2_with fail
  refine (PI _ pA.heap.size 9 (fun i => if i = 0 then 0 else if i = 1 then 5 else if i = 2 then -7 else if i = 3 then 13 else if i = 4 then 250 else if i = 5 then 1000000000000000 else if i = 6 then -999999999999997 else if i = 7 then 987654321 else (xA : Int)) (hCpA.below (bl_a _)) (by omega) (by omega) (by simp) (by omega) (by
    intro i hi
    have hii : i = 0 ∨ i = 1 ∨ i = 2 ∨ i = 3 ∨ i = 4 ∨ i = 5 ∨ i = 6 ∨ i = 7 ∨ i = 8 := by omega
    rcases hii with rfl | rfl | rfl | rfl | rfl | rfl | rfl | rfl | rfl
    all_goals simp [go_sem])).mono ?_
  rintro e qA ⟨j, hj, rfl, hPqA, hCqA⟩
  obtain ⟨zA, hzA, hz1A, hz2A⟩ : ∃ q : Int, q = (if j = 0 then 0 else if j = 1 then 5 else if j = 2 then -7 else if j = 3 then 13 else if j = 4 then 250 else if j = 5 then 1000000000000000 else if j = 6 then -999999999999997 else if j = 7 then 987654321 else (xA : Int)) ∧ -1000000000000000 ≤ q ∧ q ≤ 1000000000000000 := by
    refine ⟨_, rfl, ?_⟩
    have hii : j = 0 ∨ j = 1 ∨ j = 2 ∨ j = 3 ∨ j = 4 ∨ j = 5 ∨ j = 6 ∨ j = 7 ∨ j = 8 := by omega
    rcases hii with rfl | rfl | rfl | rfl | rfl | rfl | rfl | rfl | rfl
    all_goals simp <;> omega
  simp only [← hzA]
  clear hzA hj
  have hsqA := hPqA.size
  simp at hsqA
  replace hR1 := (hR1.below (bl_a _)).past hPqA (by omega)
  replace hR2 := (hR2.below (bl_a _)).past hPqA (by omega)
  have HPqA : Hid (Past (w.heap.size + 1 + 1) w1 qA) := (HPpA.out.trans (Past.of_below (bl_a _))).trans hPqA
  clear hPqA HPpA hCpA
  go_wp2_with fail
  refine (B _ 7 hCqA (by omega) (by omega)).mono ?_
  rintro e rA ⟨yA, rfl, hyA, hPrA, hCrA⟩
  have hsrA := hPrA.size
  replace hR1 := hR1.past hPrA (by omega)
  replace hR2 := hR2.past hPrA (by omega)
  have HPrA : Hid (Past (w.heap.size + 1 + 1) w1 rA) := HPqA.out.trans hPrA
  clear hPrA HPqA hCqA
  go_wp2_with fail
  refine (specNum_any zA yA _ (by omega) (by omega)).mono ?_
  rintro e nA ⟨rfl, hbA⟩
  have hbqA := numP_bounds zA yA
  generalize tK (numP zA yA) = kA at *
  generalize tN (numP zA yA) = mA at *
  generalize tS (numP zA yA) = sA at *
  generalize numOk (numP zA yA).1 (numP zA yA).2 = okA at *
  have hbbA := bl_trans hbA (bl_a (.cells #[.int .i64 kA, .slice none 0 0, .int .i64 mA, .int .i64 sA] 24))
  have hOA := Own4.at nA nA.heap.size (.int .i64 kA) (.slice none 0 0) (.int .i64 mA) (.int .i64 sA) 24 rfl
  have hsnA := hbA.size
  replace hR1 := hR1.below hbbA
  replace hR2 := hR2.below hbbA
  have HPnA : Hid (Past (w.heap.size + 1 + 1) w1 (nA.alloc (.cells #[.int .i64 kA, .slice none 0 0, .int .i64 mA, .int .i64 sA] 24))) := HPrA.out.trans (Past.of_below hbbA)
  have hCnA := hCrA.below hbbA
  have hszA : (nA.alloc (.cells #[.int .i64 kA, .slice none 0 0, .int .i64 mA, .int .i64 sA] 24)).heap.size = nA.heap.size + 1 := by simp
  clear hbA hbbA HPrA hCrA
  go_wp2_with fail
  refine (BB _ 999 hCnA (by omega) (by omega)).mono ?_
  rintro e pB ⟨xB, rfl, hxB, hPpB, hCpB⟩
  have hspB := hPpB.size
  replace hR1 := hR1.past hPpB (by omega)
  replace hR2 := hR2.past hPpB (by omega)
  replace hOA := hOA.past hPpB (by omega)
  have HPpB : Hid (Past (w.heap.size + 1 + 1) w1 pB) := HPnA.out.trans hPpB
  clear hPpB hCnA HPnA
  go_wp2_with fail
  refine (PI _ pB.heap.size 9 (fun i => if i = 0 then 0 else if i = 1 then 1 else if i = 2 then 5 else if i = 3 then -7 else if i = 4 then 3 else if i = 5 then 333 else if i = 6 then 1000000000000000 else if i = 7 then 123456 else (xB : Int)) (hCpB.below (bl_a _)) (by omega) (by omega) (by simp) (by omega) (by
    intro i hi
    have hii : i = 0 ∨ i = 1 ∨ i = 2 ∨ i = 3 ∨ i = 4 ∨ i = 5 ∨ i = 6 ∨ i = 7 ∨ i = 8 := by omega
    rcases hii with rfl | rfl | rfl | rfl | rfl | rfl | rfl | rfl | rfl
    all_goals simp [go_sem])).mono ?_
  rintro e qB ⟨j, hj, rfl, hPqB, hCqB⟩
  obtain ⟨zB, hzB, hz1B, hz2B⟩ : ∃ q : Int, q = (if j = 0 then 0 else if j = 1 then 1 else if j = 2 then 5 else if j = 3 then -7 else if j = 4 then 3 else if j = 5 then 333 else if j = 6 then 1000000000000000 else if j = 7 then 123456 else (xB : Int)) ∧ -1000000000000000 ≤ q ∧ q ≤ 1000000000000000 := by
    refine ⟨_, rfl, ?_⟩
    have hii : j = 0 ∨ j = 1 ∨ j = 2 ∨ j = 3 ∨ j = 4 ∨ j = 5 ∨ j = 6 ∨ j = 7 ∨ j = 8 := by omega
    rcases hii with rfl | rfl | rfl | rfl | rfl | rfl | rfl | rfl | rfl
    all_goals simp <;> omega
  simp only [← hzB]
  clear hzB hj
  have hsqB := hPqB.size
  simp at hsqB
  replace hR1 := (hR1.below (bl_a _)).past hPqB (by omega)
  replace hR2 := (hR2.below (bl_a _)).past hPqB (by omega)
  replace hOA := (hOA.below (bl_a _)).past hPqB (by omega)
  have HPqB : Hid (Past (w.heap.size + 1 + 1) w1 qB) := (HPpB.out.trans (Past.of_below (bl_a _))).trans hPqB
  clear hPqB HPpB hCpB
  go_wp2_with fail
  refine (B _ 7 hCqB (by omega) (by omega)).mono ?_
  rintro e rB ⟨yB, rfl, hyB, hPrB, hCrB⟩
  have hsrB := hPrB.size
  replace hR1 := hR1.past hPrB (by omega)
  replace hR2 := hR2.past hPrB (by omega)
  replace hOA := hOA.past hPrB (by omega)
  have HPrB : Hid (Past (w.heap.size + 1 + 1) w1 rB) := HPqB.out.trans hPrB
  clear hPrB HPqB hCqB
  go_wp2_with fail
  refine (specNum_any zB yB _ (by omega) (by omega)).mono ?_
  rintro e nB ⟨rfl, hbB⟩
  have hbqB := numP_bounds zB yB
  generalize tK (numP zB yB) = kB at *
  generalize tN (numP zB yB) = mB at *
  generalize tS (numP zB yB) = sB at *
  generalize numOk (numP zB yB).1 (numP zB yB).2 = okB at *
  have hbbB := bl_trans hbB (bl_a (.cells #[.int .i64 kB, .slice none 0 0, .int .i64 mB, .int .i64 sB] 24))
  have hOB := Own4.at nB nB.heap.size (.int .i64 kB) (.slice none 0 0) (.int .i64 mB) (.int .i64 sB) 24 rfl
  have hsnB := hbB.size
  replace hR1 := hR1.below hbbB
  replace hR2 := hR2.below hbbB
  replace hOA := hOA.below hbbB
  have HPnB : Hid (Past (w.heap.size + 1 + 1) w1 (nB.alloc (.cells #[.int .i64 kB, .slice none 0 0, .int .i64 mB, .int .i64 sB] 24))) := HPrB.out.trans (Past.of_below hbbB)
  have hCnB := hCrB.below hbbB
  have hszB : (nB.alloc (.cells #[.int .i64 kB, .slice none 0 0, .int .i64 mB, .int .i64 sB] 24)).heap.size = nB.heap.size + 1 := by simp
  clear hbB hbbB HPrB hCrB
  go_wp2_with fail
  refine (O (nB.alloc (.cells #[.int .i64 kB, .slice none 0 0, .int .i64 mB, .int .i64 sB] 24)) 8 hCnB (by omega) (by omega)).mono ?_
  rintro e w7 ⟨p, rfl, hP7, hC7⟩
  have hs7 := hP7.size
  replace hR1 := hR1.past hP7 (by omega)
  replace hR2 := hR2.past hP7 (by omega)
  replace hOA := hOA.past hP7 (by omega)
  replace hOB := hOB.past hP7 (by omega)
  have HP7 : Hid (Past (w.heap.size + 1 + 1) w1 w7) := HPnB.out.trans hP7
  clear hP7 HPnB hCnB B BB O
  cases p
  · have hbA := hbqA
    obtain ⟨bsA, hbsA⟩ : ∃ b : List Int, b = [] := ⟨_, rfl⟩
    have hT7 : BTx w7 w1.heap.size none 0 bsA := by rw [hbsA]; exact BTx.none _ _
    clear hbsA
    obtain ⟨⟨a0, a1, a2, a3, a4⟩, af0, af1, af2, af3⟩ := id hOA
    obtain ⟨⟨b0, b1, b2, b3, b4⟩, bf0, bf1, bf2, bf3⟩ := id hOB
    go_wp2_with fail
    go_region_held3 (fun w' => w'.cell? ⟨nA.heap.size, 0, none⟩ = some (.int .i64 kA) ∧ w'.cell? ⟨nA.heap.size, 1, none⟩ = some (.slice none 0 0) ∧ w'.cell? ⟨nA.heap.size, 2, none⟩ = some (.int .i64 mA) ∧ w'.cell? ⟨nA.heap.size, 3, none⟩ = some (.int .i64 sA) ∧ w'.cell? ⟨nB.heap.size, 0, none⟩ = some (.int .i64 kB) ∧ w'.cell? ⟨nB.heap.size, 1, none⟩ = some (.slice none 0 0) ∧ w'.cell? ⟨nB.heap.size, 2, none⟩ = some (.int .i64 mB) ∧ w'.cell? ⟨nB.heap.size, 3, none⟩ = some (.int .i64 sB)) (simp [*, go_sem])
      (first
        | (go_at_call 26; refine (PI _ w7.heap.size 7 (fun i => if i = 0 then 0 else if i = 1 then 1 else if i = 2 then 2 else if i = 3 then 3 else if i = 4 then 3 else if i = 5 then -1 else 4) ((hC7.below bl_drewD).below (bl_a _)) (by omega) (by omega) (by simp) (by omega) (by
            intro i hi
            have hii : i = 0 ∨ i = 1 ∨ i = 2 ∨ i = 3 ∨ i = 4 ∨ i = 5 ∨ i = 6 := by omega
            rcases hii with rfl | rfl | rfl | rfl | rfl | rfl | rfl
            all_goals simp [go_sem])).mono ?_; rintro e w9 ⟨j, hj, rfl, hP9, hC9⟩; generalize (if j = 0 then (0 : Int) else if j = 1 then 1 else if j = 2 then 2 else if j = 3 then 3 else if j = 4 then 3 else if j = 5 then -1 else 4) = op; have hQ9 := (Past.of_below (bl_trans bl_drewD (bl_a _))).trans hP9; have hR19 := hR1.past hQ9 (by omega); have hR29 := hR2.past hQ9 (by omega); have hOA9 := hOA.past hQ9 (by omega); have hOB9 := hOB.past hQ9 (by omega); have hT9 := hT7.past hQ9 (by omega); have HP9 : Hid (Past (w.heap.size + 1 + 1) w1 w9) := HP7.out.trans hQ9; clear hP9 hQ9 hC9; obtain ⟨⟨a0, a1, a2, a3, a4⟩, af0, af1, af2, af3⟩ := id hOA9; obtain ⟨⟨b0, b1, b2, b3, b4⟩, bf0, bf1, bf2, bf3⟩ := id hOB9; obtain ⟨⟨o0, o1, o2, o3, o4⟩, f0, f1, f2, f3⟩ := id hR19; obtain ⟨⟨p0, p1, p2, p3, p4⟩, e0, e1, e2, e3⟩ := id hR29))
    have HW : Hid (Below w.heap.size w w9) := hw1.trans (HP9.out.below (by omega) hw1.size)
    have HT : Hid (BTx w9 w1.heap.size none 0 bsA) := hT9.mono (by omega)
    go_wp2
    refine bodyPost_ret (v := .tuple #[.int .i64 op, .agg #[.int .i64 kA, .slice none 0 0, .int .i64 mA, .int .i64 sA], .agg #[.int .i64 kB, .slice none 0 0, .int .i64 mB, .int .i64 sB]]) (by simp [results, Try.results11, go_sem, *]) rfl ⟨op, ⟨kA, none, 0, 0, bsA, mA, sA⟩, ⟨kB, none, 0, 0, [], mB, sB⟩, rfl, ⟨hbA.1, hbA.2, ?_⟩, ⟨hbqB.1, hbqB.2, ?_⟩, ?_⟩
    · exact ((HT.out.past (((((Past.refl w.heap.size w9).set 0 _).set 1 _).set 2 _).set 3 _) (by omega)).past (((((Past.refl (w.heap.size + 1) _).set 0 _).set 1 _).set 2 _).set 3 _) (by omega)).1
    · exact ⟨rfl, by show (0 : Nat) ≤ _; omega, by simp, .inl rfl⟩
    · exact bl_set (bl_set (bl_set (bl_set (bl_set (bl_set (bl_set (bl_set HW.out (Nat.le_refl _) _) (Nat.le_refl _) _) (Nat.le_refl _) _) (Nat.le_refl _) _) (Nat.le_succ _) _) (Nat.le_succ _) _) (Nat.le_succ _) _) (Nat.le_succ _) _
  · obtain ⟨⟨a0, a1, a2, a3, a4⟩, af0, af1, af2, af3⟩ := id hOA
    go_wp2_with fail
    refine (l1bent_any _ a len cap _ hlen hC7).mono ?_
    rintro e w8 ⟨⟨kC, mC, sC, ta, tl, tc, bsA, rfl, hnC, hscC, htlC, hT⟩, hP8, hC8⟩
    have hs8 := hP8.size
    replace hR1 := hR1.past hP8 (by omega)
    replace hR2 := hR2.past hP8 (by omega)
    replace hOA := hOA.past hP8 (by omega)
    replace hOB := hOB.past hP8 (by omega)
    have hbA : (-9223372036854775808 ≤ mC ∧ mC ≤ 9223372036854775807) ∧ (-9223372036854775808 ≤ sC ∧ sC ≤ 9223372036854775807) := ⟨hnC, hscC⟩
    obtain ⟨hPz, hCz, hTz, hQz⟩ := z_set4 (v0 := .int .i64 kC) (v1 := .slice ta tl tc) (v2 := .int .i64 mC) (v3 := .int .i64 sC) HCB.out (HP7.out.trans hP8) hC8 hT (show nA.heap.size < w7.heap.size by omega) (by omega) (by omega)
    have HPz : Hid (Past (w.heap.size + 1 + 1) w1 ((((w8.setCell ⟨nA.heap.size, 0, none⟩ (.int .i64 kC)).setCell ⟨nA.heap.size, 1, none⟩ (.slice ta tl tc)).setCell ⟨nA.heap.size, 2, none⟩ (.int .i64 mC)).setCell ⟨nA.heap.size, 3, none⟩ (.int .i64 sC))) := hPz
    clear a0 a1 a2 a3 a4 af0 af1 af2 af3
    obtain ⟨⟨a0, a1, a2, a3, a4⟩, af0, af1, af2, af3⟩ := id hOA
    go_wp2_with fail
    clear a0 a1 a2 a3 a4 af0 af1 af2 af3
    replace hR1 := hR1.past hQz (by omega)
    replace hR2 := hR2.past hQz (by omega)
    replace hOB := hOB.past hQz (by omega)
    replace hOA := hOA.set4 (.int .i64 kC) (.slice ta tl tc) (.int .i64 mC) (.int .i64 sC)
    have hsz8 := hQz.size
    clear hPz hQz hP8 hC8 hT hC7 HP7
    generalize (((w8.setCell ⟨nA.heap.size, 0, none⟩ (.int .i64 kC)).setCell ⟨nA.heap.size, 1, none⟩ (.slice ta tl tc)).setCell ⟨nA.heap.size, 2, none⟩ (.int .i64 mC)).setCell ⟨nA.heap.size, 3, none⟩ (.int .i64 sC) = wy at *
    obtain ⟨⟨a0, a1, a2, a3, a4⟩, af0, af1, af2, af3⟩ := id hOA
    obtain ⟨⟨b0, b1, b2, b3, b4⟩, bf0, bf1, bf2, bf3⟩ := id hOB
    go_wp2_with fail
    go_region_held3 (fun w' => w'.cell? ⟨nA.heap.size, 0, none⟩ = some (.int .i64 kC) ∧ w'.cell? ⟨nA.heap.size, 1, none⟩ = some (.slice ta tl tc) ∧ w'.cell? ⟨nA.heap.size, 2, none⟩ = some (.int .i64 mC) ∧ w'.cell? ⟨nA.heap.size, 3, none⟩ = some (.int .i64 sC) ∧ w'.cell? ⟨nB.heap.size, 0, none⟩ = some (.int .i64 kB) ∧ w'.cell? ⟨nB.heap.size, 1, none⟩ = some (.slice none 0 0) ∧ w'.cell? ⟨nB.heap.size, 2, none⟩ = some (.int .i64 mB) ∧ w'.cell? ⟨nB.heap.size, 3, none⟩ = some (.int .i64 sB)) (simp [*, go_sem])
      (first
        | (go_at_call 26; refine (PI _ wy.heap.size 7 (fun i => if i = 0 then 0 else if i = 1 then 1 else if i = 2 then 2 else if i = 3 then 3 else if i = 4 then 3 else if i = 5 then -1 else 4) ((hCz.below bl_drewD).below (bl_a _)) (by omega) (by omega) (by simp) (by omega) (by
            intro i hi
            have hii : i = 0 ∨ i = 1 ∨ i = 2 ∨ i = 3 ∨ i = 4 ∨ i = 5 ∨ i = 6 := by omega
            rcases hii with rfl | rfl | rfl | rfl | rfl | rfl | rfl
            all_goals simp [go_sem])).mono ?_; rintro e w9 ⟨j, hj, rfl, hP9, hC9⟩; generalize (if j = 0 then (0 : Int) else if j = 1 then 1 else if j = 2 then 2 else if j = 3 then 3 else if j = 4 then 3 else if j = 5 then -1 else 4) = op; have hQ9 := (Past.of_below (bl_trans bl_drewD (bl_a _))).trans hP9; have hR19 := hR1.past hQ9 (by omega); have hR29 := hR2.past hQ9 (by omega); have hOA9 := hOA.past hQ9 (by omega); have hOB9 := hOB.past hQ9 (by omega); have hT9 := hTz.past hQ9 (by omega); have HP9 : Hid (Past (w.heap.size + 1 + 1) w1 w9) := HPz.out.trans hQ9; clear hP9 hQ9 hC9; obtain ⟨⟨a0, a1, a2, a3, a4⟩, af0, af1, af2, af3⟩ := id hOA9; obtain ⟨⟨b0, b1, b2, b3, b4⟩, bf0, bf1, bf2, bf3⟩ := id hOB9; obtain ⟨⟨o0, o1, o2, o3, o4⟩, f0, f1, f2, f3⟩ := id hR19; obtain ⟨⟨p0, p1, p2, p3, p4⟩, e0, e1, e2, e3⟩ := id hR29))
    have HW : Hid (Below w.heap.size w w9) := hw1.trans (HP9.out.below (by omega) hw1.size)
    have HT : Hid (BTx w9 w1.heap.size ta tl bsA) := hT9.mono (by omega)
    go_wp2
    refine bodyPost_ret (v := .tuple #[.int .i64 op, .agg #[.int .i64 kC, .slice ta tl tc, .int .i64 mC, .int .i64 sC], .agg #[.int .i64 kB, .slice none 0 0, .int .i64 mB, .int .i64 sB]]) (by simp [results, Try.results11, go_sem, *]) rfl ⟨op, ⟨kC, ta, tl, tc, bsA, mC, sC⟩, ⟨kB, none, 0, 0, [], mB, sB⟩, rfl, ⟨hbA.1, hbA.2, ?_⟩, ⟨hbqB.1, hbqB.2, ?_⟩, ?_⟩
    · exact ((HT.out.past (((((Past.refl w.heap.size w9).set 0 _).set 1 _).set 2 _).set 3 _) (by omega)).past (((((Past.refl (w.heap.size + 1) _).set 0 _).set 1 _).set 2 _).set 3 _) (by omega)).1
    · exact ⟨rfl, by show (0 : Nat) ≤ _; omega, by simp, .inl rfl⟩
    · exact bl_set (bl_set (bl_set (bl_set (bl_set (bl_set (bl_set (bl_set HW.out (Nat.le_refl _) _) (Nat.le_refl _) _) (Nat.le_refl _) _) (Nat.le_refl _) _) (Nat.le_succ _) _) (Nat.le_succ _) _) (Nat.le_succ _) _) (Nat.le_succ _) _
end Go.Proofs.Ytjhobhkdncdnaaa
