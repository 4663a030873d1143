/- Texts put together: DrwK -/
import Derived.Test.YtiodiooaaojbhaaGreatDoorNk04
/- DrwK -/
namespace Go.Proofs.YtiodiooaaojbhaaGreatDoor
open Go.RowKit Go.Deep

/-- What a draw of a term that may be answers. -/
def TermResK (q : Int → Prop) (B : Nat) (e : Ending) (w' : World) : Prop := ∃ (k n s : Int) (a : Option Addr) (len cap : Nat) (bs : List Int), e = .returned (.agg #[.int .i64 k, .slice a len cap, .int .i64 n, .int .i64 s]) ∧ (-9223372036854775808 ≤ n ∧ n ≤ 9223372036854775807) ∧ (0 ≤ s ∧ s ≤ 6) ∧ len ≤ 100 ∧ Tx w' B a len cap bs ∧ termOk k bs n s = true ∧ q k
def TermDrawnK (g : Nat) (a : Option Addr) (len cap : Nat) (w : World) (e : Ending) (w' : World) : Prop := TermResK (fun _ => True) w.heap.size e w' ∧ Past g w w' ∧ Cur w' g a len cap
theorem numP_may (q : Int) (z : Nat) (h : tK (numP q z) = 3) : termOk 3 [] (tN (numP q z)) (tS (numP q z)) = true := by
  unfold tK at h
  unfold tN tS
  by_cases h2 : numOk (numP q z).1 (numP q z).2 = true
  · rw [if_pos h2, if_pos h2]
    simpa [termOk] using h2
  · rw [if_neg h2] at h
    omega
theorem int_may (n : Int) (h : -1000 ≤ n ∧ n ≤ 1000) : termOk 3 [] n 0 = true := by
  simp [termOk, numOk]
  omega
theorem blank_may (n : Nat) (h : n ≤ 1000) : termOk 1 [] n 0 = true := by
  simp [termOk]
  omega
theorem l1name_may (s : ByteArray) (w : World) (hs : s.size ≤ 100) (hok : termOk 0 (numsOf s) 0 0 = true) :
    Calls Tryz.prog 94 #[.string s] w fun e w' => TermResK (fun k => k = 0) w.heap.size e w' ∧ Below w.heap.size w w' := by
  have HOK : Hid (termOk 0 (numsOf s) 0 0 = true) := hok
  clear hok
  have hcv := fun w => Lib.run_convert_string_bytes (P := Tryz.prog) w 9 22 5 s Tryz.underlying9 Tryz.underlying22 Tryz.underlying5
  have hW : ∀ T, Own4 (w.alloc (.cells #[.int .i64 0, .slice none 0 0, .int .i64 0, .int .i64 0] T)) w.heap.size (.int .i64 0) (.slice none 0 0) (.int .i64 0) (.int .i64 0) := fun T => Own4.at w _ _ _ _ _ T rfl
  have hb1 := bytesWorld_below (w.alloc (.cells #[.int .i64 0, .slice none 0 0, .int .i64 0, .int .i64 0] 43)) 5 s
  have hT := Tx.conv (w.alloc (.cells #[.int .i64 0, .slice none 0 0, .int .i64 0, .int .i64 0] 43)) s 5 (by omega)
  have hO := (hW 43).below hb1
  clear hW
  obtain ⟨⟨o0, o1, o2, o3, o4⟩, f0, f1, f2, f3⟩ := id hO
  have HT : Hid (Tx (Lib.bytesWorld (w.alloc (.cells #[.int .i64 0, .slice none 0 0, .int .i64 0, .int .i64 0] 43)) 5 s) (w.alloc (.cells #[.int .i64 0, .slice none 0 0, .int .i64 0, .int .i64 0] 43)).heap.size (some ⟨(w.alloc (.cells #[.int .i64 0, .slice none 0 0, .int .i64 0, .int .i64 0] 43)).heap.size, 0, none⟩) s.size (grownCap (w.alloc (.cells #[.int .i64 0, .slice none 0 0, .int .i64 0, .int .i64 0] 43)) s.size 0 5) (numsOf s)) := hT
  have HB : Hid (Below w.heap.size w (Lib.bytesWorld (w.alloc (.cells #[.int .i64 0, .slice none 0 0, .int .i64 0, .int .i64 0] 43)) 5 s)) := bl_trans (bl_a _) hb1
  clear hT hb1 hO
  go_enter Tryz.func94, Tryz.ntmps94
  go_wp2
  refine bodyPost_ret (v := .agg #[.int .i64 0, .slice (some ⟨w.heap.size + 1, 0, none⟩) s.size (grownCap (w.alloc (.cells #[.int .i64 0, .slice none 0 0, .int .i64 0, .int .i64 0] 43)) s.size 0 5), .int .i64 0, .int .i64 0]) (by simp [results, Tryz.results94, go_sem, *]) rfl ⟨⟨0, 0, 0, _, _, _, numsOf s, rfl, by omega, by omega, hs, ?_, HOK.out, rfl⟩, ?_⟩
  · have hP := Past.set (Past.set (Past.set (Past.set (Past.refl w.heap.size (Lib.bytesWorld (w.alloc (.cells #[.int .i64 0, .slice none 0 0, .int .i64 0, .int .i64 0] 43)) 5 s)) 0 (.int .i64 0)) 1 (.slice (some ⟨w.heap.size + 1, 0, none⟩) s.size (grownCap (w.alloc (.cells #[.int .i64 0, .slice none 0 0, .int .i64 0, .int .i64 0] 43)) s.size 0 5))) 2 (.int .i64 0)) 3 (.int .i64 0)
    have := (HT.out.past hP (by simp)).mono (B' := w.heap.size) (by simp)
    simpa using this
  · exact bl_set (bl_set (bl_set (bl_set HB.out (Nat.le_refl _) _) (Nat.le_refl _) _) (Nat.le_refl _) _) (Nat.le_refl _) _
theorem l1int_may (n : Int) (w : World) (h : -1000 ≤ n ∧ n ≤ 1000) :
    Calls Tryz.prog 114 #[.int .i64 n] w fun e w' => TermResK (fun _ => True) w.heap.size e w' ∧ Below w.heap.size w w' := by
  go_enter Tryz.func114, Tryz.ntmps114
  go_wp2
  refine bodyPost_ret (v := .agg #[.int .i64 3, .slice none 0 0, .int .i64 n, .int .i64 0]) (by simp [results, Tryz.results114, go_sem]) rfl ⟨⟨3, n, 0, none, 0, 0, [], rfl, by omega, by omega, by omega, Tx.nil _ _, int_may n h, trivial⟩, bl_a _⟩
/-- The end of a draw: the answer is laid into block r and given back. -/
theorem term_endK {g : Nat} {a : Option Addr} {len cap : Nat} {w w3 : World} {k n s : Int} {ta : Option Addr} {tl tc : Nat} {bs : List Int} {r B : Nat} (hC : Cur w g a len cap) (hP : Past g w w3) (hC3 : Cur w3 g a len cap) (hT : Tx w3 B ta tl tc bs) (hB : r < B) (hr : w.heap.size ≤ r) (hrg : g ≠ r)
    (hn : -9223372036854775808 ≤ n ∧ n ≤ 9223372036854775807) (hs : 0 ≤ s ∧ s ≤ 6) (hl : tl ≤ 100) (hok : termOk k bs n s = true) :
    TermDrawnK g a len cap w (.returned (.agg #[.int .i64 k, .slice ta tl tc, .int .i64 n, .int .i64 s])) ((((w3.setCell ⟨r, 0, none⟩ (.int .i64 k)).setCell ⟨r, 1, none⟩ (.slice ta tl tc)).setCell ⟨r, 2, none⟩ (.int .i64 n)).setCell ⟨r, 3, none⟩ (.int .i64 s)) := by
  have hQ : Past r w3 ((((w3.setCell ⟨r, 0, none⟩ (.int .i64 k)).setCell ⟨r, 1, none⟩ (.slice ta tl tc)).setCell ⟨r, 2, none⟩ (.int .i64 n)).setCell ⟨r, 3, none⟩ (.int .i64 s)) := ((((Past.refl r w3).set 0 _).set 1 _).set 2 _).set 3 _
  have hP' : Past g w ((((w3.setCell ⟨r, 0, none⟩ (.int .i64 k)).setCell ⟨r, 1, none⟩ (.slice ta tl tc)).setCell ⟨r, 2, none⟩ (.int .i64 n)).setCell ⟨r, 3, none⟩ (.int .i64 s)) := (((hP.set_new (p := ⟨r, 0, none⟩) hr _).set_new (p := ⟨r, 1, none⟩) hr _).set_new (p := ⟨r, 2, none⟩) hr _).set_new (p := ⟨r, 3, none⟩) hr _
  exact ⟨⟨k, n, s, ta, tl, tc, bs, rfl, hn, hs, hl, (hT.past hQ hB).mono (by omega), hok, trivial⟩, hP', hC.glue hC3 hP' (hQ.block g hC3.lt hrg)⟩

set_option maxRecDepth 20000 in
set_option maxHeartbeats 2000000 in
theorem l1term_may (g : Nat) (a : Option Addr) (len cap : Nat) (w : World) (hlen : len ≤ 9223372036854775807) (hC : Cur w g a len cap) :
    Calls Tryz.prog 95 #[.pointer (some ⟨g, 0, none⟩)] w fun e w' => TermDrawnK g a len cap w e w' := by
  have B := fun w (n : Nat) (h : Cur w g a len cap) (h1 : 1 ≤ n) (h2 : n ≤ 256) => l1Below_any g a len cap n w hlen h h1 h2
  have O := fun w (n : Nat) (h : Cur w g a len cap) (h1 : 1 ≤ n) (h2 : n ≤ 256) => l1Once_any g a len cap n w hlen h h1 h2
  have hgl := hC.lt
  have HC : Hid (Cur w g a len cap) := hC
  clear hC
  go_enter Tryz.func95, Tryz.ntmps95
  go_wp2_with fail
  refine (B _ 6 (HC.out.below (bl_a _)) (by omega) (by omega)).mono ?_
  rintro e w1 ⟨x, rfl, hx, hP1, hC1⟩
  have hR1 := (Own4.at w w.heap.size (.int .i64 0) (.slice none 0 0) (.int .i64 0) (.int .i64 0) 43 rfl)
  have hR : Own4 w1 w.heap.size (.int .i64 0) (.slice none 0 0) (.int .i64 0) (.int .i64 0) := hR1.past hP1 (by omega)
  have hP := (Past.of_below (g := g) (bl_a (w := w) (.cells #[.int .i64 0, .slice none 0 0, .int .i64 0, .int .i64 0] 43))).trans hP1
  have hs1 := hP1.size
  simp at hs1
  clear hR1 hP1
  by_cases hx2 : x = 2
  · subst hx2
    go_wp2_with fail
    refine (B _ 4 hC1 (by omega) (by omega)).mono ?_
    rintro e w2 ⟨y, rfl, hy, hP2, hC2⟩
    have hR2 := hR.past hP2 (by omega)
    replace hP := hP.trans hP2
    have HP : Hid (Past g w w2) := hP
    have HC2 : Hid (Cur w2 g a len cap) := hC2
    obtain ⟨⟨o0, o1, o2, o3, o4⟩, f0, f1, f2, f3⟩ := id hR2
    clear B O hC1 hR hP hP2 hC2 hR2
    go_wp2
    refine bodyPost_ret (v := .agg #[.int .i64 1, .slice none 0 0, .int .i64 y, .int .i64 0]) (by simp [results, Tryz.results95, go_sem, *]) rfl ?_
    exact term_endK HC.out HP.out HC2.out (Tx.nil w2 (w.heap.size + 1)) (by omega) (Nat.le_refl _) (by omega) (by omega) (by omega) (by omega) (blank_may y (by omega))
  by_cases hx3 : x ≤ 1
  · have hxx : x = 0 ∨ x = 1 := by omega
    rcases hxx with rfl | rfl
    · go_wp2_with fail
      refine (B _ 6 (hC1.below (bl_a _)) (by omega) (by omega)).mono ?_
      rintro e w2 ⟨y, rfl, hy, hP2, hC2⟩
      have hcl := hP2.cell (p := ⟨w1.heap.size, y, none⟩) (by simp) (show w1.heap.size ≠ g by omega)
      have hs2 := hP2.size
      simp at hs2
      have hR2 := (hR.below (bl_a _)).past hP2 (by omega)
      replace hP := (hP.trans (Past.of_below (bl_a _))).trans hP2
      obtain ⟨t, ht, hct⟩ : ∃ t : ByteArray, (t.size ≤ 100 ∧ termOk 0 (numsOf t) 0 0 = true) ∧ w2.cell? ⟨w1.heap.size, y, none⟩ = some (.string t) := by
        have hyy : y = 0 ∨ y = 1 ∨ y = 2 ∨ y = 3 ∨ y = 4 ∨ y = 5 := by omega
        rcases hyy with rfl | rfl | rfl | rfl | rfl | rfl
        all_goals
          simp [go_sem] at hcl
          exact ⟨_, by decide, hcl⟩
      have HP : Hid (Past g w w2) := hP
      have HC2 : Hid (Cur w2 g a len cap) := hC2
      clear B O hC1 hP2 hR hcl hP hC2
      go_wp2_with fail
      refine (l1name_may t _ ht.1 ht.2).mono ?_
      rintro e w3 ⟨⟨k, n, s, ta, tl, tc, bs, rfl, hn, hsc, htl, hT, hok, hkq⟩, hb3⟩
      have HOK : Hid (termOk k bs n s = true) := hok
      clear hok hkq
      have hR3 := hR2.below hb3
      have HP3 : Hid (Past g w w3) := HP.out.trans (Past.of_below hb3)
      have HC3 : Hid (Cur w3 g a len cap) := HC2.out.below hb3
      have HT : Hid (Tx w3 w2.heap.size ta tl tc bs) := hT
      obtain ⟨⟨o0, o1, o2, o3, o4⟩, f0, f1, f2, f3⟩ := id hR3
      clear hR2 hR3 hT hb3 HP HC2 hct
      go_wp2
      refine bodyPost_ret (v := .agg #[.int .i64 k, .slice ta tl tc, .int .i64 n, .int .i64 s]) (by simp [results, Tryz.results95, go_sem, *]) rfl ?_
      exact term_endK HC.out HP3.out HC3.out HT.out (by omega) (Nat.le_refl _) (by omega) hn hsc htl HOK.out
    · go_wp2_with fail
      refine (B _ 6 (hC1.below (bl_a _)) (by omega) (by omega)).mono ?_
      rintro e w2 ⟨y, rfl, hy, hP2, hC2⟩
      have hcl := hP2.cell (p := ⟨w1.heap.size, y, none⟩) (by simp) (show w1.heap.size ≠ g by omega)
      have hs2 := hP2.size
      simp at hs2
      have hR2 := (hR.below (bl_a _)).past hP2 (by omega)
      replace hP := (hP.trans (Past.of_below (bl_a _))).trans hP2
      obtain ⟨t, ht, hct⟩ : ∃ t : ByteArray, (t.size ≤ 100 ∧ termOk 0 (numsOf t) 0 0 = true) ∧ w2.cell? ⟨w1.heap.size, y, none⟩ = some (.string t) := by
        have hyy : y = 0 ∨ y = 1 ∨ y = 2 ∨ y = 3 ∨ y = 4 ∨ y = 5 := by omega
        rcases hyy with rfl | rfl | rfl | rfl | rfl | rfl
        all_goals
          simp [go_sem] at hcl
          exact ⟨_, by decide, hcl⟩
      have HP : Hid (Past g w w2) := hP
      have HC2 : Hid (Cur w2 g a len cap) := hC2
      clear B O hC1 hP2 hR hcl hP hC2
      go_wp2_with fail
      refine (l1name_may t _ ht.1 ht.2).mono ?_
      rintro e w3 ⟨⟨k, n, s, ta, tl, tc, bs, rfl, hn, hsc, htl, hT, hok, hkq⟩, hb3⟩
      have HOK : Hid (termOk k bs n s = true) := hok
      clear hok hkq
      have hR3 := hR2.below hb3
      have HP3 : Hid (Past g w w3) := HP.out.trans (Past.of_below hb3)
      have HC3 : Hid (Cur w3 g a len cap) := HC2.out.below hb3
      have HT : Hid (Tx w3 w2.heap.size ta tl tc bs) := hT
      obtain ⟨⟨o0, o1, o2, o3, o4⟩, f0, f1, f2, f3⟩ := id hR3
      clear hR2 hR3 hT hb3 HP HC2 hct
      go_wp2
      refine bodyPost_ret (v := .agg #[.int .i64 k, .slice ta tl tc, .int .i64 n, .int .i64 s]) (by simp [results, Tryz.results95, go_sem, *]) rfl ?_
      exact term_endK HC.out HP3.out HC3.out HT.out (by omega) (Nat.le_refl _) (by omega) hn hsc htl HOK.out
  by_cases hx4 : x = 3
  · subst hx4
    go_wp2_with fail
    refine (B _ 6 (hC1.below (bl_a _)) (by omega) (by omega)).mono ?_
    rintro e w2 ⟨y, rfl, hy, hP2, hC2⟩
    have hcl := hP2.cell (p := ⟨w1.heap.size, y, none⟩) (by simp) (show w1.heap.size ≠ g by omega)
    have hs2 := hP2.size
    simp at hs2
    have hR2 := (hR.below (bl_a _)).past hP2 (by omega)
    replace hP := (hP.trans (Past.of_below (bl_a _))).trans hP2
    obtain ⟨t, ht, hct⟩ : ∃ t : ByteArray, (t.size ≤ 100 ∧ termOk 2 (numsOf t) 0 0 = true) ∧ w2.cell? ⟨w1.heap.size, y, none⟩ = some (.string t) := by
      have hyy : y = 0 ∨ y = 1 ∨ y = 2 ∨ y = 3 ∨ y = 4 ∨ y = 5 := by omega
      rcases hyy with rfl | rfl | rfl | rfl | rfl | rfl
      all_goals
        simp [go_sem] at hcl
        exact ⟨_, by decide, hcl⟩
    have HP : Hid (Past g w w2) := hP
    have HC2 : Hid (Cur w2 g a len cap) := hC2
    clear B O hC1 hP2 hR hcl hP hC2
    have hcv := fun w => Lib.run_convert_string_bytes (P := Tryz.prog) w 9 22 5 t Tryz.underlying9 Tryz.underlying22 Tryz.underlying5
    have hb3 := bytesWorld_below w2 5 t
    have hR3 := hR2.below hb3
    have HP3 : Hid (Past g w (Lib.bytesWorld w2 5 t)) := HP.out.trans (Past.of_below hb3)
    have HC3 : Hid (Cur (Lib.bytesWorld w2 5 t) g a len cap) := HC2.out.below hb3
    have HT : Hid (Tx (Lib.bytesWorld w2 5 t) w2.heap.size (some ⟨w2.heap.size, 0, none⟩) t.size (grownCap w2 t.size 0 5) (numsOf t)) := Tx.conv w2 t 5 (by have := ht.1; omega)
    obtain ⟨⟨o0, o1, o2, o3, o4⟩, f0, f1, f2, f3⟩ := id hR3
    clear hR2 hR3 hb3 HP HC2
    go_wp2
    refine bodyPost_ret (v := .agg #[.int .i64 2, .slice (some ⟨w2.heap.size, 0, none⟩) t.size (grownCap w2 t.size 0 5), .int .i64 0, .int .i64 0]) (by simp [results, Tryz.results95, go_sem, *]) rfl ?_
    exact term_endK HC.out HP3.out HC3.out HT.out (by omega) (Nat.le_refl _) (by omega) (by omega) (by omega) ht.1 ht.2
  have PI := fun w (lb n : Nat) (L : Nat → Int) (h : Cur w g a len cap) h1 h2 h3 h4 h5 => l1PickInt_any g lb a len cap n L w hlen h h1 h2 h3 h4 h5
  have hxx : x = 4 ∨ x = 5 := by omega
  have e0 : ((x : Int) == 0) = false := by simp; omega
  have e1 : ((x : Int) == 1) = false := by simp; omega
  have e2 : ((x : Int) == 2) = false := by simp; omega
  have e3 : ((x : Int) == 3) = false := by simp; omega
  go_wp2_with fail
  refine (O _ 3 hC1 (by omega) (by omega)).mono ?_
  rintro e w2 ⟨p, rfl, hP2, hC2⟩
  have hR2 := hR.past hP2 (by omega)
  have hs2 := hP2.size
  have HP2 : Hid (Past g w w2) := hP.trans hP2
  clear hC1 hR hP hP2 hxx
  cases p
  · have hRq := hR2
    have HPq := HP2
    have HCq : Hid (Cur w2 g a len cap) := hC2
    clear hR2 HP2 hC2 PI
    go_wp2_with fail
    refine (B _ 7 HCq.out (by omega) (by omega)).mono ?_
    rintro e w5 ⟨z, rfl, hz, hP5, hC5⟩
    have hR5 := hRq.past hP5 (by omega)
    have hs5 := hP5.size
    have HP5 : Hid (Past g w w5) := HPq.out.trans hP5
    have HC5 : Hid (Cur w5 g a len cap) := hC5
    clear B O hP5 hC5 hRq HPq HCq
    go_wp2_with fail
    refine (l1int_may ((z : Int) - 2) _ (by omega)).mono ?_
    rintro e w6 ⟨⟨k, n, s, ta, tl, tc, bs, rfl, hn, hsc, htl, hT, hok, hkq⟩, hb6⟩
    have HOK : Hid (termOk k bs n s = true) := hok
    clear hok hkq
    have hR6 := hR5.below hb6
    have HP6 : Hid (Past g w w6) := HP5.out.trans (Past.of_below hb6)
    have HC6 : Hid (Cur w6 g a len cap) := HC5.out.below hb6
    have HT : Hid (Tx w6 w5.heap.size ta tl tc bs) := hT
    obtain ⟨⟨o0, o1, o2, o3, o4⟩, f0, f1, f2, f3⟩ := id hR6
    clear hR5 hR6 hT hb6 HP5 HC5
    go_wp2
    refine bodyPost_ret (v := .agg #[.int .i64 k, .slice ta tl tc, .int .i64 n, .int .i64 s]) (by simp [results, Tryz.results95, go_sem, *]) rfl ?_
    exact term_endK HC.out HP6.out HC6.out HT.out (by omega) (Nat.le_refl _) (by omega) hn hsc htl HOK.out
  · go_wp2_with fail
    refine (PI _ w2.heap.size 7 (fun i => if i = 0 then 15 else if i = 1 then -25 else if i = 2 then 1 else if i = 3 then 1000000000000000 else if i = 4 then -1000000000000000 else if i = 5 then 999999 else 123456789012) (hC2.below (bl_a _)) (by omega) (by omega) (by simp) (by omega) (by
      intro i hi
      have hii : i = 0 ∨ i = 1 ∨ i = 2 ∨ i = 3 ∨ i = 4 ∨ i = 5 ∨ i = 6 := by omega
      rcases hii with rfl | rfl | rfl | rfl | rfl | rfl | rfl
      all_goals simp [go_sem])).mono ?_
    rintro e w3 ⟨j, hj, rfl, hP3, hC3⟩
    obtain ⟨q, hq, hq1, hq2⟩ : ∃ q : Int, q = (if j = 0 then 15 else if j = 1 then -25 else if j = 2 then 1 else if j = 3 then 1000000000000000 else if j = 4 then -1000000000000000 else if j = 5 then 999999 else 123456789012) ∧ -1000000000000000 ≤ q ∧ q ≤ 1000000000000000 := by
      refine ⟨_, rfl, ?_⟩
      have hii : j = 0 ∨ j = 1 ∨ j = 2 ∨ j = 3 ∨ j = 4 ∨ j = 5 ∨ j = 6 := by omega
      rcases hii with rfl | rfl | rfl | rfl | rfl | rfl | rfl
      all_goals decide
    rw [← hq]
    clear hq hj
    have hR3 := (hR2.below (bl_a _)).past hP3 (by omega)
    have hs3 := hP3.size
    simp at hs3
    have HP3 : Hid (Past g w w3) := (HP2.out.trans (Past.of_below (bl_a _))).trans hP3
    clear hP3 hR2 HP2 hC2
    go_wp2_with fail
    refine (B _ 7 hC3 (by omega) (by omega)).mono ?_
    rintro e w4 ⟨z, rfl, hz, hP4, hC4⟩
    have hR4 := hR3.past hP4 (by omega)
    have hs4 := hP4.size
    have HP4 : Hid (Past g w w4) := HP3.out.trans hP4
    clear hP4 hR3 HP3 hC3
    go_wp2_with fail
    refine (specNum_any q z _ (by omega) (by omega)).mono ?_
    rintro e w5 ⟨rfl, hb5⟩
    have hbq := numP_bounds q z
    have hb6 := numP_b6 q z
    have hmay := numP_may q z
    generalize tK (numP q z) = u1 at *
    generalize tN (numP q z) = u2 at *
    generalize tS (numP q z) = u3 at *
    generalize numOk (numP q z).1 (numP q z).2 = u4 at *
    have HMAY : Hid (u1 = 3 → termOk 3 [] u2 u3 = true) := hmay
    clear hmay
    have hRq := (hR4.below hb5).below (bl_a (.cells #[.int .i64 u1, .slice none 0 0, .int .i64 u2, .int .i64 u3] 43))
    have HPq : Hid (Past g w (w5.alloc (.cells #[.int .i64 u1, .slice none 0 0, .int .i64 u2, .int .i64 u3] 43))) := (HP4.out.trans (Past.of_below hb5)).trans (Past.of_below (bl_a _))
    have HCq : Hid (Cur (w5.alloc (.cells #[.int .i64 u1, .slice none 0 0, .int .i64 u2, .int .i64 u3] 43)) g a len cap) := (hC4.below hb5).below (bl_a _)
    have hZ := At4.new w5 (.int .i64 u1) (.slice none 0 0) (.int .i64 u2) (.int .i64 u3) 43
    have hsq : w.heap.size < (w5.alloc (.cells #[.int .i64 u1, .slice none 0 0, .int .i64 u2, .int .i64 u3] 43)).heap.size := by
      have := hb5.size
      simp
      omega
    clear hb5 hR4 HP4 hC4
    by_cases hu : u1 = 3
    · subst hu
      obtain ⟨⟨o0, o1, o2, o3, o4⟩, f0, f1, f2, f3⟩ := id hRq
      clear hRq B O
      go_wp2
      refine bodyPost_ret (v := .agg #[.int .i64 3, .slice none 0 0, .int .i64 u2, .int .i64 u3]) (by simp [results, Tryz.results95, go_sem, *]) rfl ?_
      exact term_endK HC.out HPq.out HCq.out (Tx.nil _ (w.heap.size + 1)) (by omega) (Nat.le_refl _) (by omega) hbq.1 hb6 (by omega) (HMAY.out (by simp))
    · have hu' : (u1 == 3) = false := by simp [hu]
      clear hu hZ
      clear PI
      go_wp2_with fail
      refine (B _ 7 HCq.out (by omega) (by omega)).mono ?_
      rintro e w5 ⟨z, rfl, hz, hP5, hC5⟩
      have hR5 := hRq.past hP5 (by omega)
      have hs5 := hP5.size
      have HP5 : Hid (Past g w w5) := HPq.out.trans hP5
      have HC5 : Hid (Cur w5 g a len cap) := hC5
      clear B O hP5 hC5 hRq HPq HCq
      go_wp2_with fail
      refine (l1int_may ((z : Int) - 2) _ (by omega)).mono ?_
      rintro e w6 ⟨⟨k, n, s, ta, tl, tc, bs, rfl, hn, hsc, htl, hT, hok, hkq⟩, hb6⟩
      have HOK : Hid (termOk k bs n s = true) := hok
      clear hok hkq
      have hR6 := hR5.below hb6
      have HP6 : Hid (Past g w w6) := HP5.out.trans (Past.of_below hb6)
      have HC6 : Hid (Cur w6 g a len cap) := HC5.out.below hb6
      have HT : Hid (Tx w6 w5.heap.size ta tl tc bs) := hT
      obtain ⟨⟨o0, o1, o2, o3, o4⟩, f0, f1, f2, f3⟩ := id hR6
      clear hR5 hR6 hT hb6 HP5 HC5
      go_wp2
      refine bodyPost_ret (v := .agg #[.int .i64 k, .slice ta tl tc, .int .i64 n, .int .i64 s]) (by simp [results, Tryz.results95, go_sem, *]) rfl ?_
      exact term_endK HC.out HP6.out HC6.out HT.out (by omega) (Nat.le_refl _) (by omega) hn hsc htl HOK.out
end Go.Proofs.YtiodiooaaojbhaaGreatDoor
