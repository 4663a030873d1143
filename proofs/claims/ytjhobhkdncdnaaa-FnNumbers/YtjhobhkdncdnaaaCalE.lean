/- The contract of the program's Calc. -/
import Derived.Test.YtjhobhkdncdnaaaCalD
import Derived.Test.YtjhobhkdncdnaaaCmpD
import Derived.Deep.CutRange
namespace Go.Proofs.Ytjhobhkdncdnaaa
open Go.RowKit Go.Deep

theorem Own2.set {w : World} {g : Nat} {u0 u1 : Value} (h : Own2 w g u0 u1) (a b : Value) : Own2 ((w.setCell ⟨g, 0, none⟩ a).setCell ⟨g, 1, none⟩ b) g a b := by
  obtain ⟨hl, h0, h1, f0, f1⟩ := h
  refine ⟨by simpa using hl, ?_, ?_, ?_, ?_⟩ <;> simp [go_sem, h0, h1, f0, f1]
theorem KS_of {w w' : World} {b1 b2 : Nat} {v0 v1 v2 v3 u0 u1 u2 u3 : Value} (hA : At4 w b1 v0 v1 v2 v3) (hX : At4 w b2 u0 u1 u2 u3) (hb : Below w.heap.size w w') :
    w'.cell? ⟨b1, 0, none⟩ = some v0 ∧ w'.cell? ⟨b1, 1, none⟩ = some v1 ∧ w'.cell? ⟨b1, 2, none⟩ = some v2 ∧ w'.cell? ⟨b1, 3, none⟩ = some v3 ∧ w'.cell? ⟨b2, 0, none⟩ = some u0 ∧ w'.cell? ⟨b2, 1, none⟩ = some u1 ∧ w'.cell? ⟨b2, 2, none⟩ = some u2 ∧ w'.cell? ⟨b2, 3, none⟩ = some u3 := by
  obtain ⟨_, h0, h1, h2, h3⟩ := hA.below hb
  obtain ⟨_, k0, k1, k2, k3⟩ := hX.below hb
  exact ⟨h0, h1, h2, h3, k0, k1, k2, k3⟩
theorem bl_drew {w : World} : Below w.heap.size w w.drew := Below.drew (Below.refl _ _)

set_option maxHeartbeats 1000000 in
theorem implCalc_any (op k n s k' n' s' : Int) (a a' : Option Addr) (len cap len' cap' : Nat) (bs bs' : List Int) (w : World)
    (hB : Bs w a len bs) (hB' : Bs w a' len' bs') (h1 : -9223372036854775808 ≤ n) (h2 : n ≤ 9223372036854775807) (h3 : -9223372036854775808 ≤ s) (h4 : s ≤ 9223372036854775807) (h1' : -9223372036854775808 ≤ n') (h2' : n' ≤ 9223372036854775807) (h3' : -9223372036854775808 ≤ s') (h4' : s' ≤ 9223372036854775807) :
    Calls Try.prog 10 #[.int .i64 op, .agg #[.int .i64 k, .slice a len cap, .int .i64 n, .int .i64 s], .agg #[.int .i64 k', .slice a' len' cap', .int .i64 n', .int .i64 s']] w fun e w' =>
      e = .returned (resV (calcQ op k bs n s k' bs' n' s')) ∧ Below w.heap.size w w' := by
  have I1 := fun w hB => isNumber_any k n s a len cap bs w hB h1 h2 h3 h4
  have I2 := fun w hB => isNumber_any k' n' s' a' len' cap' bs' w hB h1' h2' h3' h4'
  by_cases e1 : isNum k bs n s = true
  · by_cases e2 : isNum k' bs' n' s' = true
    · obtain ⟨rfl, _, b1, b2, b3, b4⟩ := isNum_bounds e1
      obtain ⟨rfl, _, b1', b2', b3', b4'⟩ := isNum_bounds e2
      obtain ⟨t, rfl⟩ : ∃ t : Nat, s = t := ⟨s.toNat, by omega⟩
      obtain ⟨t', rfl⟩ : ∃ t : Nat, s' = t := ⟨s'.toNat, by omega⟩
      have ec : Hid (calcQ op 3 bs n t 3 bs' n' t' = calcP op n t n' t') := by
        show _ = _
        simp [calcQ, e1, e2]
      simp only [e1, e2] at I1 I2
      have Ca := fun w => calc_any op n n' t t' w b3 b4 b3' b4' (by omega) (by omega)
      go_enter Try.func10, Try.ntmps10
      go_wp2_with fail
      refine (I1 _ (hB.below (bl_alloc (bl_alloc (bl_a _) _) _))).mono ?_
      rintro e w1 ⟨rfl, hb1⟩
      have hA1 := (At4.new w _ _ _ _ _).below (bl_trans (bl_alloc (bl_a _) _) hb1)
      have hX1 := (At4.at (w.alloc _) (w.heap.size + 1) _ _ _ _ _ (by simp)).below (bl_trans (bl_a _) hb1)
      have hR1 := (Own4.at ((w.alloc _).alloc _) (w.heap.size + 1 + 1) _ _ _ _ _ (by simp)).below hb1
      have hw1 := bl_trans (bl_alloc (bl_alloc (bl_a _) _) _) hb1
      clear hb1
      obtain ⟨x0, x1, x2, x3, x4⟩ := id hX1
      go_wp2_with fail
      refine (I2 _ (hB'.below hw1)).mono ?_
      rintro e w2 ⟨rfl, hb2⟩
      have hA2 := hA1.below hb2
      have hX2 := hX1.below hb2
      have hR2 := hR1.below hb2
      have hw2 := bl_trans hw1 hb2
      clear hb2 hA1 hX1 hR1 hw1 x0 x1 x2 x3 x4 I1 I2
      obtain ⟨y0, y1, y2, y3, y4⟩ := id hA2
      obtain ⟨x0, x1, x2, x3, x4⟩ := id hX2
      go_wp2_with fail
      go_cut [8, 9] from 10 to 34 (fun s8 s9 wx => ∃ (N S : Int) (fits : Bool) (g : Nat), s8 = .pointer (some ⟨g, 0, none⟩) ∧ s9 = .bool fits ∧ (fits = true → ∃ t1 : Nat, S = t1 ∧ t1 ≤ 12 ∧ -9223372036854775808 ≤ N ∧ N ≤ 9223372036854775807 ∧ calcP op n t n' t' = norm t1 N) ∧ (fits = false → calcP op n t n' t' = (0, 7)) ∧ Below w2.heap.size w2 wx ∧ Own2 wx g (.int .i64 N) (.int .i64 S) ∧ w2.heap.size ≤ g)
      case first =>
        go_region_held3 (fun w' => w'.cell? ⟨w.heap.size, 0, none⟩ = some (.int .i64 3) ∧ w'.cell? ⟨w.heap.size, 1, none⟩ = some (.slice a len cap) ∧ w'.cell? ⟨w.heap.size, 2, none⟩ = some (.int .i64 n) ∧ w'.cell? ⟨w.heap.size, 3, none⟩ = some (.int .i64 t) ∧ w'.cell? ⟨w.heap.size + 1, 0, none⟩ = some (.int .i64 3) ∧ w'.cell? ⟨w.heap.size + 1, 1, none⟩ = some (.slice a' len' cap') ∧ w'.cell? ⟨w.heap.size + 1, 2, none⟩ = some (.int .i64 n') ∧ w'.cell? ⟨w.heap.size + 1, 3, none⟩ = some (.int .i64 t')) ((refine KS_of hA2 hX2 ?_; (repeat (first | with_reducible assumption | with_reducible exact Below.refl _ _ | with_reducible apply bl_alloc | with_reducible apply Below.drew | with_reducible apply below_drewN | with_reducible refine bl_set ?_ (by dsimp only; omega) _))))
          (first
            | (go_at_call 22; refine (decimal_any _ _ _ _ _ _ _).mono ?_; rintro e w4 ⟨rfl, o1, o2, rfl⟩)
            | (go_at_call 23; refine (Ca _).mono ?_; rintro e w3 ⟨hC, hb3⟩; obtain ⟨N, S, fits, he, hT, hF⟩ := hC; subst he; have hall := fun (b i : Nat) h => hb3.cell (p := ⟨b, i, none⟩) h; have hallf := fun (b i : Nat) h => hb3.frozen (p := ⟨b, i, none⟩) h; have hd3 : Below w2.heap.size w2 w3 := bl_trans (by (repeat (first | with_reducible assumption | with_reducible exact Below.refl _ _ | with_reducible apply bl_alloc | with_reducible apply Below.drew | with_reducible apply below_drewN | with_reducible refine bl_set ?_ (by dsimp only; omega) _))) hb3; have hs3 := hd3.size))
        all_goals
          go_wp2_with fail
          go_meet
        · exact ⟨N, S, fits, _, rfl, rfl, hT, hF, bl_alloc hd3 _, Own2.at w3 _ _ _ _ rfl, hs3⟩
        · exact ⟨N, S, fits, _, rfl, rfl, hT, hF, bl_set (bl_set hd3 (by dsimp only; omega) _) (by dsimp only; omega) _, Own2.set (Own2.below (v0 := .int .i64 0) (v1 := .int .i64 0) (by refine ⟨?_, ?_, ?_, ?_, ?_⟩ <;> simp [go_sem]) hb3) _ _, by omega⟩
        · exact ⟨N, S, fits, _, rfl, rfl, hT, hF, bl_set (bl_set hd3 (by dsimp only; omega) _) (by dsimp only; omega) _, Own2.set (Own2.below (v0 := .int .i64 0) (v1 := .int .i64 0) (by refine ⟨?_, ?_, ?_, ?_, ?_⟩ <;> simp [go_sem] <;> omega) hb3) _ _, by omega⟩
        · exact ⟨N, S, fits, _, rfl, rfl, hT, hF, bl_set (bl_set hd3 (by dsimp only; omega) _) (by dsimp only; omega) _, Own2.set (Own2.below (v0 := .int .i64 0) (v1 := .int .i64 0) (by refine ⟨?_, ?_, ?_, ?_, ?_⟩ <;> simp [go_sem] <;> omega) hb3) _ _, by omega⟩
      case rest =>
        obtain ⟨N, S, fits, g, rfl, rfl, hT, hF, hd3, hO, hgl⟩ := hcut
        have hR3 := hR2.below hd3
        have hw3 := bl_trans hw2 hd3
        have lt2 := hR2.1.1
        obtain ⟨g0, g1, g2, g3, g4⟩ := id hO
        cases fits
        · have ef := hF rfl
          have EF : Hid (resV (calcQ op 3 bs n t 3 bs' n' t') = .tuple #[.agg #[.int .i64 0, .slice none 0 0, .int .i64 0, .int .i64 0], .bool false]) := by
            show _ = _
            rw [ec.out, ef, resV_none]
          obtain ⟨⟨r0, r1, r2, r3, r4⟩, f0, f1, f2, f3⟩ := id hR3
          clear Ca hA2 hX2 hB hB' y0 y1 y2 y3 y4 x0 x1 x2 x3 x4 hT hF ef
          go_wp2
          refine bodyPost_ret (v := .tuple #[.agg #[.int .i64 0, .slice none 0 0, .int .i64 0, .int .i64 0], .bool false]) (by simp [results, Try.results10, go_sem, *]) rfl ⟨by rw [EF.out], ?_⟩
          repeat (first | with_reducible exact hw3 | with_reducible refine bl_set ?_ (by dsimp only; omega) _)
        · obtain ⟨m, rfl, hm, n1, n2, ep⟩ := hT rfl
          have EF : Hid (resV (calcQ op 3 bs n t 3 bs' n' t') = .tuple #[.agg #[.int .i64 (tK (norm m N)), .slice none 0 0, .int .i64 (tN (norm m N)), .int .i64 (tS (norm m N))], .bool (numOk (norm m N).1 (norm m N).2)]) := by
            show _ = _
            rw [ec.out, ep]
            rfl
          have Te := fun w => term_any N m w n1 n2 hm
          generalize tK (norm m N) = z1 at *
          generalize tN (norm m N) = z2 at *
          generalize tS (norm m N) = z3 at *
          generalize numOk (norm m N).1 (norm m N).2 = z4 at *
          clear Ca hA2 hX2 hB hB' y0 y1 y2 y3 y4 x0 x1 x2 x3 x4 hT hF ep
          go_wp2_with fail
          refine (Te _).mono ?_
          rintro e w6 ⟨rfl, o1, o2, o3, o4, o5, rfl⟩
          have hb6 : Below wc.heap.size wc (((((wc.alloc o1).alloc o2).alloc o3).alloc o4).alloc o5) := bl_alloc (bl_alloc (bl_alloc (bl_alloc (bl_a _) _) _) _) _
          have hR6 := hR3.below hb6
          have hw6 := bl_trans hw3 hb6
          generalize ((((wc.alloc o1).alloc o2).alloc o3).alloc o4).alloc o5 = w6 at hR6 hw6 ⊢
          obtain ⟨⟨r0, r1, r2, r3, r4⟩, f0, f1, f2, f3⟩ := id hR6
          clear hb6 Te g0 g1 g2 g3 g4
          go_wp2
          refine bodyPost_ret (v := .tuple #[.agg #[.int .i64 z1, .slice none 0 0, .int .i64 z2, .int .i64 z3], .bool z4]) (by simp [results, Try.results10, go_sem, *]) rfl ⟨by rw [EF.out], ?_⟩
          repeat (first | with_reducible exact hw6 | with_reducible refine bl_set ?_ (by dsimp only; omega) _)
    · have e2' : isNum k' bs' n' s' = false := by simpa using e2
      have ec : calcQ op k bs n s k' bs' n' s' = (0, 7) := by simp [calcQ, e2']
      rw [ec, resV_none]
      simp only [e1, e2'] at I1 I2
      clear ec e2
      go_enter Try.func10, Try.ntmps10
      go_wp2_with fail
      refine (I1 _ (hB.below (bl_alloc (bl_alloc (bl_a _) _) _))).mono ?_
      rintro e w1 ⟨rfl, hb1⟩
      have hX1 := (At4.at (w.alloc _) (w.heap.size + 1) _ _ _ _ _ (by simp)).below (bl_trans (bl_a _) hb1)
      have hR1 := (Own4.at ((w.alloc _).alloc _) (w.heap.size + 1 + 1) _ _ _ _ _ (by simp)).below hb1
      have hw1 := bl_trans (bl_alloc (bl_alloc (bl_a _) _) _) hb1
      clear hb1
      obtain ⟨x0, x1, x2, x3, x4⟩ := id hX1
      go_wp2_with fail
      refine (I2 _ (hB'.below hw1)).mono ?_
      rintro e w2 ⟨rfl, hb2⟩
      have hR2 := hR1.below hb2
      have hw2 := bl_trans hw1 hb2
      clear hb2 hX1 hR1 hw1 x0 x1 x2 x3 x4 I1 I2
      obtain ⟨⟨r0, r1, r2, r3, r4⟩, f0, f1, f2, f3⟩ := id hR2
      go_wp2
      refine bodyPost_ret (v := .tuple #[.agg #[.int .i64 0, .slice none 0 0, .int .i64 0, .int .i64 0], .bool false]) (by simp [results, Try.results10, go_sem, *]) rfl ⟨rfl, ?_⟩
      repeat (first | with_reducible exact hw2 | with_reducible refine bl_set ?_ (by dsimp only; omega) _)
  · have e1' : isNum k bs n s = false := by simpa using e1
    have ec : calcQ op k bs n s k' bs' n' s' = (0, 7) := by simp [calcQ, e1']
    rw [ec, resV_none]
    simp only [e1'] at I1
    clear ec e1
    · skip
      go_enter Try.func10, Try.ntmps10
      go_wp2_with fail
      refine (I1 _ (hB.below (bl_alloc (bl_alloc (bl_a _) _) _))).mono ?_
      rintro e w1 ⟨rfl, hb1⟩
      have hX1 := (At4.at (w.alloc _) (w.heap.size + 1) _ _ _ _ _ (by simp)).below (bl_trans (bl_a _) hb1)
      have hR1 := (Own4.at ((w.alloc _).alloc _) (w.heap.size + 1 + 1) _ _ _ _ _ (by simp)).below hb1
      have hw1 := bl_trans (bl_alloc (bl_alloc (bl_a _) _) _) hb1
      clear hb1
      obtain ⟨x0, x1, x2, x3, x4⟩ := id hX1
      clear I1 I2
      obtain ⟨⟨r0, r1, r2, r3, r4⟩, f0, f1, f2, f3⟩ := id hR1
      go_wp2
      refine bodyPost_ret (v := .tuple #[.agg #[.int .i64 0, .slice none 0 0, .int .i64 0, .int .i64 0], .bool false]) (by simp [results, Try.results10, go_sem, *]) rfl ⟨rfl, ?_⟩
      repeat (first | with_reducible exact hw1 | with_reducible refine bl_set ?_ (by dsimp only; omega) _)
end Go.Proofs.Ytjhobhkdncdnaaa
