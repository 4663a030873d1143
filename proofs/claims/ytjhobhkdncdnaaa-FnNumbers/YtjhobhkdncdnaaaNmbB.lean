/- The law FnNumbers walked. -/
import Derived.Test.YtjhobhkdncdnaaaNmbA
namespace Go.Proofs.Ytjhobhkdncdnaaa
open Go.RowKit Go.Deep

set_option maxRecDepth 20000 in
set_option maxHeartbeats 1500000 in
theorem walkNumbers (a : Option Addr) (len cap : Nat) (w : World) (hlen : len ≤ 9223372036854775807) (hC : Code w a len) :
    Calls Try.prog 4 #[.slice a len cap] w fun e w' => e = .returned (.bool true) ∧ Below w.heap.size w w' := by
  have HC : Hid (∀ w', Below w.heap.size w w' → Code w' a len) := fun w' hb => by
    rcases hC with h | ⟨b, off, ha, hlt, hc⟩
    · exact .inl h
    · refine .inr ⟨b, off, ha, Nat.lt_of_lt_of_le hlt hb.size, fun i hi => ?_⟩
      rw [hb.cell (p := ⟨b, off + i, none⟩) hlt]
      exact hc i hi
  clear hC
  have C1 : ∀ w, Calls Try.prog 10 #[.int .i64 0, .agg #[.int .i64 3, .slice none 0 0, .int .i64 1, .int .i64 0], .agg #[.int .i64 3, .slice none 0 0, .int .i64 1, .int .i64 0]] w fun e w' => e = .returned (.tuple #[.agg #[.int .i64 3, .slice none 0 0, .int .i64 2, .int .i64 0], .bool true]) ∧ Below w.heap.size w w' := by
    intro w
    have h := implCalc_any 0 3 1 0 3 1 0 none none 0 0 0 0 [] [] w (nil_bs w) (nil_bs w) (by omega) (by omega) (by omega) (by omega) (by omega) (by omega) (by omega) (by omega)
    have e : calcQ 0 3 [] 1 0 3 [] 1 0 = (2, 0) := by decide
    rw [e, resV_ok (p := (2, 0)) (by decide)] at h
    exact h
  go_enter Try.func4, Try.ntmps4
  go_wp2_with fail
  refine (C1 _).mono ?_
  rintro e w1 ⟨rfl, hb1⟩
  have hw1 := bl_trans (bl_trans (bl_a _) hb1) (bl_a (.cells #[.int .i64 3, .slice none 0 0, .int .i64 2, .int .i64 0] 24))
  clear hb1 C1
  go_wp2_with fail
  refine (DrawCalc_any a len cap (w1.alloc (.cells #[.int .i64 3, .slice none 0 0, .int .i64 2, .int .i64 0] 24)) hlen (HC.out _ hw1)).mono ?_
  rintro e w2 ⟨op, t, u, rfl, ht, hu, hb2⟩
  have hba : Below w2.heap.size w2 ((w2.alloc (.cells #[.int .i64 t.k, .slice t.a t.len t.cap, .int .i64 t.n, .int .i64 t.s] 24)).alloc (.cells #[.int .i64 u.k, .slice u.a u.len u.cap, .int .i64 u.n, .int .i64 u.s] 24)) := bl_alloc (bl_a _) _
  have hA := (At4.new w2 (.int .i64 t.k) (.slice t.a t.len t.cap) (.int .i64 t.n) (.int .i64 t.s) 24).below (bl_a (.cells #[.int .i64 u.k, .slice u.a u.len u.cap, .int .i64 u.n, .int .i64 u.s] 24))
  have hB := At4.at (w2.alloc (.cells #[.int .i64 t.k, .slice t.a t.len t.cap, .int .i64 t.n, .int .i64 t.s] 24)) (w2.heap.size + 1) (.int .i64 u.k) (.slice u.a u.len u.cap) (.int .i64 u.n) (.int .i64 u.s) 24 (by simp)
  replace ht := ht.below hba
  replace hu := hu.below hba
  have hw3 := bl_trans (bl_trans hw1 hb2) hba
  clear hb2 hba hw1 HC
  go_wp2_with fail
  generalize (w2.alloc (.cells #[.int .i64 t.k, .slice t.a t.len t.cap, .int .i64 t.n, .int .i64 t.s] 24)).alloc (.cells #[.int .i64 u.k, .slice u.a u.len u.cap, .int .i64 u.n, .int .i64 u.s] 24) = w3 at *
  have hw : Below w3.heap.size w3 w3 := Below.refl _ _
  by_cases hN : isNum t.k t.bs t.n t.s = true ∧ isNum u.k u.bs u.n u.s = true
  · obtain ⟨s1, s2, s3, s4, p1, p2, p3, p4, q1, q2, q3, q4, m1, m2, m3, m4, c, F⟩ := NF.make t u _ _ ht hu hN.1 hN.2
    have kt : (t.k != 3) = false := by simp [F.kt]
    have ku : (u.k != 3) = false := by simp [F.ku]
    clear hN
    obtain ⟨hA0, hA1, hA2, hA3, hA4⟩ := id hA
    obtain ⟨hB0, hB1, hB2, hB3, hB4⟩ := id hB
    go_wp2_with fail
    refine (F.okT _ (ht.2.2.below hw) (hu.2.2.below hw)).mono ?_
    rintro e w21 ⟨rfl, hb21⟩
    clear hA0 hA1 hA2 hA3 hA4
    clear hB0 hB1 hB2 hB3 hB4
    replace hA := hA.below hb21
    replace hB := hB.below hb21
    replace hw := bl_trans hw hb21
    clear hb21
    obtain ⟨hA0, hA1, hA2, hA3, hA4⟩ := id hA
    obtain ⟨hB0, hB1, hB2, hB3, hB4⟩ := id hB
    go_wp2_with fail
    refine (F.okU _ (ht.2.2.below hw) (hu.2.2.below hw)).mono ?_
    rintro e w22 ⟨rfl, hb22⟩
    clear hA0 hA1 hA2 hA3 hA4
    clear hB0 hB1 hB2 hB3 hB4
    replace hA := hA.below hb22
    replace hB := hB.below hb22
    replace hw := bl_trans hw hb22
    clear hb22
    obtain ⟨hA0, hA1, hA2, hA3, hA4⟩ := id hA
    obtain ⟨hB0, hB1, hB2, hB3, hB4⟩ := id hB
    go_wp2_with fail
    refine (F.add _ (ht.2.2.below hw) (hu.2.2.below hw)).mono ?_
    rintro e w23 ⟨rfl, hb23⟩
    clear hA0 hA1 hA2 hA3 hA4
    clear hB0 hB1 hB2 hB3 hB4
    replace hA := hA.below hb23
    replace hB := hB.below hb23
    replace hw := bl_trans hw hb23
    clear hb23
    replace hA := hA.below (bl_a (.cells #[.int .i64 s1, .slice none 0 0, .int .i64 s2, .int .i64 s3] 24))
    replace hB := hB.below (bl_a (.cells #[.int .i64 s1, .slice none 0 0, .int .i64 s2, .int .i64 s3] 24))
    replace hw := bl_trans hw (bl_a (.cells #[.int .i64 s1, .slice none 0 0, .int .i64 s2, .int .i64 s3] 24))
    have hS := At4.new w23 (.int .i64 s1) (.slice none 0 0) (.int .i64 s2) (.int .i64 s3) 24
    have hSs : w23.heap.size < (w23.alloc (.cells #[.int .i64 s1, .slice none 0 0, .int .i64 s2, .int .i64 s3] 24)).heap.size := by simp
    obtain ⟨hA0, hA1, hA2, hA3, hA4⟩ := id hA
    obtain ⟨hB0, hB1, hB2, hB3, hB4⟩ := id hB
    obtain ⟨hS0, hS1, hS2, hS3, hS4⟩ := id hS
    go_wp2_with fail
    refine (F.add' _ (ht.2.2.below hw) (hu.2.2.below hw)).mono ?_
    rintro e w24 ⟨rfl, hb24⟩
    clear hA0 hA1 hA2 hA3 hA4
    clear hB0 hB1 hB2 hB3 hB4
    clear hS0 hS1 hS2 hS3 hS4
    replace hA := hA.below hb24
    replace hB := hB.below hb24
    replace hS := hS.below hb24
    replace hw := bl_trans hw hb24
    clear hb24
    replace hA := hA.below (bl_a (.cells #[.int .i64 s1, .slice none 0 0, .int .i64 s2, .int .i64 s3] 24))
    replace hB := hB.below (bl_a (.cells #[.int .i64 s1, .slice none 0 0, .int .i64 s2, .int .i64 s3] 24))
    replace hS := hS.below (bl_a (.cells #[.int .i64 s1, .slice none 0 0, .int .i64 s2, .int .i64 s3] 24))
    replace hw := bl_trans hw (bl_a (.cells #[.int .i64 s1, .slice none 0 0, .int .i64 s2, .int .i64 s3] 24))
    have hT := At4.new w24 (.int .i64 s1) (.slice none 0 0) (.int .i64 s2) (.int .i64 s3) 24
    have hTs : w24.heap.size < (w24.alloc (.cells #[.int .i64 s1, .slice none 0 0, .int .i64 s2, .int .i64 s3] 24)).heap.size := by simp
    obtain ⟨hA0, hA1, hA2, hA3, hA4⟩ := id hA
    obtain ⟨hB0, hB1, hB2, hB3, hB4⟩ := id hB
    obtain ⟨hS0, hS1, hS2, hS3, hS4⟩ := id hS
    obtain ⟨hT0, hT1, hT2, hT3, hT4⟩ := id hT
    go_wp2_with fail
    refine (F.mul _ (ht.2.2.below hw) (hu.2.2.below hw)).mono ?_
    rintro e w25 ⟨rfl, hb25⟩
    clear hA0 hA1 hA2 hA3 hA4
    clear hB0 hB1 hB2 hB3 hB4
    clear hS0 hS1 hS2 hS3 hS4
    clear hT0 hT1 hT2 hT3 hT4
    replace hA := hA.below hb25
    replace hB := hB.below hb25
    replace hS := hS.below hb25
    replace hT := hT.below hb25
    replace hw := bl_trans hw hb25
    clear hb25
    replace hA := hA.below (bl_a (.cells #[.int .i64 p1, .slice none 0 0, .int .i64 p2, .int .i64 p3] 24))
    replace hB := hB.below (bl_a (.cells #[.int .i64 p1, .slice none 0 0, .int .i64 p2, .int .i64 p3] 24))
    replace hS := hS.below (bl_a (.cells #[.int .i64 p1, .slice none 0 0, .int .i64 p2, .int .i64 p3] 24))
    replace hT := hT.below (bl_a (.cells #[.int .i64 p1, .slice none 0 0, .int .i64 p2, .int .i64 p3] 24))
    replace hw := bl_trans hw (bl_a (.cells #[.int .i64 p1, .slice none 0 0, .int .i64 p2, .int .i64 p3] 24))
    have hP := At4.new w25 (.int .i64 p1) (.slice none 0 0) (.int .i64 p2) (.int .i64 p3) 24
    have hPs : w25.heap.size < (w25.alloc (.cells #[.int .i64 p1, .slice none 0 0, .int .i64 p2, .int .i64 p3] 24)).heap.size := by simp
    obtain ⟨hA0, hA1, hA2, hA3, hA4⟩ := id hA
    obtain ⟨hB0, hB1, hB2, hB3, hB4⟩ := id hB
    obtain ⟨hS0, hS1, hS2, hS3, hS4⟩ := id hS
    obtain ⟨hT0, hT1, hT2, hT3, hT4⟩ := id hT
    obtain ⟨hP0, hP1, hP2, hP3, hP4⟩ := id hP
    go_wp2_with fail
    refine (F.mul' _ (ht.2.2.below hw) (hu.2.2.below hw)).mono ?_
    rintro e w26 ⟨rfl, hb26⟩
    clear hA0 hA1 hA2 hA3 hA4
    clear hB0 hB1 hB2 hB3 hB4
    clear hS0 hS1 hS2 hS3 hS4
    clear hT0 hT1 hT2 hT3 hT4
    clear hP0 hP1 hP2 hP3 hP4
    replace hA := hA.below hb26
    replace hB := hB.below hb26
    replace hS := hS.below hb26
    replace hT := hT.below hb26
    replace hP := hP.below hb26
    replace hw := bl_trans hw hb26
    clear hb26
    replace hA := hA.below (bl_a (.cells #[.int .i64 p1, .slice none 0 0, .int .i64 p2, .int .i64 p3] 24))
    replace hB := hB.below (bl_a (.cells #[.int .i64 p1, .slice none 0 0, .int .i64 p2, .int .i64 p3] 24))
    replace hS := hS.below (bl_a (.cells #[.int .i64 p1, .slice none 0 0, .int .i64 p2, .int .i64 p3] 24))
    replace hT := hT.below (bl_a (.cells #[.int .i64 p1, .slice none 0 0, .int .i64 p2, .int .i64 p3] 24))
    replace hP := hP.below (bl_a (.cells #[.int .i64 p1, .slice none 0 0, .int .i64 p2, .int .i64 p3] 24))
    replace hw := bl_trans hw (bl_a (.cells #[.int .i64 p1, .slice none 0 0, .int .i64 p2, .int .i64 p3] 24))
    have hR := At4.new w26 (.int .i64 p1) (.slice none 0 0) (.int .i64 p2) (.int .i64 p3) 24
    have hRs : w26.heap.size < (w26.alloc (.cells #[.int .i64 p1, .slice none 0 0, .int .i64 p2, .int .i64 p3] 24)).heap.size := by simp
    obtain ⟨hA0, hA1, hA2, hA3, hA4⟩ := id hA
    obtain ⟨hB0, hB1, hB2, hB3, hB4⟩ := id hB
    obtain ⟨hS0, hS1, hS2, hS3, hS4⟩ := id hS
    obtain ⟨hT0, hT1, hT2, hT3, hT4⟩ := id hT
    obtain ⟨hP0, hP1, hP2, hP3, hP4⟩ := id hP
    obtain ⟨hR0, hR1, hR2, hR3, hR4⟩ := id hR
    go_wp2_with fail
    refine (F.same s1 s2 s3 _).mono ?_
    rintro e w27 ⟨rfl, hb27⟩
    clear hA0 hA1 hA2 hA3 hA4
    clear hB0 hB1 hB2 hB3 hB4
    clear hS0 hS1 hS2 hS3 hS4
    clear hT0 hT1 hT2 hT3 hT4
    clear hP0 hP1 hP2 hP3 hP4
    clear hR0 hR1 hR2 hR3 hR4
    replace hA := hA.below hb27
    replace hB := hB.below hb27
    replace hS := hS.below hb27
    replace hT := hT.below hb27
    replace hP := hP.below hb27
    replace hR := hR.below hb27
    replace hw := bl_trans hw hb27
    clear hb27
    obtain ⟨hA0, hA1, hA2, hA3, hA4⟩ := id hA
    obtain ⟨hB0, hB1, hB2, hB3, hB4⟩ := id hB
    obtain ⟨hS0, hS1, hS2, hS3, hS4⟩ := id hS
    obtain ⟨hT0, hT1, hT2, hT3, hT4⟩ := id hT
    obtain ⟨hP0, hP1, hP2, hP3, hP4⟩ := id hP
    obtain ⟨hR0, hR1, hR2, hR3, hR4⟩ := id hR
    go_wp2_with fail
    refine (F.same p1 p2 p3 _).mono ?_
    rintro e w28 ⟨rfl, hb28⟩
    clear hA0 hA1 hA2 hA3 hA4
    clear hB0 hB1 hB2 hB3 hB4
    clear hS0 hS1 hS2 hS3 hS4
    clear hT0 hT1 hT2 hT3 hT4
    clear hP0 hP1 hP2 hP3 hP4
    clear hR0 hR1 hR2 hR3 hR4
    replace hA := hA.below hb28
    replace hB := hB.below hb28
    replace hS := hS.below hb28
    replace hT := hT.below hb28
    replace hP := hP.below hb28
    replace hR := hR.below hb28
    replace hw := bl_trans hw hb28
    clear hb28
    clear hT hP hR
    cases s4
    · clear hS hSs
      obtain ⟨hA0, hA1, hA2, hA3, hA4⟩ := id hA
      obtain ⟨hB0, hB1, hB2, hB3, hB4⟩ := id hB
      go_wp2_with fail
      refine (F.dz _ (ht.2.2.below hw) (hu.2.2.below hw)).mono ?_
      rintro e w29 ⟨rfl, hb29⟩
      clear hA0 hA1 hA2 hA3 hA4
      clear hB0 hB1 hB2 hB3 hB4
      replace hA := hA.below hb29
      replace hB := hB.below hb29
      replace hw := bl_trans hw hb29
      clear hb29
      replace hA := hA.below (bl_a (.cells #[.int .i64 0, .slice none 0 0, .int .i64 0, .int .i64 0] 24))
      replace hB := hB.below (bl_a (.cells #[.int .i64 0, .slice none 0 0, .int .i64 0, .int .i64 0] 24))
      replace hw := bl_trans hw (bl_a (.cells #[.int .i64 0, .slice none 0 0, .int .i64 0, .int .i64 0] 24))
      obtain ⟨hA0, hA1, hA2, hA3, hA4⟩ := id hA
      obtain ⟨hB0, hB1, hB2, hB3, hB4⟩ := id hB
      go_wp2_with fail
      refine (F.div _ (ht.2.2.below hw) (hu.2.2.below hw)).mono ?_
      rintro e w30 ⟨rfl, hb30⟩
      clear hA0 hA1 hA2 hA3 hA4
      clear hB0 hB1 hB2 hB3 hB4
      replace hA := hA.below hb30
      replace hB := hB.below hb30
      replace hw := bl_trans hw hb30
      clear hb30
      replace hA := hA.below (bl_a (.cells #[.int .i64 q1, .slice none 0 0, .int .i64 q2, .int .i64 q3] 24))
      replace hB := hB.below (bl_a (.cells #[.int .i64 q1, .slice none 0 0, .int .i64 q2, .int .i64 q3] 24))
      replace hw := bl_trans hw (bl_a (.cells #[.int .i64 q1, .slice none 0 0, .int .i64 q2, .int .i64 q3] 24))
      have hQ := At4.new w30 (.int .i64 q1) (.slice none 0 0) (.int .i64 q2) (.int .i64 q3) 24
      have hQs : w30.heap.size < (w30.alloc (.cells #[.int .i64 q1, .slice none 0 0, .int .i64 q2, .int .i64 q3] 24)).heap.size := by simp
      cases q4
      · obtain ⟨hA0, hA1, hA2, hA3, hA4⟩ := id hA
        obtain ⟨hB0, hB1, hB2, hB3, hB4⟩ := id hB
        obtain ⟨hQ0, hQ1, hQ2, hQ3, hQ4⟩ := id hQ
        go_wp2
        go_ret
        exact ⟨by simp [*], bl_trans hw3 hw⟩
      by_cases hn0 : t.n < 0
      · obtain ⟨hA0, hA1, hA2, hA3, hA4⟩ := id hA
        obtain ⟨hB0, hB1, hB2, hB3, hB4⟩ := id hB
        obtain ⟨hQ0, hQ1, hQ2, hQ3, hQ4⟩ := id hQ
        go_wp2
        go_ret
        exact ⟨by simp [*], bl_trans hw3 hw⟩
      by_cases hm0 : u.n ≤ 0
      · obtain ⟨hA0, hA1, hA2, hA3, hA4⟩ := id hA
        obtain ⟨hB0, hB1, hB2, hB3, hB4⟩ := id hB
        obtain ⟨hQ0, hQ1, hQ2, hQ3, hQ4⟩ := id hQ
        go_wp2
        go_ret
        exact ⟨by simp [*], bl_trans hw3 hw⟩
      have hq := F.qpos rfl (by omega) (by omega)
      have mq := F.mq rfl (by omega) (by omega)
      have cl := F.cle rfl (by omega) (by omega)
      obtain ⟨hA0, hA1, hA2, hA3, hA4⟩ := id hA
      obtain ⟨hB0, hB1, hB2, hB3, hB4⟩ := id hB
      obtain ⟨hQ0, hQ1, hQ2, hQ3, hQ4⟩ := id hQ
      go_wp2_with fail
      refine (mq _ (ht.2.2.below hw) (hu.2.2.below hw)).mono ?_
      rintro e w31 ⟨rfl, hb31⟩
      clear hA0 hA1 hA2 hA3 hA4
      clear hB0 hB1 hB2 hB3 hB4
      clear hQ0 hQ1 hQ2 hQ3 hQ4
      replace hA := hA.below hb31
      replace hB := hB.below hb31
      replace hQ := hQ.below hb31
      replace hw := bl_trans hw hb31
      clear hb31
      replace hA := hA.below (bl_a (.cells #[.int .i64 m1, .slice none 0 0, .int .i64 m2, .int .i64 m3] 24))
      replace hB := hB.below (bl_a (.cells #[.int .i64 m1, .slice none 0 0, .int .i64 m2, .int .i64 m3] 24))
      replace hQ := hQ.below (bl_a (.cells #[.int .i64 m1, .slice none 0 0, .int .i64 m2, .int .i64 m3] 24))
      replace hw := bl_trans hw (bl_a (.cells #[.int .i64 m1, .slice none 0 0, .int .i64 m2, .int .i64 m3] 24))
      have hM := At4.new w31 (.int .i64 m1) (.slice none 0 0) (.int .i64 m2) (.int .i64 m3) 24
      have hMs : w31.heap.size < (w31.alloc (.cells #[.int .i64 m1, .slice none 0 0, .int .i64 m2, .int .i64 m3] 24)).heap.size := by simp
      cases m4
      · obtain ⟨hA0, hA1, hA2, hA3, hA4⟩ := id hA
        obtain ⟨hB0, hB1, hB2, hB3, hB4⟩ := id hB
        obtain ⟨hQ0, hQ1, hQ2, hQ3, hQ4⟩ := id hQ
        obtain ⟨hM0, hM1, hM2, hM3, hM4⟩ := id hM
        go_wp2
        go_ret
        exact ⟨by simp [*], bl_trans hw3 hw⟩
      have cl := cl rfl
      obtain ⟨hA0, hA1, hA2, hA3, hA4⟩ := id hA
      obtain ⟨hB0, hB1, hB2, hB3, hB4⟩ := id hB
      obtain ⟨hQ0, hQ1, hQ2, hQ3, hQ4⟩ := id hQ
      obtain ⟨hM0, hM1, hM2, hM3, hM4⟩ := id hM
      go_wp2_with fail
      refine (F.cmp rfl _ (ht.2.2.below hw) (hu.2.2.below hw)).mono ?_
      rintro e w32 ⟨rfl, hb32⟩
      clear hA0 hA1 hA2 hA3 hA4
      clear hB0 hB1 hB2 hB3 hB4
      clear hQ0 hQ1 hQ2 hQ3 hQ4
      clear hM0 hM1 hM2 hM3 hM4
      replace hA := hA.below hb32
      replace hB := hB.below hb32
      replace hQ := hQ.below hb32
      replace hM := hM.below hb32
      replace hw := bl_trans hw hb32
      clear hb32
      obtain ⟨hA0, hA1, hA2, hA3, hA4⟩ := id hA
      obtain ⟨hB0, hB1, hB2, hB3, hB4⟩ := id hB
      obtain ⟨hQ0, hQ1, hQ2, hQ3, hQ4⟩ := id hQ
      obtain ⟨hM0, hM1, hM2, hM3, hM4⟩ := id hM
      go_wp2
      go_ret
      exact ⟨by simp [*], bl_trans hw3 hw⟩
    · obtain ⟨hA0, hA1, hA2, hA3, hA4⟩ := id hA
      obtain ⟨hB0, hB1, hB2, hB3, hB4⟩ := id hB
      obtain ⟨hS0, hS1, hS2, hS3, hS4⟩ := id hS
      go_wp2_with fail
      refine (F.sub rfl _ (ht.2.2.below hw) (hu.2.2.below hw)).mono ?_
      rintro e w29 ⟨rfl, hb29⟩
      clear hA0 hA1 hA2 hA3 hA4
      clear hB0 hB1 hB2 hB3 hB4
      clear hS0 hS1 hS2 hS3 hS4
      replace hA := hA.below hb29
      replace hB := hB.below hb29
      replace hS := hS.below hb29
      replace hw := bl_trans hw hb29
      clear hb29
      replace hA := hA.below (bl_a (.cells #[.int .i64 3, .slice none 0 0, .int .i64 t.n, .int .i64 t.s] 24))
      replace hB := hB.below (bl_a (.cells #[.int .i64 3, .slice none 0 0, .int .i64 t.n, .int .i64 t.s] 24))
      replace hS := hS.below (bl_a (.cells #[.int .i64 3, .slice none 0 0, .int .i64 t.n, .int .i64 t.s] 24))
      replace hw := bl_trans hw (bl_a (.cells #[.int .i64 3, .slice none 0 0, .int .i64 t.n, .int .i64 t.s] 24))
      have hD := At4.new w29 (.int .i64 3) (.slice none 0 0) (.int .i64 t.n) (.int .i64 t.s) 24
      have hDs : w29.heap.size < (w29.alloc (.cells #[.int .i64 3, .slice none 0 0, .int .i64 t.n, .int .i64 t.s] 24)).heap.size := by simp
      obtain ⟨hA0, hA1, hA2, hA3, hA4⟩ := id hA
      obtain ⟨hB0, hB1, hB2, hB3, hB4⟩ := id hB
      obtain ⟨hS0, hS1, hS2, hS3, hS4⟩ := id hS
      obtain ⟨hD0, hD1, hD2, hD3, hD4⟩ := id hD
      go_wp2_with fail
      refine (F.sameT _ (ht.2.2.below hw) (hu.2.2.below hw)).mono ?_
      rintro e w30 ⟨rfl, hb30⟩
      clear hA0 hA1 hA2 hA3 hA4
      clear hB0 hB1 hB2 hB3 hB4
      clear hS0 hS1 hS2 hS3 hS4
      clear hD0 hD1 hD2 hD3 hD4
      replace hA := hA.below hb30
      replace hB := hB.below hb30
      replace hS := hS.below hb30
      replace hD := hD.below hb30
      replace hw := bl_trans hw hb30
      clear hb30
      obtain ⟨hA0, hA1, hA2, hA3, hA4⟩ := id hA
      obtain ⟨hB0, hB1, hB2, hB3, hB4⟩ := id hB
      obtain ⟨hS0, hS1, hS2, hS3, hS4⟩ := id hS
      obtain ⟨hD0, hD1, hD2, hD3, hD4⟩ := id hD
      go_wp2_with fail
      refine (F.okS rfl _).mono ?_
      rintro e w31 ⟨rfl, hb31⟩
      clear hA0 hA1 hA2 hA3 hA4
      clear hB0 hB1 hB2 hB3 hB4
      clear hS0 hS1 hS2 hS3 hS4
      clear hD0 hD1 hD2 hD3 hD4
      replace hA := hA.below hb31
      replace hB := hB.below hb31
      replace hS := hS.below hb31
      replace hD := hD.below hb31
      replace hw := bl_trans hw hb31
      clear hb31
      clear hS hD hSs hDs
      obtain ⟨hA0, hA1, hA2, hA3, hA4⟩ := id hA
      obtain ⟨hB0, hB1, hB2, hB3, hB4⟩ := id hB
      go_wp2_with fail
      refine (F.dz _ (ht.2.2.below hw) (hu.2.2.below hw)).mono ?_
      rintro e w32 ⟨rfl, hb32⟩
      clear hA0 hA1 hA2 hA3 hA4
      clear hB0 hB1 hB2 hB3 hB4
      replace hA := hA.below hb32
      replace hB := hB.below hb32
      replace hw := bl_trans hw hb32
      clear hb32
      replace hA := hA.below (bl_a (.cells #[.int .i64 0, .slice none 0 0, .int .i64 0, .int .i64 0] 24))
      replace hB := hB.below (bl_a (.cells #[.int .i64 0, .slice none 0 0, .int .i64 0, .int .i64 0] 24))
      replace hw := bl_trans hw (bl_a (.cells #[.int .i64 0, .slice none 0 0, .int .i64 0, .int .i64 0] 24))
      obtain ⟨hA0, hA1, hA2, hA3, hA4⟩ := id hA
      obtain ⟨hB0, hB1, hB2, hB3, hB4⟩ := id hB
      go_wp2_with fail
      refine (F.div _ (ht.2.2.below hw) (hu.2.2.below hw)).mono ?_
      rintro e w33 ⟨rfl, hb33⟩
      clear hA0 hA1 hA2 hA3 hA4
      clear hB0 hB1 hB2 hB3 hB4
      replace hA := hA.below hb33
      replace hB := hB.below hb33
      replace hw := bl_trans hw hb33
      clear hb33
      replace hA := hA.below (bl_a (.cells #[.int .i64 q1, .slice none 0 0, .int .i64 q2, .int .i64 q3] 24))
      replace hB := hB.below (bl_a (.cells #[.int .i64 q1, .slice none 0 0, .int .i64 q2, .int .i64 q3] 24))
      replace hw := bl_trans hw (bl_a (.cells #[.int .i64 q1, .slice none 0 0, .int .i64 q2, .int .i64 q3] 24))
      have hQ := At4.new w33 (.int .i64 q1) (.slice none 0 0) (.int .i64 q2) (.int .i64 q3) 24
      have hQs : w33.heap.size < (w33.alloc (.cells #[.int .i64 q1, .slice none 0 0, .int .i64 q2, .int .i64 q3] 24)).heap.size := by simp
      cases q4
      · obtain ⟨hA0, hA1, hA2, hA3, hA4⟩ := id hA
        obtain ⟨hB0, hB1, hB2, hB3, hB4⟩ := id hB
        obtain ⟨hQ0, hQ1, hQ2, hQ3, hQ4⟩ := id hQ
        go_wp2
        go_ret
        exact ⟨by simp [*], bl_trans hw3 hw⟩
      by_cases hn0 : t.n < 0
      · obtain ⟨hA0, hA1, hA2, hA3, hA4⟩ := id hA
        obtain ⟨hB0, hB1, hB2, hB3, hB4⟩ := id hB
        obtain ⟨hQ0, hQ1, hQ2, hQ3, hQ4⟩ := id hQ
        go_wp2
        go_ret
        exact ⟨by simp [*], bl_trans hw3 hw⟩
      by_cases hm0 : u.n ≤ 0
      · obtain ⟨hA0, hA1, hA2, hA3, hA4⟩ := id hA
        obtain ⟨hB0, hB1, hB2, hB3, hB4⟩ := id hB
        obtain ⟨hQ0, hQ1, hQ2, hQ3, hQ4⟩ := id hQ
        go_wp2
        go_ret
        exact ⟨by simp [*], bl_trans hw3 hw⟩
      have hq := F.qpos rfl (by omega) (by omega)
      have mq := F.mq rfl (by omega) (by omega)
      have cl := F.cle rfl (by omega) (by omega)
      obtain ⟨hA0, hA1, hA2, hA3, hA4⟩ := id hA
      obtain ⟨hB0, hB1, hB2, hB3, hB4⟩ := id hB
      obtain ⟨hQ0, hQ1, hQ2, hQ3, hQ4⟩ := id hQ
      go_wp2_with fail
      refine (mq _ (ht.2.2.below hw) (hu.2.2.below hw)).mono ?_
      rintro e w34 ⟨rfl, hb34⟩
      clear hA0 hA1 hA2 hA3 hA4
      clear hB0 hB1 hB2 hB3 hB4
      clear hQ0 hQ1 hQ2 hQ3 hQ4
      replace hA := hA.below hb34
      replace hB := hB.below hb34
      replace hQ := hQ.below hb34
      replace hw := bl_trans hw hb34
      clear hb34
      replace hA := hA.below (bl_a (.cells #[.int .i64 m1, .slice none 0 0, .int .i64 m2, .int .i64 m3] 24))
      replace hB := hB.below (bl_a (.cells #[.int .i64 m1, .slice none 0 0, .int .i64 m2, .int .i64 m3] 24))
      replace hQ := hQ.below (bl_a (.cells #[.int .i64 m1, .slice none 0 0, .int .i64 m2, .int .i64 m3] 24))
      replace hw := bl_trans hw (bl_a (.cells #[.int .i64 m1, .slice none 0 0, .int .i64 m2, .int .i64 m3] 24))
      have hM := At4.new w34 (.int .i64 m1) (.slice none 0 0) (.int .i64 m2) (.int .i64 m3) 24
      have hMs : w34.heap.size < (w34.alloc (.cells #[.int .i64 m1, .slice none 0 0, .int .i64 m2, .int .i64 m3] 24)).heap.size := by simp
      cases m4
      · obtain ⟨hA0, hA1, hA2, hA3, hA4⟩ := id hA
        obtain ⟨hB0, hB1, hB2, hB3, hB4⟩ := id hB
        obtain ⟨hQ0, hQ1, hQ2, hQ3, hQ4⟩ := id hQ
        obtain ⟨hM0, hM1, hM2, hM3, hM4⟩ := id hM
        go_wp2
        go_ret
        exact ⟨by simp [*], bl_trans hw3 hw⟩
      have cl := cl rfl
      obtain ⟨hA0, hA1, hA2, hA3, hA4⟩ := id hA
      obtain ⟨hB0, hB1, hB2, hB3, hB4⟩ := id hB
      obtain ⟨hQ0, hQ1, hQ2, hQ3, hQ4⟩ := id hQ
      obtain ⟨hM0, hM1, hM2, hM3, hM4⟩ := id hM
      go_wp2_with fail
      refine (F.cmp rfl _ (ht.2.2.below hw) (hu.2.2.below hw)).mono ?_
      rintro e w35 ⟨rfl, hb35⟩
      clear hA0 hA1 hA2 hA3 hA4
      clear hB0 hB1 hB2 hB3 hB4
      clear hQ0 hQ1 hQ2 hQ3 hQ4
      clear hM0 hM1 hM2 hM3 hM4
      replace hA := hA.below hb35
      replace hB := hB.below hb35
      replace hQ := hQ.below hb35
      replace hM := hM.below hb35
      replace hw := bl_trans hw hb35
      clear hb35
      obtain ⟨hA0, hA1, hA2, hA3, hA4⟩ := id hA
      obtain ⟨hB0, hB1, hB2, hB3, hB4⟩ := id hB
      obtain ⟨hQ0, hQ1, hQ2, hQ3, hQ4⟩ := id hQ
      obtain ⟨hM0, hM1, hM2, hM3, hM4⟩ := id hM
      go_wp2
      go_ret
      exact ⟨by simp [*], bl_trans hw3 hw⟩
  have q0 : calcQ 0 t.k t.bs t.n t.s u.k u.bs u.n u.s = (0, 7) := by
    unfold calcQ
    rw [if_neg]
    rw [Bool.and_eq_true]
    exact hN
  have cz : ∀ w, Bs w t.a t.len t.bs → Bs w u.a u.len u.bs → Calls Try.prog 10 #[.int .i64 0, .agg #[.int .i64 t.k, .slice t.a t.len t.cap, .int .i64 t.n, .int .i64 t.s], .agg #[.int .i64 u.k, .slice u.a u.len u.cap, .int .i64 u.n, .int .i64 u.s]] w fun e w' => e = .returned (.tuple #[.agg #[.int .i64 0, .slice none 0 0, .int .i64 0, .int .i64 0], .bool false]) ∧ Below w.heap.size w w' := by
    intro w h h'
    have c := Calc_tq 0 t u w _ _ ht hu h h'
    rw [q0, resV_none] at c
    exact c
  have Ot : ∀ w : World, Bs w t.a t.len t.bs → Calls Try.prog 8 #[.agg #[.int .i64 t.k, .slice t.a t.len t.cap, .int .i64 t.n, .int .i64 t.s]] w fun e w' => e = .returned (.bool (termOk t.k t.bs t.n t.s)) ∧ Below w.heap.size w w' := fun w h =>
    (specTermOk_any t.k t.n t.s t.a t.len t.cap t.bs w h ht.1.1 ht.1.2).mono fun e w' hh => ⟨hh.1, by obtain ⟨o, rfl⟩ := hh.2; exact bl_a o⟩
  have Ou : ∀ w : World, Bs w u.a u.len u.bs → Calls Try.prog 8 #[.agg #[.int .i64 u.k, .slice u.a u.len u.cap, .int .i64 u.n, .int .i64 u.s]] w fun e w' => e = .returned (.bool (termOk u.k u.bs u.n u.s)) ∧ Below w.heap.size w w' := fun w h =>
    (specTermOk_any u.k u.n u.s u.a u.len u.cap u.bs w h hu.1.1 hu.1.2).mono fun e w' hh => ⟨hh.1, by obtain ⟨o, rfl⟩ := hh.2; exact bl_a o⟩
  clear q0
  cases et : termOk t.k t.bs t.n t.s
  · rw [et] at Ot
    clear et hN
    obtain ⟨hA0, hA1, hA2, hA3, hA4⟩ := id hA
    obtain ⟨hB0, hB1, hB2, hB3, hB4⟩ := id hB
    go_wp2_with fail
    refine (Ot _ (ht.2.2.below hw)).mono ?_
    rintro e w21 ⟨rfl, hb21⟩
    clear hA0 hA1 hA2 hA3 hA4
    clear hB0 hB1 hB2 hB3 hB4
    replace hA := hA.below hb21
    replace hB := hB.below hb21
    replace hw := bl_trans hw hb21
    clear hb21
    obtain ⟨hA0, hA1, hA2, hA3, hA4⟩ := id hA
    obtain ⟨hB0, hB1, hB2, hB3, hB4⟩ := id hB
    go_wp2_with fail
    refine (cz _ (ht.2.2.below hw) (hu.2.2.below hw)).mono ?_
    rintro e w22 ⟨rfl, hb22⟩
    clear hA0 hA1 hA2 hA3 hA4
    clear hB0 hB1 hB2 hB3 hB4
    replace hA := hA.below hb22
    replace hB := hB.below hb22
    replace hw := bl_trans hw hb22
    clear hb22
    go_wp2
    go_ret
    exact ⟨by simp, bl_alloc (bl_trans hw3 hw) _⟩
  cases eu : termOk u.k u.bs u.n u.s
  · rw [et] at Ot
    rw [eu] at Ou
    clear et eu hN
    obtain ⟨hA0, hA1, hA2, hA3, hA4⟩ := id hA
    obtain ⟨hB0, hB1, hB2, hB3, hB4⟩ := id hB
    go_wp2_with fail
    refine (Ot _ (ht.2.2.below hw)).mono ?_
    rintro e w21 ⟨rfl, hb21⟩
    clear hA0 hA1 hA2 hA3 hA4
    clear hB0 hB1 hB2 hB3 hB4
    replace hA := hA.below hb21
    replace hB := hB.below hb21
    replace hw := bl_trans hw hb21
    clear hb21
    obtain ⟨hA0, hA1, hA2, hA3, hA4⟩ := id hA
    obtain ⟨hB0, hB1, hB2, hB3, hB4⟩ := id hB
    go_wp2_with fail
    refine (Ou _ (hu.2.2.below hw)).mono ?_
    rintro e w22 ⟨rfl, hb22⟩
    clear hA0 hA1 hA2 hA3 hA4
    clear hB0 hB1 hB2 hB3 hB4
    replace hA := hA.below hb22
    replace hB := hB.below hb22
    replace hw := bl_trans hw hb22
    clear hb22
    obtain ⟨hA0, hA1, hA2, hA3, hA4⟩ := id hA
    obtain ⟨hB0, hB1, hB2, hB3, hB4⟩ := id hB
    go_wp2_with fail
    refine (cz _ (ht.2.2.below hw) (hu.2.2.below hw)).mono ?_
    rintro e w23 ⟨rfl, hb23⟩
    clear hA0 hA1 hA2 hA3 hA4
    clear hB0 hB1 hB2 hB3 hB4
    replace hA := hA.below hb23
    replace hB := hB.below hb23
    replace hw := bl_trans hw hb23
    clear hb23
    go_wp2
    go_ret
    exact ⟨by simp, bl_alloc (bl_trans hw3 hw) _⟩
  cases kt : (t.k != 3)
  · have ku : (u.k != 3) = true := by
      have h1 : t.k = 3 := by simpa using kt
      have h2 : ¬ u.k = 3 := by
        intro h2
        exact hN ⟨by unfold isNum; rw [et]; simp [h1], by unfold isNum; rw [eu]; simp [h2]⟩
      simp [h2]
    rw [et] at Ot
    rw [eu] at Ou
    clear et eu hN
    obtain ⟨hA0, hA1, hA2, hA3, hA4⟩ := id hA
    obtain ⟨hB0, hB1, hB2, hB3, hB4⟩ := id hB
    go_wp2_with fail
    refine (Ot _ (ht.2.2.below hw)).mono ?_
    rintro e w21 ⟨rfl, hb21⟩
    clear hA0 hA1 hA2 hA3 hA4
    clear hB0 hB1 hB2 hB3 hB4
    replace hA := hA.below hb21
    replace hB := hB.below hb21
    replace hw := bl_trans hw hb21
    clear hb21
    obtain ⟨hA0, hA1, hA2, hA3, hA4⟩ := id hA
    obtain ⟨hB0, hB1, hB2, hB3, hB4⟩ := id hB
    go_wp2_with fail
    refine (Ou _ (hu.2.2.below hw)).mono ?_
    rintro e w22 ⟨rfl, hb22⟩
    clear hA0 hA1 hA2 hA3 hA4
    clear hB0 hB1 hB2 hB3 hB4
    replace hA := hA.below hb22
    replace hB := hB.below hb22
    replace hw := bl_trans hw hb22
    clear hb22
    obtain ⟨hA0, hA1, hA2, hA3, hA4⟩ := id hA
    obtain ⟨hB0, hB1, hB2, hB3, hB4⟩ := id hB
    go_wp2_with fail
    refine (cz _ (ht.2.2.below hw) (hu.2.2.below hw)).mono ?_
    rintro e w23 ⟨rfl, hb23⟩
    clear hA0 hA1 hA2 hA3 hA4
    clear hB0 hB1 hB2 hB3 hB4
    replace hA := hA.below hb23
    replace hB := hB.below hb23
    replace hw := bl_trans hw hb23
    clear hb23
    go_wp2
    go_ret
    exact ⟨by simp, bl_alloc (bl_trans hw3 hw) _⟩
  · rw [et] at Ot
    rw [eu] at Ou
    clear et eu hN
    obtain ⟨hA0, hA1, hA2, hA3, hA4⟩ := id hA
    obtain ⟨hB0, hB1, hB2, hB3, hB4⟩ := id hB
    go_wp2_with fail
    refine (Ot _ (ht.2.2.below hw)).mono ?_
    rintro e w21 ⟨rfl, hb21⟩
    clear hA0 hA1 hA2 hA3 hA4
    clear hB0 hB1 hB2 hB3 hB4
    replace hA := hA.below hb21
    replace hB := hB.below hb21
    replace hw := bl_trans hw hb21
    clear hb21
    obtain ⟨hA0, hA1, hA2, hA3, hA4⟩ := id hA
    obtain ⟨hB0, hB1, hB2, hB3, hB4⟩ := id hB
    go_wp2_with fail
    refine (Ou _ (hu.2.2.below hw)).mono ?_
    rintro e w22 ⟨rfl, hb22⟩
    clear hA0 hA1 hA2 hA3 hA4
    clear hB0 hB1 hB2 hB3 hB4
    replace hA := hA.below hb22
    replace hB := hB.below hb22
    replace hw := bl_trans hw hb22
    clear hb22
    obtain ⟨hA0, hA1, hA2, hA3, hA4⟩ := id hA
    obtain ⟨hB0, hB1, hB2, hB3, hB4⟩ := id hB
    go_wp2_with fail
    refine (cz _ (ht.2.2.below hw) (hu.2.2.below hw)).mono ?_
    rintro e w23 ⟨rfl, hb23⟩
    clear hA0 hA1 hA2 hA3 hA4
    clear hB0 hB1 hB2 hB3 hB4
    replace hA := hA.below hb23
    replace hB := hB.below hb23
    replace hw := bl_trans hw hb23
    clear hb23
    go_wp2
    go_ret
    exact ⟨by simp, bl_alloc (bl_trans hw3 hw) _⟩
end Go.Proofs.Ytjhobhkdncdnaaa
