/- Texts put together: StsG StsH -/
import Derived.Test.YtobnpfcgcoooeaaGreatDoorMk14
import Derived.Shelf.SlSortCmp.PivotK
import Derived.Sort.WalkA6
/- StsG -/
namespace Go.Proofs.YtobnpfcgcoooeaaGreatDoor
open Go.RowKit Go.Deep Go.Sort Go.Lib
set_option maxRecDepth 100000

/-- What the count says. -/
theorem hint_at (s : Nat) : (s = 0 → hintCode (hintOf s) = 1) ∧ (s = 12 → hintCode (hintOf s) = 2) ∧ (s ≠ 0 → s ≠ 12 → hintCode (hintOf s) = 0) := by
  refine ⟨fun h => by rw [h]; rfl, fun h => by rw [h]; rfl, fun h1 h2 => ?_⟩
  unfold hintOf
  rw [if_neg h1, if_neg h2]
  rfl

set_option maxHeartbeats 8000000 in
theorem pivM (o : Nat) (ho : o < 6) (blk off cap a b : Nat) (d : Array (Int × Int × Int)) (w : World) (R : RowK encR 3 w blk off d) (hab : a + 8 ≤ b) (hb : b ≤ d.size) (hsz : d.size < 1048576) :
    Calls Tryz.prog 105 #[.slice (some ⟨blk, off, none⟩) d.size cap, .int .i64 a, .int .i64 b, .func (.func 47) #[.int .i64 o] #[]] w fun e w' =>
      e = .returned (.tuple #[.int .i64 (choosePivot (ltOf (rcmp o)) d a b).1, .int .i64 (hintCode (choosePivot (ltOf (rcmp o)) d a b).2)]) ∧ SWK encR 3 w blk off d w' := by
  have C0 : ∀ t, CntK encR 3 w blk off d w.heap.size 0 (w.alloc (.cells #[.int .i64 0] t)) := CntK.start (SWK.start R.hH)
  have MA := fun (x s : Nat) (W : World) (C : CntK encR 3 w blk off d w.heap.size s W) (h1 : 1 ≤ x) (h2 : x + 1 < d.size) (h3 : s + 3 < 1048576) => medAdjM o ho blk off cap x w.heap.size s d d w W R rfl C h1 h2 (by omega) (by omega)
  have MD := fun (x y z s : Nat) (W : World) (C : CntK encR 3 w blk off d w.heap.size s W) (hx : x < d.size) (hy : y < d.size) (hz : z < d.size) (h3 : s + 3 < 1048576) => medianM o ho blk off cap x y z w.heap.size s d d w W R rfl C hx hy hz (by omega) (by omega)
  clear R ho
  rw [choosePivot_eq]
  obtain ⟨I, hI⟩ : ∃ I : Nat, I = a + (b - a) / 4 * 1 := ⟨_, rfl⟩
  obtain ⟨J, hJ⟩ : ∃ J : Nat, J = a + (b - a) / 4 * 2 := ⟨_, rfl⟩
  obtain ⟨K, hK⟩ : ∃ K : Nat, K = a + (b - a) / 4 * 3 := ⟨_, rfl⟩
  have eI : ((a : Int) + ((b : Int) - (a : Int)) / 4) = (I : Int) := by omega
  have eJ : ((a : Int) + ((b : Int) - (a : Int)) / 4 * 2) = (J : Int) := by omega
  have eK : ((a : Int) + ((b : Int) - (a : Int)) / 4 * 3) = (K : Int) := by omega
  have h8 : b - a ≥ 8 := by omega
  by_cases h50 : b - a ≥ 50
  · obtain ⟨⟨i1, s1⟩, h1⟩ : ∃ r, medianAdjacent (ltOf (rcmp o)) d I 0 = r := ⟨_, rfl⟩
    obtain ⟨⟨j1, s2⟩, h2⟩ : ∃ r, medianAdjacent (ltOf (rcmp o)) d J s1 = r := ⟨_, rfl⟩
    obtain ⟨⟨k1, s3⟩, h3⟩ : ∃ r, medianAdjacent (ltOf (rcmp o)) d K s2 = r := ⟨_, rfl⟩
    obtain ⟨⟨p, s⟩, h4⟩ : ∃ r, median (ltOf (rcmp o)) d i1 j1 k1 s3 = r := ⟨_, rfl⟩
    have hraw : rawPivot (ltOf (rcmp o)) d a b = (p, s) := by simp only [rawPivot, if_pos h8, if_pos h50, ← hI, ← hJ, ← hK, h1, h2, h3, h4]
    have m1 := medianAdjacent_mem (ltOf (rcmp o)) d I 0; rw [h1] at m1
    have m2 := medianAdjacent_mem (ltOf (rcmp o)) d J s1; rw [h2] at m2
    have m3 := medianAdjacent_mem (ltOf (rcmp o)) d K s2; rw [h3] at m3
    have n1 := medianAdjacent_count (ltOf (rcmp o)) d I 0; rw [h1] at n1
    have n2 := medianAdjacent_count (ltOf (rcmp o)) d J s1; rw [h2] at n2
    have n3 := medianAdjacent_count (ltOf (rcmp o)) d K s2; rw [h3] at n3
    simp only [] at m1 m2 m3 n1 n2 n3
    have c1 := fun t => MA I 0 _ (C0 t) (by omega) (by omega) (by omega)
    have c2 := fun W C => MA J s1 W C (by omega) (by omega) (by omega)
    have c3 := fun W C => MA K s2 W C (by omega) (by omega) (by omega)
    have c4 := fun W C => MD i1 j1 k1 s3 W C (by omega) (by omega) (by omega) (by omega)
    simp only [h1] at c1
    simp only [h2] at c2
    simp only [h3] at c3
    simp only [h4] at c4
    rw [hraw]
    obtain ⟨hh0, hh12, hhx⟩ := hint_at s
    simp only []
    generalize hintCode (hintOf s) = Hc at *
    have h50z : (50 : Int) ≤ (b : Int) - (a : Int) := by omega
    have h8z : (8 : Int) ≤ (b : Int) - (a : Int) := by omega
    clear hraw h1 h2 h3 h4 MA MD hI hJ hK m1 m2 m3 n1 n2 n3 C0 h8 h50
    go_enter Tryz.func105, Tryz.ntmps105
    go_wp2_with fail
    refine (c1 _).mono ?_
    rintro e w1 ⟨rfl, C1⟩
    go_wp2_with fail
    refine (c2 _ C1).mono ?_
    rintro e w2 ⟨rfl, C2⟩
    go_wp2_with fail
    refine (c3 _ C2).mono ?_
    rintro e w3 ⟨rfl, C3⟩
    go_wp2_with fail
    refine (c4 _ C3).mono ?_
    rintro e w4 ⟨rfl, S4, cc, cfz, _, _⟩
    clear c1 c2 c3 c4 C1 C2 C3
    have HF : Hid (SWK encR 3 w blk off d w4) := S4
    clear S4
    by_cases e0 : s = 0
    · have := hh0 e0
      subst e0
      subst this
      go_wp2_with fail
      simp [bodyPost, results, Tryz.results105, go_sem]
      exact HF.out
    · by_cases e12 : s = 12
      · have := hh12 e12
        subst e12
        subst this
        go_wp2_with fail
        simp [bodyPost, results, Tryz.results105, go_sem]
        exact HF.out
      · have := hhx e0 e12
        subst this
        have z0 : ((s : Int) == 0) = false := beq_eq_false_iff_ne.2 (by omega)
        have z12 : ((s : Int) == 12) = false := beq_eq_false_iff_ne.2 (by omega)
        clear hh0 hh12 hhx e0 e12
        go_wp2_with fail
        simp [bodyPost, results, Tryz.results105, go_sem]
        exact HF.out
  · obtain ⟨⟨p, s⟩, h4⟩ : ∃ r, median (ltOf (rcmp o)) d I J K 0 = r := ⟨_, rfl⟩
    have hraw : rawPivot (ltOf (rcmp o)) d a b = (p, s) := by simp only [rawPivot, if_pos h8, if_neg h50, ← hI, ← hJ, ← hK, h4]
    have c4 := fun t => MD I J K 0 _ (C0 t) (by omega) (by omega) (by omega) (by omega)
    simp only [h4] at c4
    rw [hraw]
    obtain ⟨hh0, hh12, hhx⟩ := hint_at s
    simp only []
    generalize hintCode (hintOf s) = Hc at *
    have h50z : ¬ (50 : Int) ≤ (b : Int) - (a : Int) := by omega
    have h8z : (8 : Int) ≤ (b : Int) - (a : Int) := by omega
    clear hraw h4 MA MD hI hJ hK C0 h8 h50
    go_enter Tryz.func105, Tryz.ntmps105
    go_wp2_with fail
    refine (c4 _).mono ?_
    rintro e w4 ⟨rfl, S4, cc, cfz, _, _⟩
    clear c4
    have HF : Hid (SWK encR 3 w blk off d w4) := S4
    clear S4
    by_cases e0 : s = 0
    · have := hh0 e0
      subst e0
      subst this
      go_wp2_with fail
      simp [bodyPost, results, Tryz.results105, go_sem]
      exact HF.out
    · by_cases e12 : s = 12
      · have := hh12 e12
        subst e12
        subst this
        go_wp2_with fail
        simp [bodyPost, results, Tryz.results105, go_sem]
        exact HF.out
      · have := hhx e0 e12
        subst this
        have z0 : ((s : Int) == 0) = false := beq_eq_false_iff_ne.2 (by omega)
        have z12 : ((s : Int) == 12) = false := beq_eq_false_iff_ne.2 (by omega)
        clear hh0 hh12 hhx e0 e12
        go_wp2_with fail
        simp [bodyPost, results, Tryz.results105, go_sem]
        exact HF.out
end Go.Proofs.YtobnpfcgcoooeaaGreatDoor

/- StsH -/
namespace Go.Proofs.YtobnpfcgcoooeaaGreatDoor
open Go.RowKit Go.Deep Go.Sort Go.Lib
set_option maxRecDepth 100000

section
variable (lt : Int × Int × Int → Int × Int × Int → Bool)
theorem shiftDown_size (j : Nat) : ∀ d : Array (Int × Int × Int), (shiftDown lt j d).size = d.size := by
  induction j with
  | zero => intro d; rfl
  | succ j ih =>
    intro d
    unfold shiftDown
    split
    · rfl
    · rw [ih, size_swp]
theorem shiftUp_size (b n : Nat) : ∀ (j : Nat) (d : Array (Int × Int × Int)), b - j ≤ n → (shiftUp lt b j d).size = d.size := by
  induction n with
  | zero => intro j d h; rw [shiftUp_stop lt b j d (Or.inl (by omega))]
  | succ n ih =>
    intro j d h
    by_cases hj : j < b
    · cases hl : lt d[j]! d[j - 1]! with
      | true => rw [shiftUp_go lt b j d hj hl, ih _ _ (by omega), size_swp]
      | false => rw [shiftUp_stop lt b j d (Or.inr hl)]
    · rw [shiftUp_stop lt b j d (Or.inl hj)]
theorem fixDown_size (a k : Nat) (d : Array (Int × Int × Int)) : (fixDown lt a k d).size = d.size := by
  unfold fixDown
  split
  · exact shiftDown_size lt _ _
  · rfl
theorem fixUp_size (b k : Nat) (d : Array (Int × Int × Int)) : (fixUp lt b k d).size = d.size := by
  unfold fixUp
  split
  · exact shiftUp_size lt _ _ _ _ (Nat.le_refl _)
  · rfl
end

set_option maxHeartbeats 16000000 in
theorem partInsM (o : Nat) (ho : o < 6) (blk off cap a b : Nat) (d : Array (Int × Int × Int)) (w : World) (R : RowK encR 3 w blk off d) (hab : a < b) (hb : b ≤ d.size) (hsz : d.size < 1048576) :
    Calls Tryz.prog 107 #[.slice (some ⟨blk, off, none⟩) d.size cap, .int .i64 a, .int .i64 b, .func (.func 47) #[.int .i64 o] #[]] w fun e w' => e = .returned (.bool (partialInsertionSort (ltOf (rcmp o)) d a b).2) ∧ SWK encR 3 w blk off (partialInsertionSort (ltOf (rcmp o)) d a b).1 w' := by
  have mixed : Tryz.prog.follows .mixedOrders = true := by kernel_rfl
  have HR : Hid (RowK encR 3 w blk off d) := R
  have HC : Hid (∀ x y W, Calls Tryz.prog 47 #[.int .i64 o, .agg #[.int .i64 x.1, .int .i64 x.2.1, .int .i64 x.2.2], .agg #[.int .i64 y.1, .int .i64 y.2.1, .int .i64 y.2.2]] W fun e w' => e = .returned (.int .i64 (rcmp o x y)) ∧ ∃ q os, w' = grow (W.drewN q) os) := cmpM o ho
  have HS0 : Hid (SWK encR 3 w blk off d w) := SWK.start R.hH
  clear R ho
  rw [show partialInsertionSort (ltOf (rcmp o)) d a b = partialIns (ltOf (rcmp o)) a b 5 (a + 1) d from rfl]
  obtain ⟨RES, hRES⟩ : ∃ r, r = partialIns (ltOf (rcmp o)) a b 5 (a + 1) d := ⟨_, rfl⟩
  have HRES : Hid (RES = partialIns (ltOf (rcmp o)) a b 5 (a + 1) d) := hRES
  rw [← hRES]
  clear hRES
  go_enter Tryz.func107, Tryz.ntmps107
  go_wp2
  go_loopg [9, 10] 5 (fun g1 vi vs wr => ∃ (i s : Nat) (dk : Array (Int × Int × Int)), vi = .int .i64 i ∧ vs = .int .i64 s ∧ s ≤ 5 ∧ 5 - s ≤ g1 ∧ a < i ∧ i ≤ b ∧ dk.size = d.size ∧ Hid (SWK encR 3 w blk off dk wr) ∧ Hid (partialIns (ltOf (rcmp o)) a b (5 - s) i dk = RES))
  case atStart => exact ⟨a + 1, 0, d, by go_num, rfl, by omega, by omega, by omega, by omega, rfl, HS0, HRES.out.symm⟩
  case round =>
    obtain ⟨i, s, dk, rfl, rfl, hs5', hg1, hai, hib, hsk, HS, HO⟩ := hrel
    by_cases hs5 : s < 5
    · have hs5z : (s : Int) < 5 := by omega
      go_wp2
      go_loopg [9] (b - i) (fun g2 vi wr2 => ∃ (k : Nat), vi = .int .i64 k ∧ i ≤ k ∧ k ≤ b ∧ b - k ≤ g2 ∧ Hid (SWK encR 3 w blk off dk wr2) ∧ Hid (scanSorted (ltOf (rcmp o)) dk b k = scanSorted (ltOf (rcmp o)) dk b i))
      case atStart => exact ⟨i, rfl, Nat.le_refl _, hib, Nat.le_refl _, HS, rfl⟩
      case round =>
        obtain ⟨k, rfl, hik, hkb, hg2, HSI, HSc⟩ := hrel
        by_cases hlt : k < b
        · obtain ⟨kp, rfl⟩ : ∃ kp, k = kp + 1 := ⟨k - 1, by omega⟩
          have hltz : (kp : Int) + 1 < (b : Int) := by omega
          obtain ⟨xj, hxj⟩ : ∃ x, dk[kp + 1]! = x := ⟨_, rfl⟩
          obtain ⟨xp, hxp⟩ : ∃ x, dk[kp]! = x := ⟨_, rfl⟩
          have hwp : IntKind.i64.wrap (kp : Int) = (kp : Int) := by rw [IntKind.wrap_i64]; omega
          have jz : (kp : Int) + 1 < (d.size : Int) := by omega
          have jz1 : (kp : Int) < (d.size : Int) := by omega
          have p0 : (0 : Int) ≤ (kp : Int) + 1 := by omega
          have e0 : ((kp : Int) + 1).toNat = kp + 1 := by omega
          have hL := fun n os => swk_at3 (HSI.out.grown n os) HR.out hsk (kp + 1) (by omega)
          have hP := fun n os => swk_at3 (HSI.out.grown n os) HR.out hsk kp (by omega)
          rw [hxj] at hL
          rw [hxp] at hP
          have l0 := fun n os => (hL n os).1
          have l1 := fun n os => (hL n os).2.1
          have l2 := fun n os => (hL n os).2.2
          have q0 := fun n os => (hP n os).1
          have q1 := fun n os => (hP n os).2.1
          have q2 := fun n os => (hP n os).2.2
          have hcg := fun n os => HC.out xj xp (grow (wr.drewN n) os)
          clear hL hP
          by_cases hlv : rcmp o xj xp < 0
          · have HK : Hid (scanSorted (ltOf (rcmp o)) dk b i = kp + 1) := by
              show _ = _
              rw [← HSc.out, scanSorted_stop (ltOf (rcmp o)) dk b (kp + 1) (Or.inr (by simp only [Nat.add_sub_cancel]; rw [hxj, hxp]; exact decide_eq_true hlv))]
            have hkne : ((kp : Int) + 1 == (b : Int)) = false := beq_eq_false_iff_ne.2 (by omega)
            go_wp2_with fail
            go_quiet_grown (first | (go_at_call 47; refine Calls.grown_of (hcg _ _)))
            have HS2 : Hid (SWK encR 3 w blk off dk (grow (wr.drewN nq) osq)) := HSI.out.grown nq osq
            clear l0 l1 l2 q0 q1 q2 hcg
            generalize grow (wr.drewN nq) osq = w2 at HS2 ⊢
            by_cases h50 : b - a < 50
            · have h50z : (b : Int) - (a : Int) < 50 := by omega
              go_wp2
              have hv : RES = (dk, false) := by
                rw [← HO.out, pi_short (ltOf (rcmp o)) a b s i dk hs5 (by rw [HK.out]; omega) h50]
              rw [hv]
              go_ret
              exact ⟨rfl, HS2.out⟩
            · have h50z : ¬ (b : Int) - (a : Int) < 50 := by omega
              go_wp2_with fail
              obtain ⟨d1, hd1⟩ : ∃ d1, d1 = swp dk (kp + 1) kp := ⟨_, rfl⟩
              have HD1 : Hid (d1 = swp dk (kp + 1) kp) := hd1
              have hs1 : d1.size = d.size := by rw [hd1, size_swp]; exact hsk
              obtain ⟨d2, hd2⟩ : ∃ d2, d2 = fixDown (ltOf (rcmp o)) a (kp + 1) d1 := ⟨_, rfl⟩
              have HD2 : Hid (d2 = fixDown (ltOf (rcmp o)) a (kp + 1) d1) := hd2
              have hs2 : d2.size = d.size := by rw [hd2, fixDown_size, hs1]
              obtain ⟨d3, hd3⟩ : ∃ d3, d3 = fixUp (ltOf (rcmp o)) b (kp + 1) d2 := ⟨_, rfl⟩
              have HD3 : Hid (d3 = fixUp (ltOf (rcmp o)) b (kp + 1) d2) := hd3
              have hs3 : d3.size = d.size := by rw [hd3, fixUp_size, hs2]
              clear hd1 hd2 hd3
              obtain ⟨l0, l1, l2⟩ := hxj ▸ swk_at3 HS2.out HR.out hsk (kp + 1) (by omega)
              obtain ⟨q0, q1, q2⟩ := hxp ▸ swk_at3 HS2.out HR.out hsk kp (by omega)
              obtain ⟨z0, z1, z2⟩ := swk_fr3 HS2.out HR.out hsk (kp + 1) (by omega)
              obtain ⟨y0, y1, y2⟩ := swk_fr3 HS2.out HR.out hsk kp (by omega)
              go_big_region_o
              go_upto_if 65 with fail
              have HS3 : Hid (SWK encR 3 w blk off d1 _) := (show SWK encR 3 w blk off d1 _ by rw [HD1.out]; exact swk_swp3 HS2.out HR.out (kp + 1) kp (by omega) (by omega) hxj hxp)
              clear l0 l1 l2 q0 q1 q2 z0 z1 z2 y0 y1 y2
              go_cut [11] from 15 to 140 (fun _ wx => Hid (SWK encR 3 w blk off d2 wx))
              case first =>
                by_cases h2 : a + 2 ≤ kp + 1
                · have h2z : (2 : Int) ≤ (kp : Int) + 1 - (a : Int) := by omega
                  have HX2 : Hid (d2 = shiftDown (ltOf (rcmp o)) kp d1) := by
                    show _ = _
                    rw [HD2.out, fixDown, if_pos (by omega)]
                    rfl
                  rw [show decide ((2 : Int) ≤ (kp : Int) + 1 - (a : Int)) = true from decide_eq_true h2z]
                  go_wp2
                  go_loopg [11] (kp + 1) (fun g3 vj wr3 => ∃ (j : Nat) (dj : Array (Int × Int × Int)), vj = .int .i64 j ∧ j ≤ kp ∧ j ≤ g3 ∧ dj.size = d.size ∧ Hid (SWK encR 3 w blk off dj wr3) ∧ Hid (shiftDown (ltOf (rcmp o)) j dj = shiftDown (ltOf (rcmp o)) kp d1))
                  case atStart => exact ⟨kp, d1, by first | rfl | go_num, Nat.le_refl _, by omega, hs1, HS3, rfl⟩
                  case round =>
                    obtain ⟨j, dj, rfl, hjk, hg3, hsj, HSD, HDn⟩ := hrel
                    by_cases hj1 : 1 ≤ j
                    · obtain ⟨jp, rfl⟩ : ∃ jp, j = jp + 1 := ⟨j - 1, by omega⟩
                      have hj1z : (1 : Int) ≤ (jp : Int) + 1 := by omega
                      obtain ⟨xj, hxj⟩ : ∃ x, dj[jp + 1]! = x := ⟨_, rfl⟩
                      obtain ⟨xp, hxp⟩ : ∃ x, dj[jp]! = x := ⟨_, rfl⟩
                      have hwp : IntKind.i64.wrap (jp : Int) = (jp : Int) := by rw [IntKind.wrap_i64]; omega
                      have jz : (jp : Int) + 1 < (d.size : Int) := by omega
                      have jz1 : (jp : Int) < (d.size : Int) := by omega
                      have p0 : (0 : Int) ≤ (jp : Int) + 1 := by omega
                      have e0 : ((jp : Int) + 1).toNat = jp + 1 := by omega
                      have hL := fun n os => swk_at3 (HSD.out.grown n os) HR.out hsj (jp + 1) (by omega)
                      have hP := fun n os => swk_at3 (HSD.out.grown n os) HR.out hsj jp (by omega)
                      rw [hxj] at hL
                      rw [hxp] at hP
                      have l0 := fun n os => (hL n os).1
                      have l1 := fun n os => (hL n os).2.1
                      have l2 := fun n os => (hL n os).2.2
                      have q0 := fun n os => (hP n os).1
                      have q1 := fun n os => (hP n os).2.1
                      have q2 := fun n os => (hP n os).2.2
                      have hcg := fun n os => HC.out xj xp (grow (wr.drewN n) os)
                      clear hL hP
                      by_cases hlv : rcmp o xj xp < 0
                      · go_wp2_with fail
                        go_quiet_grown (first | (go_at_call 47; refine Calls.grown_of (hcg _ _)))
                        go_wp2_with fail
                        have HS4 : Hid (SWK encR 3 w blk off dj (grow (wr.drewN nq) osq)) := HSD.out.grown nq osq
                        clear l0 l1 l2 q0 q1 q2 hcg
                        generalize grow (wr.drewN nq) osq = wq at HS4 ⊢
                        obtain ⟨l0, l1, l2⟩ := hxj ▸ swk_at3 HS4.out HR.out hsj (jp + 1) (by omega)
                        obtain ⟨q0, q1, q2⟩ := hxp ▸ swk_at3 HS4.out HR.out hsj jp (by omega)
                        obtain ⟨z0, z1, z2⟩ := swk_fr3 HS4.out HR.out hsj (jp + 1) (by omega)
                        obtain ⟨y0, y1, y2⟩ := swk_fr3 HS4.out HR.out hsj jp (by omega)
                        go_big_region_o
                        all_goals go_wp2
                        go_roundg jp
                        case measure => omega
                        case rel =>
                          refine ⟨jp, swp dj (jp + 1) jp, by first | rfl | go_num, by omega, Nat.le_refl _, by rw [size_swp]; exact hsj, swk_swp3 HS4.out HR.out (jp + 1) jp (by omega) (by omega) hxj hxp, (show Hid _ from ?_)⟩
                          show _ = _
                          have := shiftDown_go (ltOf (rcmp o)) (jp + 1) dj hj1 (by simp only [Nat.add_sub_cancel]; rw [hxj, hxp]; exact decide_eq_true hlv)
                          simp only [Nat.add_sub_cancel] at this
                          rw [← HDn.out, this]
                      · have hld : decide (rcmp o xj xp < 0) = false := decide_eq_false hlv
                        go_wp2_with fail
                        go_quiet_grown (first | (go_at_call 47; refine Calls.grown_of (hcg _ _)))
                        go_wp2_with fail
                        go_meet
                        show Hid _
                        rw [HX2.out, ← HDn.out, shiftDown_stop (ltOf (rcmp o)) (jp + 1) dj (Or.inr (by simp only [Nat.add_sub_cancel]; rw [hxj, hxp]; exact hld))]
                        exact HSD.out.grown nq osq
                    · have hj1z : ¬ (1 : Int) ≤ (j : Int) := by omega
                      go_wp2_with fail
                      go_meet
                      show Hid _
                      rw [HX2.out, ← HDn.out, shiftDown_stop (ltOf (rcmp o)) j dj (Or.inl (by omega))]
                      exact HSD.out
                · have h2z : ¬ (2 : Int) ≤ (kp : Int) + 1 - (a : Int) := by omega
                  have HX2 : Hid (d2 = d1) := by
                    show _ = _
                    rw [HD2.out, fixDown, if_neg (by omega)]
                  go_wp2_with fail
                  go_meet
                  show Hid _
                  rw [HX2.out]
                  exact HS3.out
              case rest =>
                have HS5 : Hid (SWK encR 3 w blk off d2 wc) := hcut
                clear hcut
                by_cases h2 : kp + 1 + 2 ≤ b
                · have h2z : (2 : Int) ≤ (b : Int) - ((kp : Int) + 1) := by omega
                  have HX3 : Hid (d3 = shiftUp (ltOf (rcmp o)) b (kp + 2) d2) := by
                    show _ = _
                    rw [HD3.out, fixUp, if_pos (by omega)]
                  go_wp2
                  go_loopg [12] (b - (kp + 2)) (fun g4 vj wr4 => ∃ (j : Nat) (dj : Array (Int × Int × Int)), vj = .int .i64 j ∧ kp + 2 ≤ j ∧ j ≤ b ∧ b - j ≤ g4 ∧ dj.size = d.size ∧ Hid (SWK encR 3 w blk off dj wr4) ∧ Hid (shiftUp (ltOf (rcmp o)) b j dj = shiftUp (ltOf (rcmp o)) b (kp + 2) d2))
                  case atStart => exact ⟨kp + 2, d2, by first | rfl | go_num, Nat.le_refl _, by omega, Nat.le_refl _, hs2, HS5, rfl⟩
                  case round =>
                    obtain ⟨j, dj, rfl, hjk, hjb, hg4, hsj, HSD, HDn⟩ := hrel
                    by_cases hj1 : j < b
                    · obtain ⟨jp, rfl⟩ : ∃ jp, j = jp + 1 := ⟨j - 1, by omega⟩
                      have hj1z : (jp : Int) + 1 < (b : Int) := by omega
                      obtain ⟨xj, hxj⟩ : ∃ x, dj[jp + 1]! = x := ⟨_, rfl⟩
                      obtain ⟨xp, hxp⟩ : ∃ x, dj[jp]! = x := ⟨_, rfl⟩
                      have hwp : IntKind.i64.wrap (jp : Int) = (jp : Int) := by rw [IntKind.wrap_i64]; omega
                      have jz : (jp : Int) + 1 < (d.size : Int) := by omega
                      have jz1 : (jp : Int) < (d.size : Int) := by omega
                      have p0 : (0 : Int) ≤ (jp : Int) + 1 := by omega
                      have e0 : ((jp : Int) + 1).toNat = jp + 1 := by omega
                      have hL := fun n os => swk_at3 (HSD.out.grown n os) HR.out hsj (jp + 1) (by omega)
                      have hP := fun n os => swk_at3 (HSD.out.grown n os) HR.out hsj jp (by omega)
                      rw [hxj] at hL
                      rw [hxp] at hP
                      have l0 := fun n os => (hL n os).1
                      have l1 := fun n os => (hL n os).2.1
                      have l2 := fun n os => (hL n os).2.2
                      have q0 := fun n os => (hP n os).1
                      have q1 := fun n os => (hP n os).2.1
                      have q2 := fun n os => (hP n os).2.2
                      have hcg := fun n os => HC.out xj xp (grow (wr.drewN n) os)
                      clear hL hP
                      by_cases hlv : rcmp o xj xp < 0
                      · go_wp2_with fail
                        go_quiet_grown (first | (go_at_call 47; refine Calls.grown_of (hcg _ _)))
                        go_wp2_with fail
                        have HS6 : Hid (SWK encR 3 w blk off dj (grow (wr.drewN nq) osq)) := HSD.out.grown nq osq
                        clear l0 l1 l2 q0 q1 q2 hcg
                        generalize grow (wr.drewN nq) osq = wq at HS6 ⊢
                        obtain ⟨l0, l1, l2⟩ := hxj ▸ swk_at3 HS6.out HR.out hsj (jp + 1) (by omega)
                        obtain ⟨q0, q1, q2⟩ := hxp ▸ swk_at3 HS6.out HR.out hsj jp (by omega)
                        obtain ⟨z0, z1, z2⟩ := swk_fr3 HS6.out HR.out hsj (jp + 1) (by omega)
                        obtain ⟨y0, y1, y2⟩ := swk_fr3 HS6.out HR.out hsj jp (by omega)
                        go_big_region_o
                        all_goals go_wp2
                        go_roundg (b - (jp + 2))
                        case measure => omega
                        case rel =>
                          refine ⟨jp + 2, swp dj (jp + 1) jp, by first | rfl | go_num, by omega, by omega, Nat.le_refl _, by rw [size_swp]; exact hsj, swk_swp3 HS6.out HR.out (jp + 1) jp (by omega) (by omega) hxj hxp, (show Hid _ from ?_)⟩
                          show _ = _
                          have := shiftUp_go (ltOf (rcmp o)) b (jp + 1) dj hj1 (by simp only [Nat.add_sub_cancel]; rw [hxj, hxp]; exact decide_eq_true hlv)
                          simp only [Nat.add_sub_cancel] at this
                          rw [← HDn.out, this]
                      · have hld : decide (rcmp o xj xp < 0) = false := decide_eq_false hlv
                        go_wp2_with fail
                        go_quiet_grown (first | (go_at_call 47; refine Calls.grown_of (hcg _ _)))
                        have HS7 : Hid (SWK encR 3 w blk off d3 (grow (wr.drewN nq) osq)) := by
                          show SWK _ _ _ _ _ _ _
                          rw [HX3.out, ← HDn.out, shiftUp_stop (ltOf (rcmp o)) b (jp + 1) dj (Or.inr (by simp only [Nat.add_sub_cancel]; rw [hxj, hxp]; exact hld))]
                          exact HSD.out.grown nq osq
                        go_wp2
                        go_roundg (5 - (s + 1))
                        case measure => omega
                        case rel =>
                          refine ⟨kp + 1, s + 1, d3, by first | rfl | go_num, by first | rfl | go_num, by omega, Nat.le_refl _, by omega, by omega, hs3, HS7, (show Hid _ from ?_)⟩
                          show _ = _
                          rw [HD3.out, HD2.out, HD1.out, ← HO.out, pi_go (ltOf (rcmp o)) a b s i (kp + 1) dk hs5 HK.out (by omega) h50]
                          rfl
                    · have hj1z : ¬ (j : Int) < (b : Int) := by omega
                      have HS7 : Hid (SWK encR 3 w blk off d3 wr) := by
                        show SWK _ _ _ _ _ _ _
                        rw [HX3.out, ← HDn.out, shiftUp_stop (ltOf (rcmp o)) b j dj (Or.inl hj1)]
                        exact HSD.out
                      go_wp2
                      go_roundg (5 - (s + 1))
                      case measure => omega
                      case rel =>
                        refine ⟨kp + 1, s + 1, d3, by first | rfl | go_num, by first | rfl | go_num, by omega, Nat.le_refl _, by omega, by omega, hs3, HS7, (show Hid _ from ?_)⟩
                        show _ = _
                        rw [HD3.out, HD2.out, HD1.out, ← HO.out, pi_go (ltOf (rcmp o)) a b s i (kp + 1) dk hs5 HK.out (by omega) h50]
                        rfl
                · have h2z : ¬ (2 : Int) ≤ (b : Int) - ((kp : Int) + 1) := by omega
                  have HS7 : Hid (SWK encR 3 w blk off d3 wc) := by
                    show SWK _ _ _ _ _ _ _
                    rw [HD3.out, fixUp, if_neg (by omega)]
                    exact HS5.out
                  go_wp2
                  go_roundg (5 - (s + 1))
                  case measure => omega
                  case rel =>
                    refine ⟨kp + 1, s + 1, d3, by first | rfl | go_num, by first | rfl | go_num, by omega, Nat.le_refl _, by omega, by omega, hs3, HS7, (show Hid _ from ?_)⟩
                    show _ = _
                    rw [HD3.out, HD2.out, HD1.out, ← HO.out, pi_go (ltOf (rcmp o)) a b s i (kp + 1) dk hs5 HK.out (by omega) h50]
                    rfl
          · have hld : decide (rcmp o xj xp < 0) = false := decide_eq_false hlv
            go_wp2_with fail
            go_quiet_grown (first | (go_at_call 47; refine Calls.grown_of (hcg _ _)))
            go_wp2
            go_roundg (b - (kp + 2))
            case measure => omega
            case rel =>
              refine ⟨kp + 2, by go_num, by omega, by omega, Nat.le_refl _, HSI.out.grown nq osq, (show Hid _ from ?_)⟩
              show _ = _
              rw [← HSc.out, scanSorted_go (ltOf (rcmp o)) dk b (kp + 1) hlt (by simp only [Nat.add_sub_cancel]; rw [hxj, hxp]; exact hld)]
        · have hltz : ¬ (k : Int) < (b : Int) := by omega
          have hltd : decide ((k : Int) < (b : Int)) = false := decide_eq_false hltz
          have hkb' : k = b := by omega
          subst hkb'
          go_wp2_with fail
          go_big_region_o
          all_goals go_wp2
          have hv : RES = (dk, true) := by
            rw [← HO.out, pi_true (ltOf (rcmp o)) a k s i dk hs5 (by rw [← HSc.out, scanSorted_stop (ltOf (rcmp o)) dk k k (Or.inl hlt)])]
          rw [hv]
          go_ret
          exact ⟨rfl, HSI.out.drew⟩
    · have hs5z : ¬ (s : Int) < 5 := by omega
      go_wp2
      have hv : RES = (dk, false) := by
        rw [← HO.out, show 5 - s = 5 - 5 by omega, pi_end]
      rw [hv]
      go_ret
      exact ⟨rfl, HS.out⟩
end Go.Proofs.YtobnpfcgcoooeaaGreatDoor
