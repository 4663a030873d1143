/- Texts put together: StsF -/
import Derived.Test.YtobnpfcgcoooeaaGreatDoorMk16
/- StsF -/
namespace Go.Proofs.YtobnpfcgcoooeaaGreatDoor
open Go.RowKit Go.Deep Go.Sort Go.Lib
set_option maxRecDepth 100000

section
variable (lt : Int × Int × Int → Int × Int × Int → Bool) (d : Array (Int × Int × Int)) (a i j i1 j1 : Nat)
theorem partL_stop (h1 : scanUp (fun x => lt x d[a]!) d j i = i1) (h2 : scanDown (fun x => !lt x d[a]!) d i1 j = j1) (h : j1 < i1) : partLoop lt a i j d = (j1, d) := by
  rw [partLoop]
  simp only [h1, h2]
  rw [if_pos h]
theorem partL_go (h1 : scanUp (fun x => lt x d[a]!) d j i = i1) (h2 : scanDown (fun x => !lt x d[a]!) d i1 j = j1) (h : ¬ j1 < i1) (hi : i ≤ i1) (hj : j1 ≤ j) (h0 : 1 ≤ j1) : partLoop lt a i j d = partLoop lt a (i1 + 1) (j1 - 1) (swp d i1 j1) := by
  rw [partLoop]
  simp only [h1, h2]
  rw [if_neg h, dif_pos (by omega)]
variable (b pivot : Nat) (dk : Array (Int × Int × Int))
end
section
variable (lt : Int × Int × Int → Int × Int × Int → Bool) (d dk : Array (Int × Int × Int)) (a b pivot i1 j1 : Nat)
theorem part_stop (hd : dk = swp d a pivot) (h1 : scanUp (fun x => lt x dk[a]!) dk (b - 1) (a + 1) = i1) (h2 : scanDown (fun x => !lt x dk[a]!) dk i1 (b - 1) = j1) (h : j1 < i1) : Go.Sort.partition lt d a b pivot = (j1, true, swp dk j1 a) := by
  subst hd
  unfold Go.Sort.partition
  simp only [h1, h2]
  rw [if_pos h]
theorem part_go (hd : dk = swp d a pivot) (h1 : scanUp (fun x => lt x dk[a]!) dk (b - 1) (a + 1) = i1) (h2 : scanDown (fun x => !lt x dk[a]!) dk i1 (b - 1) = j1) (h : ¬ j1 < i1) : Go.Sort.partition lt d a b pivot = ((partLoop lt a (i1 + 1) (j1 - 1) (swp dk i1 j1)).1, false, swp (partLoop lt a (i1 + 1) (j1 - 1) (swp dk i1 j1)).2 (partLoop lt a (i1 + 1) (j1 - 1) (swp dk i1 j1)).1 a) := by
  subst hd
  unfold Go.Sort.partition
  simp only [h1, h2]
  rw [if_neg h]
end

set_option maxHeartbeats 16000000 in
theorem partM (o : Nat) (ho : o < 6) (blk off cap a b pivot : Nat) (d : Array (Int × Int × Int)) (w : World) (R : RowK encR 3 w blk off d) (hap : a ≤ pivot) (hpb : pivot < b) (hb : b ≤ d.size) (hsz : d.size < 1048576) :
    Calls Tryz.prog 109 #[.slice (some ⟨blk, off, none⟩) d.size cap, .int .i64 a, .int .i64 b, .int .i64 pivot, .func (.func 47) #[.int .i64 o] #[]] w fun e w' => e = .returned (.tuple #[.int .i64 (Go.Sort.partition (ltOf (rcmp o)) d a b pivot).1, .bool (Go.Sort.partition (ltOf (rcmp o)) d a b pivot).2.1]) ∧ SWK encR 3 w blk off (Go.Sort.partition (ltOf (rcmp o)) d a b pivot).2.2 w' := by
  have mixed : Tryz.prog.follows .mixedOrders = true := by kernel_rfl
  have HR : Hid (RowK encR 3 w blk off d) := R
  have HC : Hid (∀ x y W, Calls Tryz.prog 47 #[.int .i64 o, .agg #[.int .i64 x.1, .int .i64 x.2.1, .int .i64 x.2.2], .agg #[.int .i64 y.1, .int .i64 y.2.1, .int .i64 y.2.2]] W fun e w' => e = .returned (.int .i64 (rcmp o x y)) ∧ ∃ q os, w' = grow (W.drewN q) os) := cmpM o ho
  clear R ho
  obtain ⟨res, hres⟩ : ∃ r, Go.Sort.partition (ltOf (rcmp o)) d a b pivot = r := ⟨_, rfl⟩
  rw [hres]
  have HRES : Hid (Go.Sort.partition (ltOf (rcmp o)) d a b pivot = res) := hres
  clear hres
  obtain ⟨dk, hd1⟩ : ∃ d1, d1 = swp d a pivot := ⟨_, rfl⟩
  have hsk : dk.size = d.size := by rw [hd1, size_swp]
  have HD1 : Hid (dk = swp d a pivot) := hd1
  clear hd1
  have az : (a : Int) < (d.size : Int) := by omega
  go_enter Tryz.func109, Tryz.ntmps109
  go_upto_region 1 with fail
  go_cut [14] from 15 to 27 (fun _ wx => Hid (SWK encR 3 w blk off dk wx))
  case first =>
    clear hsk
    have pz : (pivot : Int) < (d.size : Int) := by omega
    obtain ⟨xa, hxa⟩ : ∃ x, d[a]! = x := ⟨_, rfl⟩
    obtain ⟨xp, hxp⟩ : ∃ x, d[pivot]! = x := ⟨_, rfl⟩
    have HS : Hid (SWK encR 3 w blk off d w) := SWK.start HR.out.hH
    obtain ⟨l0, l1, l2⟩ := hxa ▸ swk_at3 HS.out HR.out rfl a (by omega)
    obtain ⟨q0, q1, q2⟩ := hxp ▸ swk_at3 HS.out HR.out rfl pivot (by omega)
    obtain ⟨z0, z1, z2⟩ := swk_fr3 HS.out HR.out rfl a (by omega)
    obtain ⟨y0, y1, y2⟩ := swk_fr3 HS.out HR.out rfl pivot (by omega)
    have hne : a = pivot ∨ a < pivot := by omega
    rcases hne with rfl | hne
    · go_big_region_o
      all_goals go_wp2_with fail
      go_meet
      show Hid _
      rw [HD1.out]
      exact swk_swp3 HS.out HR.out a a (by omega) (by omega) hxa hxa
    · go_big_region_o
      all_goals go_wp2_with fail
      go_meet
      show Hid _
      rw [HD1.out]
      exact swk_swp3 HS.out HR.out a pivot (by omega) (by omega) hxa hxp
  case rest =>
    have HS : Hid (SWK encR 3 w blk off dk wc) := hcut
    clear hcut
    obtain ⟨xa, hxa⟩ : ∃ x, dk[a]! = x := ⟨_, rfl⟩
    obtain ⟨i, hi0⟩ : ∃ i, i = a + 1 := ⟨_, rfl⟩
    obtain ⟨j, hj0⟩ : ∃ j, j = b - 1 := ⟨_, rfl⟩
    have HI00 : Hid (i = a + 1) := hi0
    have HJ00 : Hid (j = b - 1) := hj0
    have gi1 : i ≤ a + 1 := by omega
    have gi2 : a + 1 ≤ i := by omega
    have gj1 : j + 1 ≤ b := by omega
    have gj2 : b ≤ j + 1 := by omega
    clear hi0 hj0
    go_wp2
    rw [show ((b : Int) - 1) = (j : Int) by omega]
    go_loopg [12] (j + 1 - i) (fun g2 vi wr2 => ∃ (i1 : Nat), vi = .int .i64 i1 ∧ i ≤ i1 ∧ i1 ≤ j + 2 ∧ j + 1 - i1 ≤ g2 ∧ Hid (SWK encR 3 w blk off dk wr2) ∧ Hid (scanUp (fun x => ltOf (rcmp o) x dk[a]!) dk j i1 = scanUp (fun x => ltOf (rcmp o) x dk[a]!) dk j i))
    case atStart => exact ⟨i, by first | rfl | go_num, Nat.le_refl _, by omega, by omega, HS, rfl⟩
    case round =>
      obtain ⟨i1, rfl, hi1, hij1, hg2, HSI, HI0⟩ := hrel
      by_cases hle : i1 ≤ j
      · have hlez : (i1 : Int) ≤ (j : Int) := by omega
        have iz : (i1 : Int) < (d.size : Int) := by omega
        obtain ⟨xi, hxi⟩ : ∃ x, dk[i1]! = x := ⟨_, rfl⟩
        have hL := fun n os => swk_at3 (HSI.out.grown n os) HR.out hsk (i1) (by omega)
        have hP := fun n os => swk_at3 (HSI.out.grown n os) HR.out hsk (a) (by omega)
        rw [hxi] at hL
        rw [hxa] at hP
        have l0 := fun n os => (hL n os).1
        have l1 := fun n os => (hL n os).2.1
        have l2 := fun n os => (hL n os).2.2
        have q0 := fun n os => (hP n os).1
        have q1 := fun n os => (hP n os).2.1
        have q2 := fun n os => (hP n os).2.2
        have hcg := fun n os => HC.out xi xa (grow (wr.drewN n) os)
        clear hL hP
        by_cases hlt : rcmp o xi xa < 0
        · go_wp2_with fail
          go_quiet_grown (first | (go_at_call 47; refine Calls.grown_of (hcg _ _)))
          go_wp2
          go_roundg (j - i1)
          case measure => omega
          case rel =>
            refine ⟨i1 + 1, by go_num, by omega, by omega, by omega, HSI.out.grown nq osq, (show Hid _ from ?_)⟩
            show _ = _
            rw [← HI0.out]
            exact (scanUp_go _ _ _ _ hle (by rw [hxa, hxi]; exact decide_eq_true hlt)).symm
        · have hld : decide (rcmp o xi xa < 0) = false := decide_eq_false hlt
          go_wp2_with fail
          go_quiet_grown (first | (go_at_call 47; refine Calls.grown_of (hcg _ _)))
          go_wp2_with fail
          have HS2 : Hid (SWK encR 3 w blk off dk (grow (wr.drewN nq) osq)) := HSI.out.grown nq osq
          have HI1 : Hid (scanUp (fun x => ltOf (rcmp o) x dk[a]!) dk j i = i1) := by
            show _ = _
            rw [← HI0.out]
            exact scanUp_stop _ _ _ _ (Or.inr (by rw [hxa, hxi]; exact hld))
          clear l0 l1 l2 q0 q1 q2 hcg hlt hld hxi iz hlez
          generalize grow (wr.drewN nq) osq = w2q at HS2 ⊢
          go_wp2
          go_loopg [13] (j + 1 - i1) (fun g3 vj wr3 => ∃ (j1 : Nat), vj = .int .i64 j1 ∧ j1 ≤ j ∧ i1 ≤ j1 + 2 ∧ j1 + 1 - i1 ≤ g3 ∧ a ≤ j1 ∧ Hid (SWK encR 3 w blk off dk wr3) ∧ Hid (scanDown (fun x => !ltOf (rcmp o) x dk[a]!) dk i1 j1 = scanDown (fun x => !ltOf (rcmp o) x dk[a]!) dk i1 j))
          case atStart => exact ⟨j, rfl, Nat.le_refl _, by omega, by omega, by omega, HS2, rfl⟩
          case round =>
            obtain ⟨j1, rfl, hj1, hij1, hg3, haj1, HSJ, HJ1⟩ := hrel
            have jz : (j1 : Int) < (d.size : Int) := by omega
            by_cases hle : i1 ≤ j1
            · have hlez : (i1 : Int) ≤ (j1 : Int) := by omega
              obtain ⟨xj, hxj⟩ : ∃ x, dk[j1]! = x := ⟨_, rfl⟩
              have hL := fun n os => swk_at3 (HSJ.out.grown n os) HR.out hsk (j1) (by omega)
              have hP := fun n os => swk_at3 (HSJ.out.grown n os) HR.out hsk (a) (by omega)
              rw [hxj] at hL
              rw [hxa] at hP
              have l0 := fun n os => (hL n os).1
              have l1 := fun n os => (hL n os).2.1
              have l2 := fun n os => (hL n os).2.2
              have q0 := fun n os => (hP n os).1
              have q1 := fun n os => (hP n os).2.1
              have q2 := fun n os => (hP n os).2.2
              have hcg := fun n os => HC.out xj xa (grow (wr.drewN n) os)
              clear hL hP
              by_cases hlt : rcmp o xj xa < 0
              · go_wp2_with fail
                go_quiet_grown (first | (go_at_call 47; refine Calls.grown_of (hcg _ _)))
                go_wp2_with fail
                have HS3 : Hid (SWK encR 3 w blk off dk (grow (wr.drewN nq) osq)) := HSJ.out.grown nq osq
                have HJ2 : Hid (scanDown (fun x => !ltOf (rcmp o) x dk[a]!) dk i1 j = j1) := by
                  show _ = _
                  rw [← HJ1.out]
                  exact scanDown_stop _ _ _ _ (Or.inr (by rw [hxa, hxj]; simp [ltOf, hlt]))
                clear l0 l1 l2 q0 q1 q2 hcg hlt hxj
                generalize grow (wr.drewN nq) osq = w3q at HS3 ⊢
                have hij : ¬ j1 < i1 := by omega
                have hijz : ¬ (j1 : Int) < (i1 : Int) := by omega
                have iz : (i1 : Int) < (d.size : Int) := by omega
                go_wp2_with fail
                go_cut [87] from 88 to 100 (fun _ wx => Hid (SWK encR 3 w blk off (swp dk i1 j1) wx))
                case first =>
                  obtain ⟨xi, hxi⟩ : ∃ x, dk[i1]! = x := ⟨_, rfl⟩
                  obtain ⟨xj, hxj⟩ : ∃ x, dk[j1]! = x := ⟨_, rfl⟩
                  obtain ⟨l0, l1, l2⟩ := hxi ▸ swk_at3 HS3.out HR.out hsk (i1) (by omega)
                  obtain ⟨q0, q1, q2⟩ := hxj ▸ swk_at3 HS3.out HR.out hsk (j1) (by omega)
                  obtain ⟨z0, z1, z2⟩ := swk_fr3 HS3.out HR.out hsk (i1) (by omega)
                  obtain ⟨y0, y1, y2⟩ := swk_fr3 HS3.out HR.out hsk (j1) (by omega)
                  have hne : i1 = j1 ∨ i1 < j1 := by omega
                  rcases hne with rfl | hne
                  · go_big_region_o
                    all_goals go_wp2_with fail
                    go_meet
                    exact swk_swp3 HS3.out HR.out i1 i1 (by omega) (by omega) hxi hxi
                  · go_big_region_o
                    all_goals go_wp2_with fail
                    go_meet
                    exact swk_swp3 HS3.out HR.out i1 j1 (by omega) (by omega) hxi hxj
                case rest =>
                  have HS4 : Hid (SWK encR 3 w blk off (swp dk i1 j1) wc) := hcut
                  have hh := HRES.out
                  rw [part_go _ _ _ _ _ _ _ _ HD1.out (HI00.out ▸ HJ00.out ▸ HI1.out) (HJ00.out ▸ HJ2.out) hij] at hh
                  have hs2 : (swp dk i1 j1).size = d.size := by rw [size_swp]; exact hsk
                  clear hcut HRES
                  obtain ⟨ia, hia⟩ : ∃ ia, i1 + 1 = ia := ⟨_, rfl⟩
                  obtain ⟨ja, hja'⟩ : ∃ ja, j1 - 1 = ja := ⟨_, rfl⟩
                  rw [hia, hja'] at hh
                  generalize swp dk i1 j1 = d2 at hh HS4 hs2
                  have HRES : Hid (((partLoop (ltOf (rcmp o)) a ia ja d2).1, false, swp (partLoop (ltOf (rcmp o)) a ia ja d2).2 (partLoop (ltOf (rcmp o)) a ia ja d2).1 a) = res) := hh
                  clear hh
                  go_wp2
                  go_loopg [12, 13] (b - a) (fun g1 vi vj wr => ∃ (i j : Nat) (dk : Array (Int × Int × Int)), vi = .int .i64 i ∧ vj = .int .i64 j ∧ a < i ∧ j < b ∧ i ≤ j + 2 ∧ a ≤ j ∧ j + 1 - i ≤ g1 ∧ dk.size = d.size ∧ Hid (SWK encR 3 w blk off dk wr) ∧ Hid (partLoop (ltOf (rcmp o)) a i j dk = partLoop (ltOf (rcmp o)) a ia ja d2))
                  case atStart => exact ⟨ia, ja, d2, by first | rfl | go_num, by first | rfl | go_num, by omega, by omega, by omega, by omega, by omega, hs2, HS4, rfl⟩
                  case round =>
                    obtain ⟨i, j, dk, rfl, rfl, hai, hjb, hij, hja, hg1, hsk, HS, HO⟩ := hrel
                    obtain ⟨xa, hxa⟩ : ∃ x, dk[a]! = x := ⟨_, rfl⟩
                    go_wp2
                    go_loopg [12] (j + 1 - i) (fun g2 vi wr2 => ∃ (i1 : Nat), vi = .int .i64 i1 ∧ i ≤ i1 ∧ i1 ≤ j + 2 ∧ j + 1 - i1 ≤ g2 ∧ Hid (SWK encR 3 w blk off dk wr2) ∧ Hid (scanUp (fun x => ltOf (rcmp o) x dk[a]!) dk j i1 = scanUp (fun x => ltOf (rcmp o) x dk[a]!) dk j i))
                    case atStart => exact ⟨i, by first | rfl | go_num, Nat.le_refl _, by omega, by omega, HS, rfl⟩
                    case round =>
                      obtain ⟨i1, rfl, hi1, hij1, hg2, HSI, HI0⟩ := hrel
                      by_cases hle : i1 ≤ j
                      · have hlez : (i1 : Int) ≤ (j : Int) := by omega
                        have iz : (i1 : Int) < (d.size : Int) := by omega
                        obtain ⟨xi, hxi⟩ : ∃ x, dk[i1]! = x := ⟨_, rfl⟩
                        have hL := fun n os => swk_at3 (HSI.out.grown n os) HR.out hsk (i1) (by omega)
                        have hP := fun n os => swk_at3 (HSI.out.grown n os) HR.out hsk (a) (by omega)
                        rw [hxi] at hL
                        rw [hxa] at hP
                        have l0 := fun n os => (hL n os).1
                        have l1 := fun n os => (hL n os).2.1
                        have l2 := fun n os => (hL n os).2.2
                        have q0 := fun n os => (hP n os).1
                        have q1 := fun n os => (hP n os).2.1
                        have q2 := fun n os => (hP n os).2.2
                        have hcg := fun n os => HC.out xi xa (grow (wr.drewN n) os)
                        clear hL hP
                        by_cases hlt : rcmp o xi xa < 0
                        · go_wp2_with fail
                          go_quiet_grown (first | (go_at_call 47; refine Calls.grown_of (hcg _ _)))
                          go_wp2
                          go_roundg (j - i1)
                          case measure => omega
                          case rel =>
                            refine ⟨i1 + 1, by go_num, by omega, by omega, by omega, HSI.out.grown nq osq, (show Hid _ from ?_)⟩
                            show _ = _
                            rw [← HI0.out]
                            exact (scanUp_go _ _ _ _ hle (by rw [hxa, hxi]; exact decide_eq_true hlt)).symm
                        · have hld : decide (rcmp o xi xa < 0) = false := decide_eq_false hlt
                          go_wp2_with fail
                          go_quiet_grown (first | (go_at_call 47; refine Calls.grown_of (hcg _ _)))
                          go_wp2_with fail
                          have HS2 : Hid (SWK encR 3 w blk off dk (grow (wr.drewN nq) osq)) := HSI.out.grown nq osq
                          have HI1 : Hid (scanUp (fun x => ltOf (rcmp o) x dk[a]!) dk j i = i1) := by
                            show _ = _
                            rw [← HI0.out]
                            exact scanUp_stop _ _ _ _ (Or.inr (by rw [hxa, hxi]; exact hld))
                          clear l0 l1 l2 q0 q1 q2 hcg hlt hld hxi iz hlez
                          generalize grow (wr.drewN nq) osq = w2q at HS2 ⊢
                          go_wp2
                          go_loopg [13] (j + 1 - i1) (fun g3 vj wr3 => ∃ (j1 : Nat), vj = .int .i64 j1 ∧ j1 ≤ j ∧ i1 ≤ j1 + 2 ∧ j1 + 1 - i1 ≤ g3 ∧ a ≤ j1 ∧ Hid (SWK encR 3 w blk off dk wr3) ∧ Hid (scanDown (fun x => !ltOf (rcmp o) x dk[a]!) dk i1 j1 = scanDown (fun x => !ltOf (rcmp o) x dk[a]!) dk i1 j))
                          case atStart => exact ⟨j, rfl, Nat.le_refl _, by omega, by omega, by omega, HS2, rfl⟩
                          case round =>
                            obtain ⟨j1, rfl, hj1, hij1, hg3, haj1, HSJ, HJ1⟩ := hrel
                            have jz : (j1 : Int) < (d.size : Int) := by omega
                            by_cases hle : i1 ≤ j1
                            · have hlez : (i1 : Int) ≤ (j1 : Int) := by omega
                              obtain ⟨xj, hxj⟩ : ∃ x, dk[j1]! = x := ⟨_, rfl⟩
                              have hL := fun n os => swk_at3 (HSJ.out.grown n os) HR.out hsk (j1) (by omega)
                              have hP := fun n os => swk_at3 (HSJ.out.grown n os) HR.out hsk (a) (by omega)
                              rw [hxj] at hL
                              rw [hxa] at hP
                              have l0 := fun n os => (hL n os).1
                              have l1 := fun n os => (hL n os).2.1
                              have l2 := fun n os => (hL n os).2.2
                              have q0 := fun n os => (hP n os).1
                              have q1 := fun n os => (hP n os).2.1
                              have q2 := fun n os => (hP n os).2.2
                              have hcg := fun n os => HC.out xj xa (grow (wr.drewN n) os)
                              clear hL hP
                              by_cases hlt : rcmp o xj xa < 0
                              · go_wp2_with fail
                                go_quiet_grown (first | (go_at_call 47; refine Calls.grown_of (hcg _ _)))
                                go_wp2_with fail
                                have HS3 : Hid (SWK encR 3 w blk off dk (grow (wr.drewN nq) osq)) := HSJ.out.grown nq osq
                                have HJ2 : Hid (scanDown (fun x => !ltOf (rcmp o) x dk[a]!) dk i1 j = j1) := by
                                  show _ = _
                                  rw [← HJ1.out]
                                  exact scanDown_stop _ _ _ _ (Or.inr (by rw [hxa, hxj]; simp [ltOf, hlt]))
                                clear l0 l1 l2 q0 q1 q2 hcg hlt hxj
                                generalize grow (wr.drewN nq) osq = w3q at HS3 ⊢
                                have hij : ¬ j1 < i1 := by omega
                                have hijz : ¬ (j1 : Int) < (i1 : Int) := by omega
                                have iz : (i1 : Int) < (d.size : Int) := by omega
                                obtain ⟨xi, hxi⟩ : ∃ x, dk[i1]! = x := ⟨_, rfl⟩
                                obtain ⟨xj, hxj⟩ : ∃ x, dk[j1]! = x := ⟨_, rfl⟩
                                obtain ⟨l0, l1, l2⟩ := hxi ▸ swk_at3 HS3.out HR.out hsk (i1) (by omega)
                                obtain ⟨q0, q1, q2⟩ := hxj ▸ swk_at3 HS3.out HR.out hsk (j1) (by omega)
                                obtain ⟨z0, z1, z2⟩ := swk_fr3 HS3.out HR.out hsk (i1) (by omega)
                                obtain ⟨y0, y1, y2⟩ := swk_fr3 HS3.out HR.out hsk (j1) (by omega)
                                have hne : i1 = j1 ∨ i1 < j1 := by omega
                                have HEQ : Hid (partLoop (ltOf (rcmp o)) a (i1 + 1) (j1 - 1) (swp dk i1 j1) = partLoop (ltOf (rcmp o)) a ia ja d2) := by
                                  show _ = _
                                  rw [← HO.out, partL_go _ _ _ _ _ _ _ HI1.out HJ2.out hij (by omega) (by omega) (by omega)]
                                rcases hne with rfl | hne
                                · go_wp2_with fail
                                  go_big_region_o
                                  all_goals go_wp2
                                  go_roundg (i1 - 1 - i1)
                                  case measure => omega
                                  case rel => exact ⟨i1 + 1, i1 - 1, swp dk i1 i1, by go_num, by go_num, by omega, by omega, by omega, by omega, by omega, by rw [size_swp]; exact hsk, swk_swp3 HS3.out HR.out i1 i1 (by omega) (by omega) hxi hxi, HEQ⟩
                                · go_wp2_with fail
                                  go_big_region_o
                                  all_goals go_wp2
                                  go_roundg (j1 - 1 - i1)
                                  case measure => omega
                                  case rel => exact ⟨i1 + 1, j1 - 1, swp dk i1 j1, by go_num, by go_num, by omega, by omega, by omega, by omega, by omega, by rw [size_swp]; exact hsk, swk_swp3 HS3.out HR.out i1 j1 (by omega) (by omega) hxi hxj, HEQ⟩
                              · have hld : decide (rcmp o xj xa < 0) = false := decide_eq_false hlt
                                go_wp2_with fail
                                go_quiet_grown (first | (go_at_call 47; refine Calls.grown_of (hcg _ _)))
                                go_wp2
                                go_roundg (j1 - i1)
                                case measure => omega
                                case rel =>
                                  refine ⟨j1 - 1, by go_num, by omega, by omega, by omega, by omega, HSJ.out.grown nq osq, (show Hid _ from ?_)⟩
                                  show _ = _
                                  rw [← HJ1.out]
                                  exact (scanDown_go _ _ _ _ (by omega) hle (by rw [hxa, hxj]; simp [ltOf]; omega)).symm
                            · have hlez : ¬ (i1 : Int) ≤ (j1 : Int) := by omega
                              have hled : decide ((i1 : Int) ≤ (j1 : Int)) = false := decide_eq_false hlez
                              go_wp2_with fail
                              go_big_region_o
                              all_goals go_wp2_with fail
                              have HS3 : Hid (SWK encR 3 w blk off dk wr.drew) := HSJ.out.drew
                              have HJ2 : Hid (scanDown (fun x => !ltOf (rcmp o) x dk[a]!) dk i1 j = j1) := by
                                show _ = _
                                rw [← HJ1.out]
                                exact scanDown_stop _ _ _ _ (Or.inl hle)
                              generalize wr.drew = w3q at HS3 ⊢
                              have hij : j1 < i1 := by omega
                              have hijz : (j1 : Int) < (i1 : Int) := by omega
                              have hh := HRES.out
                              have hp := HO.out
                              rw [partL_stop _ _ _ _ _ _ _ HI1.out HJ2.out hij] at hp
                              rw [← hp] at hh
                              have HH : Hid ((j1, false, swp dk j1 a) = res) := hh
                              clear hh hp
                              obtain ⟨xj, hxj⟩ : ∃ x, dk[j1]! = x := ⟨_, rfl⟩
                              obtain ⟨xb, hxb⟩ : ∃ x, dk[a]! = x := ⟨_, rfl⟩
                              obtain ⟨l0, l1, l2⟩ := hxj ▸ swk_at3 HS3.out HR.out hsk (j1) (by omega)
                              obtain ⟨q0, q1, q2⟩ := hxb ▸ swk_at3 HS3.out HR.out hsk (a) (by omega)
                              obtain ⟨z0, z1, z2⟩ := swk_fr3 HS3.out HR.out hsk (j1) (by omega)
                              obtain ⟨y0, y1, y2⟩ := swk_fr3 HS3.out HR.out hsk (a) (by omega)
                              have hne : j1 = a ∨ a < j1 := by omega
                              rcases hne with rfl | hne
                              · go_wp2_with fail
                                go_big_region_o
                                all_goals go_wp2
                                obtain rfl := HH.out
                                simp [bodyPost, results, Tryz.results109, go_sem]
                                first | exact swk_swp3 HS3.out HR.out j1 j1 (by omega) (by omega) hxj hxj | exact swk_swp3 HS3.out HR.out a a (by omega) (by omega) hxj hxj
                              · go_wp2_with fail
                                go_big_region_o
                                all_goals go_wp2
                                obtain rfl := HH.out
                                simp [bodyPost, results, Tryz.results109, go_sem]
                                exact swk_swp3 HS3.out HR.out j1 a (by omega) (by omega) hxj hxb
                      · have hlez : ¬ (i1 : Int) ≤ (j : Int) := by omega
                        have hled : decide ((i1 : Int) ≤ (j : Int)) = false := decide_eq_false hlez
                        go_wp2_with fail
                        go_big_region_o
                        all_goals go_wp2_with fail
                        have HS2 : Hid (SWK encR 3 w blk off dk wr.drew) := HSI.out.drew
                        have HI1 : Hid (scanUp (fun x => ltOf (rcmp o) x dk[a]!) dk j i = i1) := by
                          show _ = _
                          rw [← HI0.out]
                          exact scanUp_stop _ _ _ _ (Or.inl hle)
                        clear hled hlez
                        generalize wr.drew = w2q at HS2 ⊢
                        go_wp2
                        go_loopg [13] (j + 1 - i1) (fun g3 vj wr3 => ∃ (j1 : Nat), vj = .int .i64 j1 ∧ j1 ≤ j ∧ i1 ≤ j1 + 2 ∧ j1 + 1 - i1 ≤ g3 ∧ a ≤ j1 ∧ Hid (SWK encR 3 w blk off dk wr3) ∧ Hid (scanDown (fun x => !ltOf (rcmp o) x dk[a]!) dk i1 j1 = scanDown (fun x => !ltOf (rcmp o) x dk[a]!) dk i1 j))
                        case atStart => exact ⟨j, rfl, Nat.le_refl _, by omega, by omega, by omega, HS2, rfl⟩
                        case round =>
                          obtain ⟨j1, rfl, hj1, hij1, hg3, haj1, HSJ, HJ1⟩ := hrel
                          have jz : (j1 : Int) < (d.size : Int) := by omega
                          by_cases hle : i1 ≤ j1
                          · exfalso; omega
                          · have hlez : ¬ (i1 : Int) ≤ (j1 : Int) := by omega
                            have hled : decide ((i1 : Int) ≤ (j1 : Int)) = false := decide_eq_false hlez
                            go_wp2_with fail
                            go_big_region_o
                            all_goals go_wp2_with fail
                            have HS3 : Hid (SWK encR 3 w blk off dk wr.drew) := HSJ.out.drew
                            have HJ2 : Hid (scanDown (fun x => !ltOf (rcmp o) x dk[a]!) dk i1 j = j1) := by
                              show _ = _
                              rw [← HJ1.out]
                              exact scanDown_stop _ _ _ _ (Or.inl hle)
                            generalize wr.drew = w3q at HS3 ⊢
                            have hij : j1 < i1 := by omega
                            have hijz : (j1 : Int) < (i1 : Int) := by omega
                            have hh := HRES.out
                            have hp := HO.out
                            rw [partL_stop _ _ _ _ _ _ _ HI1.out HJ2.out hij] at hp
                            rw [← hp] at hh
                            have HH : Hid ((j1, false, swp dk j1 a) = res) := hh
                            clear hh hp
                            obtain ⟨xj, hxj⟩ : ∃ x, dk[j1]! = x := ⟨_, rfl⟩
                            obtain ⟨xb, hxb⟩ : ∃ x, dk[a]! = x := ⟨_, rfl⟩
                            obtain ⟨l0, l1, l2⟩ := hxj ▸ swk_at3 HS3.out HR.out hsk (j1) (by omega)
                            obtain ⟨q0, q1, q2⟩ := hxb ▸ swk_at3 HS3.out HR.out hsk (a) (by omega)
                            obtain ⟨z0, z1, z2⟩ := swk_fr3 HS3.out HR.out hsk (j1) (by omega)
                            obtain ⟨y0, y1, y2⟩ := swk_fr3 HS3.out HR.out hsk (a) (by omega)
                            have hne : j1 = a ∨ a < j1 := by omega
                            rcases hne with rfl | hne
                            · go_wp2_with fail
                              go_big_region_o
                              all_goals go_wp2
                              obtain rfl := HH.out
                              simp [bodyPost, results, Tryz.results109, go_sem]
                              first | exact swk_swp3 HS3.out HR.out j1 j1 (by omega) (by omega) hxj hxj | exact swk_swp3 HS3.out HR.out a a (by omega) (by omega) hxj hxj
                            · go_wp2_with fail
                              go_big_region_o
                              all_goals go_wp2
                              obtain rfl := HH.out
                              simp [bodyPost, results, Tryz.results109, go_sem]
                              exact swk_swp3 HS3.out HR.out j1 a (by omega) (by omega) hxj hxb
              · have hld : decide (rcmp o xj xa < 0) = false := decide_eq_false hlt
                go_wp2_with fail
                go_quiet_grown (first | (go_at_call 47; refine Calls.grown_of (hcg _ _)))
                go_wp2
                go_roundg (j1 - i1)
                case measure => omega
                case rel =>
                  refine ⟨j1 - 1, by go_num, by omega, by omega, by omega, by omega, HSJ.out.grown nq osq, (show Hid _ from ?_)⟩
                  show _ = _
                  rw [← HJ1.out]
                  exact (scanDown_go _ _ _ _ (by omega) hle (by rw [hxa, hxj]; simp [ltOf]; omega)).symm
            · have hlez : ¬ (i1 : Int) ≤ (j1 : Int) := by omega
              have hled : decide ((i1 : Int) ≤ (j1 : Int)) = false := decide_eq_false hlez
              go_wp2_with fail
              go_big_region_o
              all_goals go_wp2_with fail
              have HS3 : Hid (SWK encR 3 w blk off dk wr.drew) := HSJ.out.drew
              have HJ2 : Hid (scanDown (fun x => !ltOf (rcmp o) x dk[a]!) dk i1 j = j1) := by
                show _ = _
                rw [← HJ1.out]
                exact scanDown_stop _ _ _ _ (Or.inl hle)
              generalize wr.drew = w3q at HS3 ⊢
              have hij : j1 < i1 := by omega
              have hijz : (j1 : Int) < (i1 : Int) := by omega
              have hh := HRES.out
              rw [part_stop _ _ _ _ _ _ _ _ HD1.out (HI00.out ▸ HJ00.out ▸ HI1.out) (HJ00.out ▸ HJ2.out) hij] at hh
              have HH : Hid ((j1, true, swp dk j1 a) = res) := hh
              clear hh
              obtain ⟨xj, hxj⟩ : ∃ x, dk[j1]! = x := ⟨_, rfl⟩
              obtain ⟨xb, hxb⟩ : ∃ x, dk[a]! = x := ⟨_, rfl⟩
              obtain ⟨l0, l1, l2⟩ := hxj ▸ swk_at3 HS3.out HR.out hsk (j1) (by omega)
              obtain ⟨q0, q1, q2⟩ := hxb ▸ swk_at3 HS3.out HR.out hsk (a) (by omega)
              obtain ⟨z0, z1, z2⟩ := swk_fr3 HS3.out HR.out hsk (j1) (by omega)
              obtain ⟨y0, y1, y2⟩ := swk_fr3 HS3.out HR.out hsk (a) (by omega)
              have hne : j1 = a ∨ a < j1 := by omega
              rcases hne with rfl | hne
              · go_wp2_with fail
                go_big_region_o
                all_goals go_wp2
                obtain rfl := HH.out
                simp [bodyPost, results, Tryz.results109, go_sem]
                first | exact swk_swp3 HS3.out HR.out j1 j1 (by omega) (by omega) hxj hxj | exact swk_swp3 HS3.out HR.out a a (by omega) (by omega) hxj hxj
              · go_wp2_with fail
                go_big_region_o
                all_goals go_wp2
                obtain rfl := HH.out
                simp [bodyPost, results, Tryz.results109, go_sem]
                exact swk_swp3 HS3.out HR.out j1 a (by omega) (by omega) hxj hxb
      · have hlez : ¬ (i1 : Int) ≤ (j : Int) := by omega
        have hled : decide ((i1 : Int) ≤ (j : Int)) = false := decide_eq_false hlez
        go_wp2_with fail
        go_big_region_o
        all_goals go_wp2_with fail
        have HS2 : Hid (SWK encR 3 w blk off dk wr.drew) := HSI.out.drew
        have HI1 : Hid (scanUp (fun x => ltOf (rcmp o) x dk[a]!) dk j i = i1) := by
          show _ = _
          rw [← HI0.out]
          exact scanUp_stop _ _ _ _ (Or.inl hle)
        clear hled hlez
        generalize wr.drew = w2q at HS2 ⊢
        go_wp2
        go_loopg [13] (j + 1 - i1) (fun g3 vj wr3 => ∃ (j1 : Nat), vj = .int .i64 j1 ∧ j1 ≤ j ∧ i1 ≤ j1 + 2 ∧ j1 + 1 - i1 ≤ g3 ∧ a ≤ j1 ∧ Hid (SWK encR 3 w blk off dk wr3) ∧ Hid (scanDown (fun x => !ltOf (rcmp o) x dk[a]!) dk i1 j1 = scanDown (fun x => !ltOf (rcmp o) x dk[a]!) dk i1 j))
        case atStart => exact ⟨j, rfl, Nat.le_refl _, by omega, by omega, by omega, HS2, rfl⟩
        case round =>
          obtain ⟨j1, rfl, hj1, hij1, hg3, haj1, HSJ, HJ1⟩ := hrel
          have jz : (j1 : Int) < (d.size : Int) := by omega
          by_cases hle : i1 ≤ j1
          · exfalso; omega
          · have hlez : ¬ (i1 : Int) ≤ (j1 : Int) := by omega
            have hled : decide ((i1 : Int) ≤ (j1 : Int)) = false := decide_eq_false hlez
            go_wp2_with fail
            go_big_region_o
            all_goals go_wp2_with fail
            have HS3 : Hid (SWK encR 3 w blk off dk wr.drew) := HSJ.out.drew
            have HJ2 : Hid (scanDown (fun x => !ltOf (rcmp o) x dk[a]!) dk i1 j = j1) := by
              show _ = _
              rw [← HJ1.out]
              exact scanDown_stop _ _ _ _ (Or.inl hle)
            generalize wr.drew = w3q at HS3 ⊢
            have hij : j1 < i1 := by omega
            have hijz : (j1 : Int) < (i1 : Int) := by omega
            have hh := HRES.out
            rw [part_stop _ _ _ _ _ _ _ _ HD1.out (HI00.out ▸ HJ00.out ▸ HI1.out) (HJ00.out ▸ HJ2.out) hij] at hh
            have HH : Hid ((j1, true, swp dk j1 a) = res) := hh
            clear hh
            obtain ⟨xj, hxj⟩ : ∃ x, dk[j1]! = x := ⟨_, rfl⟩
            obtain ⟨xb, hxb⟩ : ∃ x, dk[a]! = x := ⟨_, rfl⟩
            obtain ⟨l0, l1, l2⟩ := hxj ▸ swk_at3 HS3.out HR.out hsk (j1) (by omega)
            obtain ⟨q0, q1, q2⟩ := hxb ▸ swk_at3 HS3.out HR.out hsk (a) (by omega)
            obtain ⟨z0, z1, z2⟩ := swk_fr3 HS3.out HR.out hsk (j1) (by omega)
            obtain ⟨y0, y1, y2⟩ := swk_fr3 HS3.out HR.out hsk (a) (by omega)
            have hne : j1 = a ∨ a < j1 := by omega
            rcases hne with rfl | hne
            · go_wp2_with fail
              go_big_region_o
              all_goals go_wp2
              obtain rfl := HH.out
              simp [bodyPost, results, Tryz.results109, go_sem]
              first | exact swk_swp3 HS3.out HR.out j1 j1 (by omega) (by omega) hxj hxj | exact swk_swp3 HS3.out HR.out a a (by omega) (by omega) hxj hxj
            · go_wp2_with fail
              go_big_region_o
              all_goals go_wp2
              obtain rfl := HH.out
              simp [bodyPost, results, Tryz.results109, go_sem]
              exact swk_swp3 HS3.out HR.out j1 a (by omega) (by omega) hxj hxb
end Go.Proofs.YtobnpfcgcoooeaaGreatDoor
