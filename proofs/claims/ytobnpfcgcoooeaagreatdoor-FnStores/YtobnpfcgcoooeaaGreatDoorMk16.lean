/- Texts put together: StsE -/
import Derived.Test.YtobnpfcgcoooeaaGreatDoorMk15
/- StsE -/
namespace Go.Proofs.YtobnpfcgcoooeaaGreatDoor
open Go.RowKit Go.Deep Go.Sort Go.Lib
set_option maxRecDepth 100000

section
variable (p : Int × Int × Int → Bool) (d : Array (Int × Int × Int)) (j i : Nat)
theorem scanUp_go (h : i ≤ j) (hp : p d[i]! = true) : scanUp p d j i = scanUp p d j (i + 1) := by rw [scanUp, if_pos (by simp [h, hp])]
theorem scanUp_stop (h : ¬ i ≤ j ∨ p d[i]! = false) : scanUp p d j i = i := by rw [scanUp, if_neg (by rcases h with h | h <;> simp [h])]
theorem scanDown_go (h0 : 1 ≤ j) (h : i ≤ j) (hp : p d[j]! = true) : scanDown p d i j = scanDown p d i (j - 1) := by
  obtain ⟨k, rfl⟩ : ∃ k, j = k + 1 := ⟨j - 1, by omega⟩
  rw [scanDown, if_pos (by simp [h, hp])]
  rfl
theorem scanDown_stop (h : ¬ i ≤ j ∨ p d[j]! = false) : scanDown p d i j = j := by
  cases j with
  | zero => rfl
  | succ k => rw [scanDown, if_neg (by rcases h with h | h <;> simp [h])]
end
section
variable (lt : Int × Int × Int → Int × Int × Int → Bool) (d : Array (Int × Int × Int)) (a i j i1 j1 : Nat)
theorem partEq_stop (h1 : scanUp (fun x => !lt d[a]! x) d j i = i1) (h2 : scanDown (fun x => lt d[a]! x) d i1 j = j1) (h : j1 < i1) : partEqLoop lt a i j d = (i1, d) := by
  rw [partEqLoop]
  simp only [h1, h2]
  rw [if_pos h]
theorem partEq_go (h1 : scanUp (fun x => !lt d[a]! x) d j i = i1) (h2 : scanDown (fun x => lt d[a]! x) d i1 j = j1) (h : ¬ j1 < i1) (hi : i ≤ i1) (hj : j1 ≤ j) (h0 : 1 ≤ j1) : partEqLoop lt a i j d = partEqLoop lt a (i1 + 1) (j1 - 1) (swp d i1 j1) := by
  rw [partEqLoop]
  simp only [h1, h2]
  rw [if_neg h, dif_pos (by omega)]
end

set_option maxHeartbeats 16000000 in
theorem partEqM (o : Nat) (ho : o < 6) (blk off cap a b pivot : Nat) (d : Array (Int × Int × Int)) (w : World) (R : RowK encR 3 w blk off d) (hap : a ≤ pivot) (hpb : pivot < b) (hb : b ≤ d.size) (hsz : d.size < 1048576) :
    Calls Tryz.prog 108 #[.slice (some ⟨blk, off, none⟩) d.size cap, .int .i64 a, .int .i64 b, .int .i64 pivot, .func (.func 47) #[.int .i64 o] #[]] w fun e w' => e = .returned (.int .i64 (partitionEqual (ltOf (rcmp o)) d a b pivot).1) ∧ SWK encR 3 w blk off (partitionEqual (ltOf (rcmp o)) d a b pivot).2 w' := by
  have mixed : Tryz.prog.follows .mixedOrders = true := by kernel_rfl
  have HR : Hid (RowK encR 3 w blk off d) := R
  have HC : Hid (∀ x y W, Calls Tryz.prog 47 #[.int .i64 o, .agg #[.int .i64 x.1, .int .i64 x.2.1, .int .i64 x.2.2], .agg #[.int .i64 y.1, .int .i64 y.2.1, .int .i64 y.2.2]] W fun e w' => e = .returned (.int .i64 (rcmp o x y)) ∧ ∃ q os, w' = grow (W.drewN q) os) := cmpM o ho
  clear R ho
  rw [show partitionEqual (ltOf (rcmp o)) d a b pivot = partEqLoop (ltOf (rcmp o)) a (a + 1) (b - 1) (swp d a pivot) from rfl]
  obtain ⟨d1, hd1⟩ : ∃ d1, d1 = swp d a pivot := ⟨_, rfl⟩
  rw [← hd1]
  have hs1 : d1.size = d.size := by rw [hd1, size_swp]
  have HD1 : Hid (d1 = swp d a pivot) := hd1
  clear hd1
  go_enter Tryz.func108, Tryz.ntmps108
  go_upto_region 1 with fail
  go_cut [13] from 14 to 26 (fun _ wx => Hid (SWK encR 3 w blk off d1 wx))
  case first =>
    clear hs1
    have az : (a : Int) < (d.size : Int) := by omega
    have pz : (pivot : Int) < (d.size : Int) := by omega
    obtain ⟨xa, hxa⟩ : ∃ x, d[a]! = x := ⟨_, rfl⟩
    obtain ⟨xp, hxp⟩ : ∃ x, d[pivot]! = x := ⟨_, rfl⟩
    have HS : Hid (SWK encR 3 w blk off d w) := SWK.start HR.out.hH
    obtain ⟨l0, l1, l2⟩ := hxa ▸ swk_at3 HS.out HR.out rfl a (by omega)
    obtain ⟨q0, q1, q2⟩ := hxp ▸ swk_at3 HS.out HR.out rfl pivot (by omega)
    obtain ⟨z0, z1, z2⟩ := swk_fr3 HS.out HR.out rfl a (by omega)
    obtain ⟨y0, y1, y2⟩ := swk_fr3 HS.out HR.out rfl pivot (by omega)
    have hne : a = pivot ∨ a < pivot := by omega
    rcases hne with rfl | hne
    · go_big_region_o
      all_goals go_wp2_with fail
      go_meet
      show Hid _
      rw [HD1.out]
      exact swk_swp3 HS.out HR.out a a (by omega) (by omega) hxa hxa
    · go_big_region_o
      all_goals go_wp2_with fail
      go_meet
      show Hid _
      rw [HD1.out]
      exact swk_swp3 HS.out HR.out a pivot (by omega) (by omega) hxa hxp
  case rest =>
    have HS0 : Hid (SWK encR 3 w blk off d1 wc) := hcut
    clear hcut
    have eb : ((b : Int) - 1) = ((b - 1 : Nat) : Int) := by omega
    go_wp2
    go_loopg [11, 12] (b - a) (fun g1 vi vj wr => ∃ (i j : Nat) (dk : Array (Int × Int × Int)), vi = .int .i64 i ∧ vj = .int .i64 j ∧ a < i ∧ j < b ∧ i ≤ j + 2 ∧ a ≤ j ∧ j + 1 - i ≤ g1 ∧ dk.size = d.size ∧ Hid (SWK encR 3 w blk off dk wr) ∧ Hid (partEqLoop (ltOf (rcmp o)) a i j dk = partEqLoop (ltOf (rcmp o)) a (a + 1) (b - 1) d1))
    case atStart => exact ⟨a + 1, b - 1, d1, by go_num, by go_num, by omega, by omega, by omega, by omega, by omega, hs1, HS0, rfl⟩
    case round =>
      obtain ⟨i, j, dk, rfl, rfl, hai, hjb, hij, hja, hg1, hsk, HS, HO⟩ := hrel
      obtain ⟨xa, hxa⟩ : ∃ x, dk[a]! = x := ⟨_, rfl⟩
      have az : (a : Int) < (d.size : Int) := by omega
      go_wp2
      go_loopg [11] (j + 1 - i) (fun g2 vi wr2 => ∃ (i1 : Nat), vi = .int .i64 i1 ∧ i ≤ i1 ∧ i1 ≤ j + 2 ∧ j + 1 - i1 ≤ g2 ∧ Hid (SWK encR 3 w blk off dk wr2) ∧ Hid (scanUp (fun x => !ltOf (rcmp o) dk[a]! x) dk j i1 = scanUp (fun x => !ltOf (rcmp o) dk[a]! x) dk j i))
      case atStart => exact ⟨i, rfl, Nat.le_refl _, by omega, by omega, HS, rfl⟩
      case round =>
        obtain ⟨i1, rfl, hi1, hij1, hg2, HSI, HI0⟩ := hrel
        by_cases hle : i1 ≤ j
        · have hlez : (i1 : Int) ≤ (j : Int) := by omega
          have iz : (i1 : Int) < (d.size : Int) := by omega
          obtain ⟨xi, hxi⟩ : ∃ x, dk[i1]! = x := ⟨_, rfl⟩
          have hL := fun n os => swk_at3 (HSI.out.grown n os) HR.out hsk (a) (by omega)
          have hP := fun n os => swk_at3 (HSI.out.grown n os) HR.out hsk (i1) (by omega)
          rw [hxa] at hL
          rw [hxi] at hP
          have l0 := fun n os => (hL n os).1
          have l1 := fun n os => (hL n os).2.1
          have l2 := fun n os => (hL n os).2.2
          have q0 := fun n os => (hP n os).1
          have q1 := fun n os => (hP n os).2.1
          have q2 := fun n os => (hP n os).2.2
          have hcg := fun n os => HC.out xa xi (grow (wr.drewN n) os)
          clear hL hP
          by_cases hlt : rcmp o xa xi < 0
          · go_wp2_with fail
            go_quiet_grown (first | (go_at_call 47; refine Calls.grown_of (hcg _ _)))
            go_wp2_with fail
            have HS2 : Hid (SWK encR 3 w blk off dk (grow (wr.drewN nq) osq)) := HSI.out.grown nq osq
            have HI1 : Hid (scanUp (fun x => !ltOf (rcmp o) dk[a]! x) dk j i = i1) := by
              show _ = _
              rw [← HI0.out]
              exact scanUp_stop _ _ _ _ (Or.inr (by rw [hxa, hxi]; simp [ltOf, hlt]))
            clear l0 l1 l2 q0 q1 q2 hcg hlt hxi iz hlez
            generalize grow (wr.drewN nq) osq = w2q at HS2 ⊢
            go_wp2
            go_loopg [12] (j + 1 - i1) (fun g3 vj wr3 => ∃ (j1 : Nat), vj = .int .i64 j1 ∧ j1 ≤ j ∧ i1 ≤ j1 + 2 ∧ j1 + 1 - i1 ≤ g3 ∧ Hid (SWK encR 3 w blk off dk wr3) ∧ Hid (scanDown (fun x => ltOf (rcmp o) dk[a]! x) dk i1 j1 = scanDown (fun x => ltOf (rcmp o) dk[a]! x) dk i1 j))
            case atStart => exact ⟨j, rfl, Nat.le_refl _, by omega, by omega, HS2, rfl⟩
            case round =>
              obtain ⟨j1, rfl, hj1, hij1, hg3, HSJ, HJ1⟩ := hrel
              have jz : (j1 : Int) < (d.size : Int) := by omega
              by_cases hle : i1 ≤ j1
              · have hlez : (i1 : Int) ≤ (j1 : Int) := by omega
                obtain ⟨xj, hxj⟩ : ∃ x, dk[j1]! = x := ⟨_, rfl⟩
                have hL := fun n os => swk_at3 (HSJ.out.grown n os) HR.out hsk (a) (by omega)
                have hP := fun n os => swk_at3 (HSJ.out.grown n os) HR.out hsk (j1) (by omega)
                rw [hxa] at hL
                rw [hxj] at hP
                have l0 := fun n os => (hL n os).1
                have l1 := fun n os => (hL n os).2.1
                have l2 := fun n os => (hL n os).2.2
                have q0 := fun n os => (hP n os).1
                have q1 := fun n os => (hP n os).2.1
                have q2 := fun n os => (hP n os).2.2
                have hcg := fun n os => HC.out xa xj (grow (wr.drewN n) os)
                clear hL hP
                by_cases hlt : rcmp o xa xj < 0
                · go_wp2_with fail
                  go_quiet_grown (first | (go_at_call 47; refine Calls.grown_of (hcg _ _)))
                  go_wp2
                  go_roundg (j1 - i1)
                  case measure => omega
                  case rel =>
                    refine ⟨j1 - 1, by go_num, by omega, by omega, by omega, HSJ.out.grown nq osq, (show Hid _ from ?_)⟩
                    show _ = _
                    rw [← HJ1.out]
                    exact (scanDown_go _ _ _ _ (by omega) hle (by rw [hxa, hxj]; exact decide_eq_true hlt)).symm
                · have hld : decide (rcmp o xa xj < 0) = false := decide_eq_false hlt
                  go_wp2_with fail
                  go_quiet_grown (first | (go_at_call 47; refine Calls.grown_of (hcg _ _)))
                  go_wp2_with fail
                  have HS3 : Hid (SWK encR 3 w blk off dk (grow (wr.drewN nq) osq)) := HSJ.out.grown nq osq
                  have HJ2 : Hid (scanDown (fun x => ltOf (rcmp o) dk[a]! x) dk i1 j = j1) := by
                    show _ = _
                    rw [← HJ1.out]
                    exact scanDown_stop _ _ _ _ (Or.inr (by rw [hxa, hxj]; exact hld))
                  clear l0 l1 l2 q0 q1 q2 hcg hlt hld hxj
                  generalize grow (wr.drewN nq) osq = w3q at HS3 ⊢
                  have hij : ¬ j1 < i1 := by omega
                  have hijz : ¬ (j1 : Int) < (i1 : Int) := by omega
                  obtain ⟨l0, l1, l2⟩ := swk_at3 HS3.out HR.out hsk i1 (by omega)
                  obtain ⟨q0, q1, q2⟩ := swk_at3 HS3.out HR.out hsk j1 (by omega)
                  obtain ⟨z0, z1, z2⟩ := swk_fr3 HS3.out HR.out hsk i1 (by omega)
                  obtain ⟨y0, y1, y2⟩ := swk_fr3 HS3.out HR.out hsk j1 (by omega)
                  have iz : (i1 : Int) < (d.size : Int) := by omega
                  have jz : (j1 : Int) < (d.size : Int) := by omega
                  obtain ⟨xi, hxi⟩ : ∃ x, dk[i1]! = x := ⟨_, rfl⟩
                  obtain ⟨xj, hxj⟩ : ∃ x, dk[j1]! = x := ⟨_, rfl⟩
                  rw [hxi] at l0 l1 l2
                  rw [hxj] at q0 q1 q2
                  have hne : i1 = j1 ∨ i1 < j1 := by omega
                  have HEQ : Hid (partEqLoop (ltOf (rcmp o)) a (i1 + 1) (j1 - 1) (swp dk i1 j1) = partEqLoop (ltOf (rcmp o)) a (a + 1) (b - 1) d1) := by
                    show _ = _
                    rw [← HO.out, partEq_go _ _ _ _ _ _ _ HI1.out HJ2.out hij (by omega) (by omega) (by omega)]
                  rcases hne with rfl | hne
                  · go_wp2_with fail
                    go_big_region_o
                    all_goals go_wp2
                    go_roundg (i1 - 1 - i1)
                    case measure => omega
                    case rel => exact ⟨i1 + 1, i1 - 1, swp dk i1 i1, by go_num, by go_num, by omega, by omega, by omega, by omega, by omega, by rw [size_swp]; exact hsk, swk_swp3 HS3.out HR.out i1 i1 (by omega) (by omega) hxi hxi, HEQ⟩
                  · go_wp2_with fail
                    go_big_region_o
                    all_goals go_wp2
                    go_roundg (j1 - 1 - i1)
                    case measure => omega
                    case rel => exact ⟨i1 + 1, j1 - 1, swp dk i1 j1, by go_num, by go_num, by omega, by omega, by omega, by omega, by omega, by rw [size_swp]; exact hsk, swk_swp3 HS3.out HR.out i1 j1 (by omega) (by omega) hxi hxj, HEQ⟩
              · have hlez : ¬ (i1 : Int) ≤ (j1 : Int) := by omega
                have hled : decide ((i1 : Int) ≤ (j1 : Int)) = false := decide_eq_false hlez
                go_wp2_with fail
                go_big_region_o
                all_goals go_wp2_with fail
                have HS3 : Hid (SWK encR 3 w blk off dk wr.drew) := HSJ.out.drew
                have HJ2 : Hid (scanDown (fun x => ltOf (rcmp o) dk[a]! x) dk i1 j = j1) := by
                  show _ = _
                  rw [← HJ1.out]
                  exact scanDown_stop _ _ _ _ (Or.inl hle)
                generalize wr.drew = w3q at HS3 ⊢
                have hij : j1 < i1 := by omega
                have hijz : (j1 : Int) < (i1 : Int) := by omega
                go_wp2
                go_ret
                have hh := HO.out
                rw [partEq_stop _ _ _ _ _ _ _ HI1.out HJ2.out hij] at hh
                rw [← hh]
                exact ⟨rfl, HS3.out⟩
          · have hld : decide (rcmp o xa xi < 0) = false := decide_eq_false hlt
            go_wp2_with fail
            go_quiet_grown (first | (go_at_call 47; refine Calls.grown_of (hcg _ _)))
            go_wp2
            go_roundg (j - i1)
            case measure => omega
            case rel =>
              refine ⟨i1 + 1, by go_num, by omega, by omega, by omega, HSI.out.grown nq osq, (show Hid _ from ?_)⟩
              show _ = _
              rw [← HI0.out]
              exact (scanUp_go _ _ _ _ hle (by rw [hxa, hxi]; simp [ltOf]; omega)).symm
        · have hlez : ¬ (i1 : Int) ≤ (j : Int) := by omega
          have hled : decide ((i1 : Int) ≤ (j : Int)) = false := decide_eq_false hlez
          go_wp2_with fail
          go_big_region_o
          all_goals go_wp2_with fail
          have HS2 : Hid (SWK encR 3 w blk off dk wr.drew) := HSI.out.drew
          have HI1 : Hid (scanUp (fun x => !ltOf (rcmp o) dk[a]! x) dk j i = i1) := by
            show _ = _
            rw [← HI0.out]
            exact scanUp_stop _ _ _ _ (Or.inl hle)
          clear hled hlez
          generalize wr.drew = w2q at HS2 ⊢
          go_wp2
          go_loopg [12] (j + 1 - i1) (fun g3 vj wr3 => ∃ (j1 : Nat), vj = .int .i64 j1 ∧ j1 ≤ j ∧ i1 ≤ j1 + 2 ∧ j1 + 1 - i1 ≤ g3 ∧ Hid (SWK encR 3 w blk off dk wr3) ∧ Hid (scanDown (fun x => ltOf (rcmp o) dk[a]! x) dk i1 j1 = scanDown (fun x => ltOf (rcmp o) dk[a]! x) dk i1 j))
          case atStart => exact ⟨j, rfl, Nat.le_refl _, by omega, by omega, HS2, rfl⟩
          case round =>
            obtain ⟨j1, rfl, hj1, hij1, hg3, HSJ, HJ1⟩ := hrel
            have jz : (j1 : Int) < (d.size : Int) := by omega
            by_cases hle : i1 ≤ j1
            · exfalso; omega
            · have hlez : ¬ (i1 : Int) ≤ (j1 : Int) := by omega
              have hled : decide ((i1 : Int) ≤ (j1 : Int)) = false := decide_eq_false hlez
              go_wp2_with fail
              go_big_region_o
              all_goals go_wp2_with fail
              have HS3 : Hid (SWK encR 3 w blk off dk wr.drew) := HSJ.out.drew
              have HJ2 : Hid (scanDown (fun x => ltOf (rcmp o) dk[a]! x) dk i1 j = j1) := by
                show _ = _
                rw [← HJ1.out]
                exact scanDown_stop _ _ _ _ (Or.inl hle)
              generalize wr.drew = w3q at HS3 ⊢
              have hij : j1 < i1 := by omega
              have hijz : (j1 : Int) < (i1 : Int) := by omega
              go_wp2
              go_ret
              have hh := HO.out
              rw [partEq_stop _ _ _ _ _ _ _ HI1.out HJ2.out hij] at hh
              rw [← hh]
              exact ⟨rfl, HS3.out⟩
end Go.Proofs.YtobnpfcgcoooeaaGreatDoor
