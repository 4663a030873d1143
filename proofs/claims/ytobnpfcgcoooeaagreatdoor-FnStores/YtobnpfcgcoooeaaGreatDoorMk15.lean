/- Texts put together: StsC StsD -/
import Derived.Test.YtobnpfcgcoooeaaGreatDoorMk14
import Derived.Sort.WalkB3
/- StsC -/
namespace Go.Proofs.YtobnpfcgcoooeaaGreatDoor
open Go.RowKit Go.Deep Go.Sort Go.Lib
set_option maxRecDepth 100000

section
variable (lt : Int × Int × Int → Int × Int × Int → Bool) (hi first root : Nat) (d : Array (Int × Int × Int))
theorem sift_stop (h : hi ≤ 2 * root + 1) : siftDown lt hi first root d = d := by rw [siftDown, dif_pos h]
theorem sift_big (h : ¬ hi ≤ 2 * root + 1) (h1 : 2 * root + 1 + 1 < hi) (h2 : lt d[first + (2 * root + 1)]! d[first + (2 * root + 1) + 1]! = true) :
    siftDown lt hi first root d = if lt d[first + root]! d[first + (2 * root + 2)]! = true then siftDown lt hi first (2 * root + 2) (swp d (first + root) (first + (2 * root + 2))) else d := by
  rw [siftDown, dif_neg h, if_pos (by simp [h1, h2]), dif_pos (show 2 * root + 2 < hi from h1)]
  cases lt d[first + root]! d[first + (2 * root + 2)]! <;> simp
theorem sift_small (h : ¬ hi ≤ 2 * root + 1) (h1 : ¬ 2 * root + 1 + 1 < hi ∨ lt d[first + (2 * root + 1)]! d[first + (2 * root + 1) + 1]! = false) :
    siftDown lt hi first root d = if lt d[first + root]! d[first + (2 * root + 1)]! = true then siftDown lt hi first (2 * root + 1) (swp d (first + root) (first + (2 * root + 1))) else d := by
  rw [siftDown, dif_neg h, if_neg (by rcases h1 with h1 | h1 <;> simp [h1])]
  cases lt d[first + root]! d[first + (2 * root + 1)]! <;> simp
end

set_option maxHeartbeats 8000000 in
theorem siftM (o : Nat) (ho : o < 6) (blk off cap lo hi first : Nat) (d : Array (Int × Int × Int)) (w : World) (R : RowK encR 3 w blk off d) (hlo : lo ≤ hi) (hb : first + hi ≤ d.size) (hsz : d.size < 1048576) :
    Calls Tryz.prog 125 #[.slice (some ⟨blk, off, none⟩) d.size cap, .int .i64 lo, .int .i64 hi, .int .i64 first, .func (.func 47) #[.int .i64 o] #[]] w fun e w' => e = .returned (.tuple #[]) ∧ SWK encR 3 w blk off (siftDown (ltOf (rcmp o)) hi first lo d) w' := by
  have mixed : Tryz.prog.follows .mixedOrders = true := by kernel_rfl
  have HR : Hid (RowK encR 3 w blk off d) := R
  have HC : Hid (∀ x y W, Calls Tryz.prog 47 #[.int .i64 o, .agg #[.int .i64 x.1, .int .i64 x.2.1, .int .i64 x.2.2], .agg #[.int .i64 y.1, .int .i64 y.2.1, .int .i64 y.2.2]] W fun e w' => e = .returned (.int .i64 (rcmp o x y)) ∧ ∃ q os, w' = grow (W.drewN q) os) := cmpM o ho
  clear R ho
  go_enter Tryz.func125, Tryz.ntmps125
  go_wp2
  go_loopg [10] (hi - lo) (fun g1 vi wr => ∃ (i : Nat) (dk : Array (Int × Int × Int)), vi = .int .i64 i ∧ i ≤ hi ∧ hi - i ≤ g1 ∧ dk.size = d.size ∧ Hid (SWK encR 3 w blk off dk wr) ∧ Hid (siftDown (ltOf (rcmp o)) hi first i dk = siftDown (ltOf (rcmp o)) hi first lo d))
  case atStart => exact ⟨lo, d, rfl, hlo, Nat.le_refl _, rfl, SWK.start HR.out.hH, rfl⟩
  case round =>
    obtain ⟨root, dk, rfl, hroot, hg1, hsk, HS, HO⟩ := hrel
    have m0 : IntKind.i64.wrap (2 * (root : Int)) = 2 * (root : Int) := by rw [IntKind.wrap_i64]; omega
    have m1 : IntKind.i64.wrap (2 * (root : Int) + 1) = 2 * (root : Int) + 1 := by rw [IntKind.wrap_i64]; omega
    have m2 : IntKind.i64.wrap (2 * (root : Int) + 1 + 1) = 2 * (root : Int) + 1 + 1 := by rw [IntKind.wrap_i64]; omega
    by_cases hst : hi ≤ 2 * root + 1
    · have hstz : (hi : Int) ≤ 2 * (root : Int) + 1 := by omega
      go_wp2
      go_end0
      refine ⟨rfl, ?_⟩
      have hh := HO.out
      rw [sift_stop _ _ _ _ _ hst] at hh
      rw [← hh]
      exact HS.out
    · have hstz : ¬ (hi : Int) ≤ 2 * (root : Int) + 1 := by omega
      by_cases hc : 2 * root + 1 + 1 < hi
      · have hcz : 2 * (root : Int) + 1 + 1 < (hi : Int) := by omega
        have e1 : ((first : Int) + (2 * (root : Int) + 1)).toNat = first + (2 * root + 1) := by omega
        have e2 : ((first : Int) + (2 * (root : Int) + 1) + 1).toNat = first + (2 * root + 1) + 1 := by omega
        have p1 : (0 : Int) ≤ (first : Int) + (2 * (root : Int) + 1) := by omega
        have p2 : (0 : Int) ≤ (first : Int) + (2 * (root : Int) + 1) + 1 := by omega
        have b1 : (first : Int) + (2 * (root : Int) + 1) < (d.size : Int) := by omega
        have b2 : (first : Int) + (2 * (root : Int) + 1) + 1 < (d.size : Int) := by omega
        have w1 : IntKind.i64.wrap ((first : Int) + (2 * (root : Int) + 1)) = (first : Int) + (2 * (root : Int) + 1) := by rw [IntKind.wrap_i64]; omega
        have w2 : IntKind.i64.wrap ((first : Int) + (2 * (root : Int) + 1) + 1) = (first : Int) + (2 * (root : Int) + 1) + 1 := by rw [IntKind.wrap_i64]; omega
        obtain ⟨x1, hx1⟩ : ∃ x, dk[first + (2 * root + 1)]! = x := ⟨_, rfl⟩
        obtain ⟨x2, hx2⟩ : ∃ x, dk[first + (2 * root + 1) + 1]! = x := ⟨_, rfl⟩
        have hL := fun n os => swk_at3 (HS.out.grown n os) HR.out hsk (first + (2 * root + 1)) (by omega)
        have hP := fun n os => swk_at3 (HS.out.grown n os) HR.out hsk (first + (2 * root + 1) + 1) (by omega)
        rw [hx1] at hL
        rw [hx2] at hP
        have l0 := fun n os => (hL n os).1
        have l1 := fun n os => (hL n os).2.1
        have l2 := fun n os => (hL n os).2.2
        have q0 := fun n os => (hP n os).1
        have q1 := fun n os => (hP n os).2.1
        have q2 := fun n os => (hP n os).2.2
        have hcg := fun n os => HC.out x1 x2 (grow (wr.drewN n) os)
        clear hL hP
        by_cases hlt : rcmp o x1 x2 < 0
        · go_wp2_with fail
          go_quiet_grown (first | (go_at_call 47; refine Calls.grown_of (hcg _ _)))
          go_wp2_with fail
          have HS2 : Hid (SWK encR 3 w blk off dk (grow (wr.drewN nq) osq)) := HS.out.grown nq osq
          clear l0 l1 l2 q0 q1 q2 hcg
          generalize grow (wr.drewN nq) osq = w2q at HS2 ⊢
          clear e1 e2 p1 p2 b1 b2 w1 w2
          have HSD : Hid (siftDown (ltOf (rcmp o)) hi first root dk = if ltOf (rcmp o) dk[first + root]! dk[first + (2 * root + 2)]! = true then siftDown (ltOf (rcmp o)) hi first (2 * root + 2) (swp dk (first + root) (first + (2 * root + 2))) else dk) := sift_big _ _ _ _ _ (by omega) hc (by rw [hx1, hx2]; exact decide_eq_true hlt)
          have hcr : root < 2 * root + 2 := by omega
          have hch : 2 * root + 2 < hi := by omega
          rw [show (2 * (root : Int) + 1 + 1 : Int) = ((2 * root + 2 : Nat) : Int) by omega]
          generalize 2 * root + 2 = ch at hcr hch HSD ⊢
          have e1 : ((first : Int) + (root : Int)).toNat = first + root := by omega
          have e2 : ((first : Int) + (ch : Int)).toNat = first + ch := by omega
          have p1 : (0 : Int) ≤ (first : Int) + (root : Int) := by omega
          have p2 : (0 : Int) ≤ (first : Int) + (ch : Int) := by omega
          have b1 : (first : Int) + (root : Int) < (d.size : Int) := by omega
          have b2 : (first : Int) + (ch : Int) < (d.size : Int) := by omega
          have w1 : IntKind.i64.wrap ((first : Int) + (root : Int)) = (first : Int) + (root : Int) := by rw [IntKind.wrap_i64]; omega
          have w2 : IntKind.i64.wrap ((first : Int) + (ch : Int)) = (first : Int) + (ch : Int) := by rw [IntKind.wrap_i64]; omega
          obtain ⟨xr, hxr⟩ : ∃ x, dk[first + root]! = x := ⟨_, rfl⟩
          obtain ⟨xc, hxc⟩ : ∃ x, dk[first + ch]! = x := ⟨_, rfl⟩
          have hL := fun n os => swk_at3 (HS2.out.grown n os) HR.out hsk (first + root) (by omega)
          have hP := fun n os => swk_at3 (HS2.out.grown n os) HR.out hsk (first + ch) (by omega)
          rw [hxr] at hL
          rw [hxc] at hP
          have l0 := fun n os => (hL n os).1
          have l1 := fun n os => (hL n os).2.1
          have l2 := fun n os => (hL n os).2.2
          have q0 := fun n os => (hP n os).1
          have q1 := fun n os => (hP n os).2.1
          have q2 := fun n os => (hP n os).2.2
          have hcg := fun n os => HC.out xr xc (grow (w2q.drewN n) os)
          clear hL hP
          by_cases hlv : rcmp o xr xc < 0
          · go_wp2_with fail
            go_quiet_grown (first | (go_at_call 47; refine Calls.grown_of (hcg _ _)))
            go_wp2_with fail
            have HS3 : Hid (SWK encR 3 w blk off dk (grow (w2q.drewN nq) osq)) := HS2.out.grown nq osq
            clear l0 l1 l2 q0 q1 q2 hcg
            generalize grow (w2q.drewN nq) osq = wq at HS3 ⊢
            obtain ⟨l0, l1, l2⟩ := hxr ▸ swk_at3 HS3.out HR.out hsk (first + root) (by omega)
            obtain ⟨q0, q1, q2⟩ := hxc ▸ swk_at3 HS3.out HR.out hsk (first + ch) (by omega)
            obtain ⟨z0, z1, z2⟩ := swk_fr3 HS3.out HR.out hsk (first + root) (by omega)
            obtain ⟨y0, y1, y2⟩ := swk_fr3 HS3.out HR.out hsk (first + ch) (by omega)
            go_big_region_o
            all_goals go_wp2
            go_roundg (hi - ch)
            case measure => omega
            case rel =>
              refine ⟨ch, swp dk (first + root) (first + ch), by first | rfl | go_num, by omega, Nat.le_refl _, by rw [size_swp]; exact hsk, swk_swp3 HS3.out HR.out (first + root) (first + ch) (by omega) (by omega) hxr hxc, (show Hid _ from ?_)⟩
              show _ = _
              rw [← HO.out, HSD.out, if_pos (by rw [hxr, hxc]; exact decide_eq_true hlv)]
          · have hld : decide (rcmp o xr xc < 0) = false := decide_eq_false hlv
            go_wp2_with fail
            go_quiet_grown (first | (go_at_call 47; refine Calls.grown_of (hcg _ _)))
            go_wp2
            (try simp only [Exit.inBlock, Exit.then]); refine bodyPost_ret (results_none rfl _ _ _) rfl ?_
            refine ⟨rfl, ?_⟩
            have hh := HO.out
            rw [HSD.out, if_neg (by rw [hxr, hxc]; simp [ltOf]; omega)] at hh
            rw [← hh]
            exact HS2.out.grown nq osq
        · go_wp2_with fail
          go_quiet_grown (first | (go_at_call 47; refine Calls.grown_of (hcg _ _)))
          go_wp2_with fail
          have HS2 : Hid (SWK encR 3 w blk off dk (grow (wr.drewN nq) osq)) := HS.out.grown nq osq
          clear l0 l1 l2 q0 q1 q2 hcg
          generalize grow (wr.drewN nq) osq = w2q at HS2 ⊢
          clear e1 e2 p1 p2 b1 b2 w1 w2
          have HSD : Hid (siftDown (ltOf (rcmp o)) hi first root dk = if ltOf (rcmp o) dk[first + root]! dk[first + (2 * root + 1)]! = true then siftDown (ltOf (rcmp o)) hi first (2 * root + 1) (swp dk (first + root) (first + (2 * root + 1))) else dk) := sift_small _ _ _ _ _ (by omega) (Or.inr (by rw [hx1, hx2]; exact decide_eq_false (by omega)))
          have hcr : root < 2 * root + 1 := by omega
          have hch : 2 * root + 1 < hi := by omega
          rw [show (2 * (root : Int) + 1 : Int) = ((2 * root + 1 : Nat) : Int) by omega]
          generalize 2 * root + 1 = ch at hcr hch HSD ⊢
          have e1 : ((first : Int) + (root : Int)).toNat = first + root := by omega
          have e2 : ((first : Int) + (ch : Int)).toNat = first + ch := by omega
          have p1 : (0 : Int) ≤ (first : Int) + (root : Int) := by omega
          have p2 : (0 : Int) ≤ (first : Int) + (ch : Int) := by omega
          have b1 : (first : Int) + (root : Int) < (d.size : Int) := by omega
          have b2 : (first : Int) + (ch : Int) < (d.size : Int) := by omega
          have w1 : IntKind.i64.wrap ((first : Int) + (root : Int)) = (first : Int) + (root : Int) := by rw [IntKind.wrap_i64]; omega
          have w2 : IntKind.i64.wrap ((first : Int) + (ch : Int)) = (first : Int) + (ch : Int) := by rw [IntKind.wrap_i64]; omega
          obtain ⟨xr, hxr⟩ : ∃ x, dk[first + root]! = x := ⟨_, rfl⟩
          obtain ⟨xc, hxc⟩ : ∃ x, dk[first + ch]! = x := ⟨_, rfl⟩
          have hL := fun n os => swk_at3 (HS2.out.grown n os) HR.out hsk (first + root) (by omega)
          have hP := fun n os => swk_at3 (HS2.out.grown n os) HR.out hsk (first + ch) (by omega)
          rw [hxr] at hL
          rw [hxc] at hP
          have l0 := fun n os => (hL n os).1
          have l1 := fun n os => (hL n os).2.1
          have l2 := fun n os => (hL n os).2.2
          have q0 := fun n os => (hP n os).1
          have q1 := fun n os => (hP n os).2.1
          have q2 := fun n os => (hP n os).2.2
          have hcg := fun n os => HC.out xr xc (grow (w2q.drewN n) os)
          clear hL hP
          by_cases hlv : rcmp o xr xc < 0
          · go_wp2_with fail
            go_quiet_grown (first | (go_at_call 47; refine Calls.grown_of (hcg _ _)))
            go_wp2_with fail
            have HS3 : Hid (SWK encR 3 w blk off dk (grow (w2q.drewN nq) osq)) := HS2.out.grown nq osq
            clear l0 l1 l2 q0 q1 q2 hcg
            generalize grow (w2q.drewN nq) osq = wq at HS3 ⊢
            obtain ⟨l0, l1, l2⟩ := hxr ▸ swk_at3 HS3.out HR.out hsk (first + root) (by omega)
            obtain ⟨q0, q1, q2⟩ := hxc ▸ swk_at3 HS3.out HR.out hsk (first + ch) (by omega)
            obtain ⟨z0, z1, z2⟩ := swk_fr3 HS3.out HR.out hsk (first + root) (by omega)
            obtain ⟨y0, y1, y2⟩ := swk_fr3 HS3.out HR.out hsk (first + ch) (by omega)
            go_big_region_o
            all_goals go_wp2
            go_roundg (hi - ch)
            case measure => omega
            case rel =>
              refine ⟨ch, swp dk (first + root) (first + ch), by first | rfl | go_num, by omega, Nat.le_refl _, by rw [size_swp]; exact hsk, swk_swp3 HS3.out HR.out (first + root) (first + ch) (by omega) (by omega) hxr hxc, (show Hid _ from ?_)⟩
              show _ = _
              rw [← HO.out, HSD.out, if_pos (by rw [hxr, hxc]; exact decide_eq_true hlv)]
          · have hld : decide (rcmp o xr xc < 0) = false := decide_eq_false hlv
            go_wp2_with fail
            go_quiet_grown (first | (go_at_call 47; refine Calls.grown_of (hcg _ _)))
            go_wp2
            (try simp only [Exit.inBlock, Exit.then]); refine bodyPost_ret (results_none rfl _ _ _) rfl ?_
            refine ⟨rfl, ?_⟩
            have hh := HO.out
            rw [HSD.out, if_neg (by rw [hxr, hxc]; simp [ltOf]; omega)] at hh
            rw [← hh]
            exact HS2.out.grown nq osq
      · have hcz : ¬ 2 * (root : Int) + 1 + 1 < (hi : Int) := by omega
        have hcd : decide (2 * (root : Int) + 1 + 1 < (hi : Int)) = false := decide_eq_false hcz
        go_wp2_with fail
        go_big_region_o
        all_goals go_wp2_with fail
        have HS2 : Hid (SWK encR 3 w blk off dk wr.drew) := HS.out.drew
        generalize wr.drew = w2q at HS2 ⊢
        have HSD : Hid (siftDown (ltOf (rcmp o)) hi first root dk = if ltOf (rcmp o) dk[first + root]! dk[first + (2 * root + 1)]! = true then siftDown (ltOf (rcmp o)) hi first (2 * root + 1) (swp dk (first + root) (first + (2 * root + 1))) else dk) := sift_small _ _ _ _ _ (by omega) (Or.inl hc)
        have hcr : root < 2 * root + 1 := by omega
        have hch : 2 * root + 1 < hi := by omega
        rw [show (2 * (root : Int) + 1 : Int) = ((2 * root + 1 : Nat) : Int) by omega]
        generalize 2 * root + 1 = ch at hcr hch HSD ⊢
        have e1 : ((first : Int) + (root : Int)).toNat = first + root := by omega
        have e2 : ((first : Int) + (ch : Int)).toNat = first + ch := by omega
        have p1 : (0 : Int) ≤ (first : Int) + (root : Int) := by omega
        have p2 : (0 : Int) ≤ (first : Int) + (ch : Int) := by omega
        have b1 : (first : Int) + (root : Int) < (d.size : Int) := by omega
        have b2 : (first : Int) + (ch : Int) < (d.size : Int) := by omega
        have w1 : IntKind.i64.wrap ((first : Int) + (root : Int)) = (first : Int) + (root : Int) := by rw [IntKind.wrap_i64]; omega
        have w2 : IntKind.i64.wrap ((first : Int) + (ch : Int)) = (first : Int) + (ch : Int) := by rw [IntKind.wrap_i64]; omega
        obtain ⟨xr, hxr⟩ : ∃ x, dk[first + root]! = x := ⟨_, rfl⟩
        obtain ⟨xc, hxc⟩ : ∃ x, dk[first + ch]! = x := ⟨_, rfl⟩
        have hL := fun n os => swk_at3 (HS2.out.grown n os) HR.out hsk (first + root) (by omega)
        have hP := fun n os => swk_at3 (HS2.out.grown n os) HR.out hsk (first + ch) (by omega)
        rw [hxr] at hL
        rw [hxc] at hP
        have l0 := fun n os => (hL n os).1
        have l1 := fun n os => (hL n os).2.1
        have l2 := fun n os => (hL n os).2.2
        have q0 := fun n os => (hP n os).1
        have q1 := fun n os => (hP n os).2.1
        have q2 := fun n os => (hP n os).2.2
        have hcg := fun n os => HC.out xr xc (grow (w2q.drewN n) os)
        clear hL hP
        by_cases hlv : rcmp o xr xc < 0
        · go_wp2_with fail
          go_quiet_grown (first | (go_at_call 47; refine Calls.grown_of (hcg _ _)))
          go_wp2_with fail
          have HS3 : Hid (SWK encR 3 w blk off dk (grow (w2q.drewN nq) osq)) := HS2.out.grown nq osq
          clear l0 l1 l2 q0 q1 q2 hcg
          generalize grow (w2q.drewN nq) osq = wq at HS3 ⊢
          obtain ⟨l0, l1, l2⟩ := hxr ▸ swk_at3 HS3.out HR.out hsk (first + root) (by omega)
          obtain ⟨q0, q1, q2⟩ := hxc ▸ swk_at3 HS3.out HR.out hsk (first + ch) (by omega)
          obtain ⟨z0, z1, z2⟩ := swk_fr3 HS3.out HR.out hsk (first + root) (by omega)
          obtain ⟨y0, y1, y2⟩ := swk_fr3 HS3.out HR.out hsk (first + ch) (by omega)
          go_big_region_o
          all_goals go_wp2
          go_roundg (hi - ch)
          case measure => omega
          case rel =>
            refine ⟨ch, swp dk (first + root) (first + ch), by first | rfl | go_num, by omega, Nat.le_refl _, by rw [size_swp]; exact hsk, swk_swp3 HS3.out HR.out (first + root) (first + ch) (by omega) (by omega) hxr hxc, (show Hid _ from ?_)⟩
            show _ = _
            rw [← HO.out, HSD.out, if_pos (by rw [hxr, hxc]; exact decide_eq_true hlv)]
        · have hld : decide (rcmp o xr xc < 0) = false := decide_eq_false hlv
          go_wp2_with fail
          go_quiet_grown (first | (go_at_call 47; refine Calls.grown_of (hcg _ _)))
          go_wp2
          (try simp only [Exit.inBlock, Exit.then]); refine bodyPost_ret (results_none rfl _ _ _) rfl ?_
          refine ⟨rfl, ?_⟩
          have hh := HO.out
          rw [HSD.out, if_neg (by rw [hxr, hxc]; simp [ltOf]; omega)] at hh
          rw [← hh]
          exact HS2.out.grown nq osq
end Go.Proofs.YtobnpfcgcoooeaaGreatDoor

/- StsD -/
namespace Go.Proofs.YtobnpfcgcoooeaaGreatDoor
open Go.RowKit Go.Deep Go.Sort Go.Lib
set_option maxRecDepth 100000

theorem siftSize (lt : Int × Int × Int → Int × Int × Int → Bool) (hi first root : Nat) (d : Array (Int × Int × Int)) : (siftDown lt hi first root d).size = d.size := by first | exact size_siftDown _ _ _ _ _ _ (Nat.le_refl _) | exact size_siftDown _ _ _ _ _ (Nat.le_refl _)

set_option maxHeartbeats 8000000 in
theorem heapM (o : Nat) (ho : o < 6) (blk off cap a b : Nat) (d : Array (Int × Int × Int)) (w : World) (R : RowK encR 3 w blk off d) (hab : a < b) (hb : b ≤ d.size) (hsz : d.size < 1048576) :
    Calls Tryz.prog 103 #[.slice (some ⟨blk, off, none⟩) d.size cap, .int .i64 a, .int .i64 b, .func (.func 47) #[.int .i64 o] #[]] w fun e w' => e = .returned (.tuple #[]) ∧ SWK encR 3 w blk off (heapSort (ltOf (rcmp o)) d a b) w' := by
  have mixed : Tryz.prog.follows .mixedOrders = true := by kernel_rfl
  have HR : Hid (RowK encR 3 w blk off d) := R
  have HSI : Hid (∀ (lo hi : Nat) (dk : Array (Int × Int × Int)) (wk : World), dk.size = d.size → SWK encR 3 w blk off dk wk → lo ≤ hi → a + hi ≤ d.size → Calls Tryz.prog 125 #[.slice (some ⟨blk, off, none⟩) d.size cap, .int .i64 lo, .int .i64 hi, .int .i64 a, .func (.func 47) #[.int .i64 o] #[]] wk fun e w' => e = .returned (.tuple #[]) ∧ SWK encR 3 w blk off (siftDown (ltOf (rcmp o)) hi a lo dk) w') := by
    show ∀ (lo hi : Nat), _
    intro lo hi dk wk hs S h1 h2
    have := siftM o ho blk off cap lo hi a dk wk (rowk_up R S hs) h1 (by omega) (by omega)
    rw [hs] at this
    exact this.mono fun _ _ h => ⟨h.1, swk_up R S h.2 (siftSize _ _ _ _ _)⟩
  clear R ho
  obtain ⟨hi, rfl⟩ : ∃ hi, b = a + hi := ⟨b - a, by omega⟩
  have h1 : 1 ≤ hi := by omega
  have HQ : Hid (heapSort (ltOf (rcmp o)) d a (a + hi) = heapPop (ltOf (rcmp o)) a hi (heapBuild (ltOf (rcmp o)) hi a ((hi - 1) / 2 + 1) d)) := by
    show _ = _
    unfold heapSort
    rw [show a + hi - a = hi by omega]
  go_enter Tryz.func103, Tryz.ntmps103
  have e1 : (a : Int) + (hi : Int) - (a : Int) = (hi : Int) := by omega
  go_wp2
  rw [show ((hi : Int) - 1) / 2 = ((((hi - 1) / 2 + 1 : Nat) : Int) - 1) by omega]
  obtain ⟨k0, hk0⟩ : ∃ k0, (hi - 1) / 2 + 1 = k0 := ⟨_, rfl⟩
  rw [hk0] at HQ ⊢
  have hk1 : k0 ≤ hi := by omega
  clear hk0
  go_loopg [11] k0 (fun g1 vi wr => ∃ (k : Nat) (dk : Array (Int × Int × Int)), vi = .int .i64 ((k : Int) - 1) ∧ k ≤ hi ∧ k ≤ g1 ∧ dk.size = d.size ∧ Hid (SWK encR 3 w blk off dk wr) ∧ Hid (heapBuild (ltOf (rcmp o)) hi a k dk = heapBuild (ltOf (rcmp o)) hi a k0 d))
  case atStart => exact ⟨k0, d, rfl, hk1, Nat.le_refl _, rfl, SWK.start HR.out.hH, rfl⟩
  case round =>
    obtain ⟨k, dk, rfl, hk, hg1, hsk, HS, HO⟩ := hrel
    rcases k with _ | k
    · go_wp2
      go_loopg [12] hi (fun g1 vi wr => ∃ (k : Nat) (dk : Array (Int × Int × Int)), vi = .int .i64 ((k : Int) - 1) ∧ k ≤ hi ∧ k ≤ g1 ∧ dk.size = d.size ∧ Hid (SWK encR 3 w blk off dk wr) ∧ Hid (heapPop (ltOf (rcmp o)) a k dk = heapSort (ltOf (rcmp o)) d a (a + hi)))
      case atStart =>
        refine ⟨hi, dk, rfl, Nat.le_refl _, Nat.le_refl _, hsk, HS, (show Hid _ from ?_)⟩
        show _ = _
        rw [HQ.out, ← HO.out]
        rfl
      case round =>
        obtain ⟨k, dk, rfl, hk, hg1, hsk, HS, HO⟩ := hrel
        rcases k with _ | k
        · go_wp2
          go_end0
          refine ⟨rfl, ?_⟩
          rw [← HO.out]
          exact HS.out
        · have ek : (((k + 1 : Nat) : Int) - 1) = (k : Int) := by omega
          rw [ek]
          clear ek
          obtain ⟨xa, hxa⟩ : ∃ x, dk[a]! = x := ⟨_, rfl⟩
          obtain ⟨l0, l1, l2⟩ := hxa ▸ swk_at3 HS.out HR.out hsk a (by omega)
          obtain ⟨z0, z1, z2⟩ := swk_fr3 HS.out HR.out hsk a (by omega)
          have az : (a : Int) < (d.size : Int) := by omega
          by_cases hk0 : k = 0
          · subst hk0
            go_wp2_with fail
            go_big_region_o
            all_goals go_wp2_with fail
            refine (HSI.out 0 0 (swp dk a (a + 0)) _ (by rw [size_swp]; exact hsk) (swk_swp3 HS.out HR.out a (a + 0) (by omega) (by omega) hxa hxa) (by omega) (by omega)).mono ?_
            rintro e w2 ⟨rfl, hS2⟩
            have HS2 : Hid (SWK encR 3 w blk off (siftDown (ltOf (rcmp o)) 0 a 0 (swp dk a (a + 0))) w2) := hS2
            clear hS2
            go_wp2
            go_roundg 0
            case measure => omega
            case rel => exact ⟨0, _, by first | rfl | go_num, by omega, Nat.le_refl _, by rw [siftSize, size_swp]; exact hsk, HS2, HO⟩
          · have e2 : ((a : Int) + (k : Int)).toNat = a + k := by omega
            have p2 : (0 : Int) ≤ (a : Int) + (k : Int) := by omega
            have b2 : (a : Int) + (k : Int) < (d.size : Int) := by omega
            have w2 : IntKind.i64.wrap ((a : Int) + (k : Int)) = (a : Int) + (k : Int) := by rw [IntKind.wrap_i64]; omega
            obtain ⟨xk, hxk⟩ : ∃ x, dk[a + k]! = x := ⟨_, rfl⟩
            obtain ⟨q0, q1, q2⟩ := hxk ▸ swk_at3 HS.out HR.out hsk (a + k) (by omega)
            obtain ⟨y0, y1, y2⟩ := swk_fr3 HS.out HR.out hsk (a + k) (by omega)
            go_wp2_with fail
            go_big_region_o
            all_goals go_wp2_with fail
            refine (HSI.out 0 k (swp dk a (a + k)) _ (by rw [size_swp]; exact hsk) (swk_swp3 HS.out HR.out a (a + k) (by omega) (by omega) hxa hxk) (by omega) (by omega)).mono ?_
            rintro e w2 ⟨rfl, hS2⟩
            have HS2 : Hid (SWK encR 3 w blk off (siftDown (ltOf (rcmp o)) k a 0 (swp dk a (a + k))) w2) := hS2
            clear hS2
            go_wp2
            go_roundg k
            case measure => omega
            case rel => exact ⟨k, _, by first | rfl | go_num, by omega, Nat.le_refl _, by rw [siftSize, size_swp]; exact hsk, HS2, HO⟩
    · have ek : (((k + 1 : Nat) : Int) - 1) = (k : Int) := by omega
      rw [ek]
      clear ek
      go_wp2_with fail
      refine (HSI.out k hi dk _ hsk HS.out (by omega) (by omega)).mono ?_
      rintro e w2 ⟨rfl, hS2⟩
      have HS2 : Hid (SWK encR 3 w blk off (siftDown (ltOf (rcmp o)) hi a k dk) w2) := hS2
      clear hS2
      go_wp2
      go_roundg k
      case measure => omega
      case rel => exact ⟨k, _, by first | rfl | go_num, by omega, Nat.le_refl _, by rw [siftSize]; exact hsk, HS2, HO⟩
end Go.Proofs.YtobnpfcgcoooeaaGreatDoor
