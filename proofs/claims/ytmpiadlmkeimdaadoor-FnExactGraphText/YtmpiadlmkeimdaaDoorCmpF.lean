/- The contract of the model's l1compare. -/
import Derived.Test.YtmpiadlmkeimdaaDoorCmpE
import Derived.Test.YtmpiadlmkeimdaaDoorTxtC
namespace Go.Proofs.YtmpiadlmkeimdaaDoor
open Go.RowKit Go.Deep

theorem sideI_str (bs bs' : List Int) : sideI (Op.bytesLess (strOfNums bs).toList (strOfNums bs').toList) (!Op.bytesLess (strOfNums bs).toList (strOfNums bs').toList && !((strOfNums bs).toList == (strOfNums bs').toList)) = cmpB bs bs' := by
  unfold cmpB
  rw [less_cmp, Lib.strOfNums_toList, Lib.strOfNums_toList]
  rfl

theorem termOk_blank {n s : Int} {bs : List Int} (h : termOk 1 bs n s = true) : bs = [] ∧ s = 0 := by
  simp [termOk] at h
  exact ⟨h.1.1.1, h.2⟩
theorem termOk_num {n s : Int} {bs : List Int} (h : termOk 3 bs n s = true) : bs = [] := by
  simp [termOk] at h
  exact h.1
theorem termOk_str {k n s : Int} {bs : List Int} (h : termOk k bs n s = true) (h1 : k ≠ 1) (h3 : k ≠ 3) : n = 0 ∧ s = 0 := by
  by_cases k0 : k = 0
  · subst k0
    simp [termOk] at h
    exact ⟨h.1.2, h.2⟩
  by_cases k2 : k = 2
  · subst k2
    simp [termOk] at h
    exact ⟨h.1.2, h.2⟩
  · simp [termOk, k0, h1, k2, h3] at h
theorem cmpI_ne {x y : Int} (h : x ≠ y) : cmpI x y ≠ 0 := by
  unfold cmpI
  split
  · decide
  · split
    · decide
    · omega

set_option maxHeartbeats 1000000 in
theorem l1compare_any (k n k' n' : Int) (s s' : Nat) (a a' : Option Addr) (len cap len' cap' : Nat) (bs bs' : List Int) (w : World) (hB : Bs w a len bs) (hB' : Bs w a' len' bs')
    (hs : s ≤ 6) (h1 : -9223372036854775808 ≤ n) (h2 : n ≤ 9223372036854775807) (hs' : s' ≤ 6) (h1' : -9223372036854775808 ≤ n') (h2' : n' ≤ 9223372036854775807) (e1 : termOk k bs n s = true) (e2 : termOk k' bs' n' s' = true) :
    Calls Tryd.prog 64 #[.agg #[.int .i64 k, .slice a len cap, .int .i64 n, .int .i64 s], .agg #[.int .i64 k', .slice a' len' cap', .int .i64 n', .int .i64 s']] w fun e w' =>
      e = .returned (.int .i64 (cmp3 (cmpI k k') (cmpB bs bs') (cmpN n s n' s'))) ∧ Below w.heap.size w w' := by
  by_cases hk : k = k'
  · subst hk
    have c0 : cmpI k k = 0 := cmpI_eq rfl
    by_cases k1 : k = 1
    · subst k1
      obtain ⟨rfl, g1⟩ := termOk_blank e1
      obtain ⟨rfl, g2⟩ := termOk_blank e2
      obtain rfl : s = 0 := by omega
      obtain rfl : s' = 0 := by omega
      have ec : Hid (cmp3 (cmpI 1 1) (cmpB [] []) (cmpN n (0 : Nat) n' (0 : Nat)) = cmpI n n') := by
        show _ = _
        rw [c0, cmpB_nil, cmpN_blank]
        rfl
      clear c0 e1 e2 hB hB' g1 g2
      go_enter Tryd.func64, Tryd.ntmps64
      go_wp2_with fail
      refine (side_any _ _ _).mono ?_
      rintro e w1 ⟨rfl, rfl⟩
      go_wp2
      go_ret
      refine ⟨?_, bl_alloc (bl_a _) _⟩
      rw [ec.out, ← sideI_lt]
      rfl
    by_cases k3 : k = 3
    · subst k3
      obtain rfl := termOk_num e1
      obtain rfl := termOk_num e2
      have ec : Hid (cmp3 (cmpI 3 3) (cmpB [] []) (cmpN n s n' s') = cmpN n s n' s') := by
        show _ = _
        rw [c0, cmpB_nil]
        rfl
      clear c0 e1 e2 hB hB'
      go_enter Tryd.func64, Tryd.ntmps64
      go_wp2_with fail
      refine (l1compareNum_any 3 n 3 n' s s' a a' len cap len' cap' _ hs h1 h2 hs' h1' h2').mono ?_
      rintro e w1 ⟨rfl, hb1⟩
      go_wp2
      go_ret
      exact ⟨by rw [ec.out]; rfl, bl_trans (bl_alloc (bl_a _) _) hb1⟩
    · obtain ⟨rfl, g1⟩ := termOk_str e1 k1 k3
      obtain ⟨rfl, g2⟩ := termOk_str e2 k1 k3
      obtain rfl : s = 0 := by omega
      obtain rfl : s' = 0 := by omega
      have ec : Hid (cmp3 (cmpI k k) (cmpB bs bs') (cmpN 0 (0 : Nat) 0 (0 : Nat)) = cmpB bs bs') := by
        show _ = _
        rw [c0, cmpN_blank, cmpI_eq rfl]
        unfold cmp3 orI
        simp
        intro h; exact h.symm
      have v1 : ∀ o1 o2, (convert 22 9 (.slice a len cap)).run Tryd.prog ((w.alloc o1).alloc o2) = .ok (.string (strOfNums bs)) ((w.alloc o1).alloc o2) := fun o1 o2 => (hB.below (bl_alloc (bl_a _) _)).str
      have v2 : ∀ o1 o2, (convert 22 9 (.slice a' len' cap')).run Tryd.prog ((w.alloc o1).alloc o2) = .ok (.string (strOfNums bs')) ((w.alloc o1).alloc o2) := fun o1 o2 => (hB'.below (bl_alloc (bl_a _) _)).str
      have g1' : (k == 1) = false := by simp; omega
      have g3' : (k == 3) = false := by simp; omega
      clear c0 e1 e2 hB hB' g1 g2 k1 k3
      go_enter Tryd.func64, Tryd.ntmps64
      go_wp2_with fail
      refine (side_any _ _ _).mono ?_
      rintro e w1 ⟨rfl, rfl⟩
      go_wp2
      go_ret
      refine ⟨?_, bl_alloc (bl_a _) _⟩
      rw [ec.out, ← sideI_str]
      rfl
  · have ec : Hid (cmp3 (cmpI k k') (cmpB bs bs') (cmpN n s n' s') = cmpI k k') := by
      show orI _ _ = _
      rw [orI, if_neg (cmpI_ne hk)]
    have HK : Hid (k ≠ k') := hk
    have hk' : (k != k') = true := by simp [hk]
    clear hk e1 e2 hB hB'
    go_enter Tryd.func64, Tryd.ntmps64
    go_wp2_with fail
    refine (side_any _ _ _).mono ?_
    rintro e w1 ⟨rfl, rfl⟩
    go_wp2
    go_ret
    refine ⟨?_, bl_alloc (bl_a _) _⟩
    rw [ec.out, ← sideI_ne _ _ HK.out]
    rfl

end Go.Proofs.YtmpiadlmkeimdaaDoor
