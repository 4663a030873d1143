/- Texts put together: TbC OpnA -/
import Derived.Test.YtganfiajhokkmaaGreatDoorMk05
import Derived.Test.YtganfiajhokkmaaGreatDoorMk07
import Derived.Test.YtganfiajhokkmaaGreatDoorMk03
import Derived.Deep.Strs
import Derived.Deep.Slices
/- TbC -/
namespace Go.Proofs.YtganfiajhokkmaaGreatDoor
open Go.RowKit Go.Deep
set_option maxRecDepth 100000

theorem eqCell_same (x y : CB) (w : World) (hx : x.lies 0 w) (hy : y.lies 0 w) (h : x.same y) : Calls Tryz.prog 83 #[.agg #[.bool x.has, .int .i64 x.t.t.k, .slice x.t.t.a x.t.t.len x.t.t.cap, .int .i64 x.t.t.n, .int .i64 x.t.t.s], .agg #[.bool y.has, .int .i64 y.t.t.k, .slice y.t.t.a y.t.t.len y.t.t.cap, .int .i64 y.t.t.n, .int .i64 y.t.t.s]] w (Yes w) := by
  have HZ1 : Hid (∀ (W : World), Below w.heap.size w W → Calls Tryz.prog 93 #[.agg #[.int .i64 x.t.t.k, .slice x.t.t.a x.t.t.len x.t.t.cap, .int .i64 x.t.t.n, .int .i64 x.t.t.s], .agg #[.int .i64 y.t.t.k, .slice y.t.t.a y.t.t.len y.t.t.cap, .int .i64 y.t.t.n, .int .i64 y.t.t.s]] W (Yes W)) := fun W hb => eqTerm_same x.t y.t W (hx.1.upper (Upper.of_below hb)) (hy.1.upper (Upper.of_below hb)) h.2
  have k0 : (x.has == y.has) = true := by simp [h.1]
  have k1 : (x.has != y.has) = false := by simp [h.1]
  clear hx hy h
  go_enter Tryz.func83, Tryz.ntmps83
  have Z1 := HZ1.out
  go_wp2_with fail
  refine (Z1 _ (bl_alloc (bl_a _) _)).mono ?_
  rintro e w1 ⟨rfl, hb1⟩
  have HX1 : Hid (Box w1 w.heap.size [.bool x.has, .int .i64 x.t.t.k, .slice x.t.t.a x.t.t.len x.t.t.cap, .int .i64 x.t.t.n, .int .i64 x.t.t.s]) := ((Box.new w #[.bool x.has, .int .i64 x.t.t.k, .slice x.t.t.a x.t.t.len x.t.t.cap, .int .i64 x.t.t.n, .int .i64 x.t.t.s] 54 _).below (bl_a _)).below hb1
  have HY1 : Hid (Box w1 (w.heap.size + 1) [.bool y.has, .int .i64 y.t.t.k, .slice y.t.t.a y.t.t.len y.t.t.cap, .int .i64 y.t.t.n, .int .i64 y.t.t.s]) := (show Box _ _ _ by have h := (Box.new (w.alloc (.cells #[.bool x.has, .int .i64 x.t.t.k, .slice x.t.t.a x.t.t.len x.t.t.cap, .int .i64 x.t.t.n, .int .i64 x.t.t.s] 54)) #[.bool y.has, .int .i64 y.t.t.k, .slice y.t.t.a y.t.t.len y.t.t.cap, .int .i64 y.t.t.n, .int .i64 y.t.t.s] 54 _).below hb1; simpa using h)
  have HB1 : Hid (Below w.heap.size w w1) := bl_trans (bl_alloc (bl_a _) _) hb1
  clear hb1 Z1 HZ1
  go_wp2_with fail
  go_ret
  exact ⟨rfl, HB1.out⟩
set_option maxHeartbeats 4000000 in
theorem eqCellS_of (a a' : Option Addr) (cap cap' n : Nat) (x y : Nat → CB) (w : World) (hn : n ≤ 1048576) (hR : KRow 0 w 5 a n (fun i => (x i).cells)) (hR' : KRow 0 w 5 a' n (fun i => (y i).cells))
    (IH : ∀ i, i < n → ∀ (W : World), Below w.heap.size w W → Calls Tryz.prog 83 #[.agg #[.bool (x i).has, .int .i64 (x i).t.t.k, .slice (x i).t.t.a (x i).t.t.len (x i).t.t.cap, .int .i64 (x i).t.t.n, .int .i64 (x i).t.t.s], .agg #[.bool (y i).has, .int .i64 (y i).t.t.k, .slice (y i).t.t.a (y i).t.t.len (y i).t.t.cap, .int .i64 (y i).t.t.n, .int .i64 (y i).t.t.s]] W (Yes W)) :
    Calls Tryz.prog 70 #[.slice a n cap, .slice a' n cap'] w (Yes w) := by
  by_cases hn0 : n = 0
  · subst hn0
    clear hR hR' IH hn
    go_enter Tryz.func70, Tryz.ntmps70
    go_wp2
    refine wp_loop_rounds 1 ?_
    rw [rounds_succ]
    go_wp2
    go_ret
    exact ⟨rfl, Below.refl _ _⟩
  obtain ⟨b, off, rfl, _, hlt, hc⟩ := hR.resolve_left hn0
  obtain ⟨b', off', rfl, _, hlt', hc'⟩ := hR'.resolve_left hn0
  have HC : Hid (∀ i, i < n → ∀ c u, ((x i).cells)[c]? = some u → w.cell? ⟨b, off + i * 5 + c, none⟩ = some u) := hc
  have HC' : Hid (∀ i, i < n → ∀ c u, ((y i).cells)[c]? = some u → w.cell? ⟨b', off' + i * 5 + c, none⟩ = some u) := hc'
  have HI : Hid (∀ i, i < n → ∀ (W : World), Below w.heap.size w W → Calls Tryz.prog 83 #[.agg #[.bool (x i).has, .int .i64 (x i).t.t.k, .slice (x i).t.t.a (x i).t.t.len (x i).t.t.cap, .int .i64 (x i).t.t.n, .int .i64 (x i).t.t.s], .agg #[.bool (y i).has, .int .i64 (y i).t.t.k, .slice (y i).t.t.a (y i).t.t.len (y i).t.t.cap, .int .i64 (y i).t.t.n, .int .i64 (y i).t.t.s]] W (Yes W)) := IH
  clear hR hR' hc hc' IH
  go_enter Tryz.func70, Tryz.ntmps70
  go_wp2
  go_loopw [5] (fun i wr => ∃ k : Nat, k ≤ n ∧ i = .int .i64 k ∧ Hid (Below w.heap.size w wr)) (fun i _ => n - (intOf i).toNat)
  case atStart => exact ⟨0, Nat.zero_le _, rfl, Below.refl _ _⟩
  case round =>
    obtain ⟨k, hk, rfl, HB⟩ := hrel
    by_cases hlk : k < n
    · have hlkz : (k : Int) < (n : Int) := by omega
      have HRX : Hid (∀ w', Below wr.heap.size wr w' → w'.rangeAt b (off + k * 5) [.bool (x k).has, .int .i64 (x k).t.t.k, .slice (x k).t.t.a (x k).t.t.len (x k).t.t.cap, .int .i64 (x k).t.t.n, .int .i64 (x k).t.t.s]) := fun w' hw c u hu => ((bl_trans HB.out hw).cell (p := ⟨b, off + k * 5 + c, none⟩) hlt).trans (HC.out k hlk c u hu)
      have HRY : Hid (∀ w', Below wr.heap.size wr w' → w'.rangeAt b' (off' + k * 5) [.bool (y k).has, .int .i64 (y k).t.t.k, .slice (y k).t.t.a (y k).t.t.len (y k).t.t.cap, .int .i64 (y k).t.t.n, .int .i64 (y k).t.t.s]) := fun w' hw c u hu => ((bl_trans HB.out hw).cell (p := ⟨b', off' + k * 5 + c, none⟩) hlt').trans (HC'.out k hlk c u hu)
      have Z := HI.out k hlk wr.drew (bl_trans HB.out (Below.drew (Below.refl _ _)))
      go_wp2_with fail
      refine wp_region_held_drew (S := fun w' => Below wr.heap.size wr w') (by kernel_rfl) ?_ (fun hHeld => ?_)
      · exact Below.drew (Below.refl _ _)
      refine takeq (i := 0) 17 (v := ?v36) rfl rfl (by kernel_rfl) (by kernel_rfl) (by kernel_rfl) (fun _ _ _ h => h) (Or.inl ⟨by rfl, ?y36⟩) hHeld ?r36
      case y36 => (intro w' hSw; skip; go_simp; (try with_reducible rfl))
      try simp only [Act.put, List.setIfInBounds_toArray, List.set_cons_zero, List.set_cons_succ]
      refine takeq (i := 1) 18 (v := ?v37) rfl rfl (by kernel_rfl) (by kernel_rfl) (by kernel_rfl) (fun _ _ _ h => h) (Or.inl ⟨by rfl, ?y37⟩) hHeld ?r37
      case y37 => (intro w' hSw; skip; go_simp; (try with_reducible rfl))
      try simp only [Act.put, List.setIfInBounds_toArray, List.set_cons_zero, List.set_cons_succ]
      refine takeq (i := 2) 19 (v := ?v38) rfl rfl (by kernel_rfl) (by kernel_rfl) (by kernel_rfl) (fun _ _ _ h => h) (Or.inl ⟨by rfl, ?y38⟩) hHeld ?r38
      case y38 => (intro w' hSw; skip; go_simp; (try with_reducible rfl))
      try simp only [Act.put, List.setIfInBounds_toArray, List.set_cons_zero, List.set_cons_succ]
      refine takeq (i := 3) 20 (v := .agg #[.bool (x k).has, .int .i64 (x k).t.t.k, .slice (x k).t.t.a (x k).t.t.len (x k).t.t.cap, .int .i64 (x k).t.t.n, .int .i64 (x k).t.t.s]) rfl rfl (by kernel_rfl) (by kernel_rfl) (by kernel_rfl) (fun _ _ _ h => h) (yieldsIf_load_mid (by rfl) 54 _ rfl b (off + k * 5) rfl [.bool (x k).has, .int .i64 (x k).t.t.k, .slice (x k).t.t.a (x k).t.t.len (x k).t.t.cap, .int .i64 (x k).t.t.n, .int .i64 (x k).t.t.s] _ HRX.out Tryz.underlying54 rfl (by kernel_rfl)) hHeld ?_
      try simp only [Act.put, List.setIfInBounds_toArray, List.set_cons_zero, List.set_cons_succ]
      refine takeq (i := 4) 21 (v := ?v39) rfl rfl (by kernel_rfl) (by kernel_rfl) (by kernel_rfl) (fun _ _ _ h => h) (Or.inl ⟨by rfl, ?y39⟩) hHeld ?r39
      case y39 => (intro w' hSw; skip; go_simp; (try with_reducible rfl))
      try simp only [Act.put, List.setIfInBounds_toArray, List.set_cons_zero, List.set_cons_succ]
      refine takeq (i := 5) 22 (v := ?v40) rfl rfl (by kernel_rfl) (by kernel_rfl) (by kernel_rfl) (fun _ _ _ h => h) (Or.inl ⟨by rfl, ?y40⟩) hHeld ?r40
      case y40 => (intro w' hSw; skip; go_simp; (try with_reducible rfl))
      try simp only [Act.put, List.setIfInBounds_toArray, List.set_cons_zero, List.set_cons_succ]
      refine takeq (i := 6) 23 (v := ?v41) rfl rfl (by kernel_rfl) (by kernel_rfl) (by kernel_rfl) (fun _ _ _ h => h) (Or.inl ⟨by rfl, ?y41⟩) hHeld ?r41
      case y41 => (intro w' hSw; skip; go_simp; (try with_reducible rfl))
      try simp only [Act.put, List.setIfInBounds_toArray, List.set_cons_zero, List.set_cons_succ]
      refine takeq (i := 7) 24 (v := .agg #[.bool (y k).has, .int .i64 (y k).t.t.k, .slice (y k).t.t.a (y k).t.t.len (y k).t.t.cap, .int .i64 (y k).t.t.n, .int .i64 (y k).t.t.s]) rfl rfl (by kernel_rfl) (by kernel_rfl) (by kernel_rfl) (fun _ _ _ h => h) (yieldsIf_load_mid (by rfl) 54 _ rfl b' (off' + k * 5) rfl [.bool (y k).has, .int .i64 (y k).t.t.k, .slice (y k).t.t.a (y k).t.t.len (y k).t.t.cap, .int .i64 (y k).t.t.n, .int .i64 (y k).t.t.s] _ HRY.out Tryz.underlying54 rfl (by kernel_rfl)) hHeld ?_
      try simp only [Act.put, List.setIfInBounds_toArray, List.set_cons_zero, List.set_cons_succ]
      refine wpAnyH_ready (rs := [8]) (by kernel_rfl) (by simp) ?_
      refine AllReadyH.cons rfl (fun K hK => ?_) AllReadyH.nil
      go_simp
      refine Z.mono ?_
      rintro e w2 ⟨rfl, hb2⟩
      have HB2 : Hid (Below wr.heap.size wr w2) := (Below.drew (Below.refl _ _)).trans hb2
      clear hb2
      go_wp2_with fail
      refine hK.out _ _ ?_ (fun hHeld => ?_)
      · exact HB2.out
      clear hK K
      try simp only [Act.put, List.setIfInBounds_toArray, List.set_cons_zero, List.set_cons_succ]
      refine takeq (i := 9) 26 (v := ?v42) rfl rfl (by kernel_rfl) (by kernel_rfl) (by kernel_rfl) (fun _ _ _ h => h) (Or.inl ⟨by rfl, ?y42⟩) hHeld ?r42
      case y42 => (intro w' hSw; skip; go_simp; (try with_reducible rfl))
      try simp only [Act.put, List.setIfInBounds_toArray, List.set_cons_zero, List.set_cons_succ]
      refine wpAnyH_done (by kernel_rfl) ?_ _
      have HBq : Hid (Below w.heap.size w w2) := bl_trans HB.out HB2.out
      clear hHeld HRX HRY Z HB HB2
      go_wp2_with fail
      go_roundw
      case rel => exact ⟨k + 1, by omega, by go_num, HBq⟩
      case measure => simp [intOf]; omega
    · obtain rfl : k = n := by omega
      have hlkz : ¬ (k : Int) < (k : Int) := by omega
      go_wp2_with fail
      go_ret
      exact ⟨rfl, HB.out⟩
theorem eqSol_same (x y : SO) (w : World) (hx : x.lies 0 w) (hy : y.lies 0 w) (h : x.same y) : Calls Tryz.prog 48 #[.agg #[.slice x.a x.n x.cap], .agg #[.slice y.a y.n y.cap]] w (Yes w) := by
  have HZ1 : Hid (∀ (W : World), Below w.heap.size w W → Calls Tryz.prog 70 #[.slice x.a x.n x.cap, .slice y.a y.n y.cap] W (Yes W)) := fun W hb => by
    have hR' := hy.1
    rw [← h.1] at hR' ⊢
    exact eqCellS_of x.a y.a x.cap y.cap x.n x.cel y.cel W hx.2.2 (hx.1.upper (Upper.of_below hb)) (hR'.upper (Upper.of_below hb)) fun i hi W' hW => eqCell_same (x.cel i) (y.cel i) W' ((hx.2.1 i hi).upper (Upper.of_below (bl_trans hb hW))) ((hy.2.1 i (by rw [← h.1]; exact hi)).upper (Upper.of_below (bl_trans hb hW))) (h.2 i hi)
  clear hx hy h
  go_enter Tryz.func48, Tryz.ntmps48
  have Z1 := HZ1.out
  go_wp2_with fail
  refine (Z1 _ (bl_alloc (bl_a _) _)).mono ?_
  rintro e w1 ⟨rfl, hb1⟩
  have HX1 : Hid (Box w1 w.heap.size [.slice x.a x.n x.cap]) := ((Box.new w #[.slice x.a x.n x.cap] 44 _).below (bl_a _)).below hb1
  have HY1 : Hid (Box w1 (w.heap.size + 1) [.slice y.a y.n y.cap]) := (show Box _ _ _ by have h := (Box.new (w.alloc (.cells #[.slice x.a x.n x.cap] 44)) #[.slice y.a y.n y.cap] 44 _).below hb1; simpa using h)
  have HB1 : Hid (Below w.heap.size w w1) := bl_trans (bl_alloc (bl_a _) _) hb1
  clear hb1 Z1 HZ1
  go_wp2_with fail
  go_ret
  exact ⟨rfl, HB1.out⟩
set_option maxHeartbeats 4000000 in
theorem eqSolS_of (a a' : Option Addr) (cap cap' n : Nat) (x y : Nat → SO) (w : World) (hn : n ≤ 1048576) (hR : KRow 0 w 1 a n (fun i => (x i).cells)) (hR' : KRow 0 w 1 a' n (fun i => (y i).cells))
    (IH : ∀ i, i < n → ∀ (W : World), Below w.heap.size w W → Calls Tryz.prog 48 #[.agg #[.slice (x i).a (x i).n (x i).cap], .agg #[.slice (y i).a (y i).n (y i).cap]] W (Yes W)) :
    Calls Tryz.prog 27 #[.slice a n cap, .slice a' n cap'] w (Yes w) := by
  by_cases hn0 : n = 0
  · subst hn0
    clear hR hR' IH hn
    go_enter Tryz.func27, Tryz.ntmps27
    go_wp2
    refine wp_loop_rounds 1 ?_
    rw [rounds_succ]
    go_wp2
    go_ret
    exact ⟨rfl, Below.refl _ _⟩
  obtain ⟨b, off, rfl, _, hlt, hc⟩ := hR.resolve_left hn0
  obtain ⟨b', off', rfl, _, hlt', hc'⟩ := hR'.resolve_left hn0
  have HC : Hid (∀ i, i < n → ∀ c u, ((x i).cells)[c]? = some u → w.cell? ⟨b, off + i + c, none⟩ = some u) := fun i hi c u hu => (by have h := hc i hi c u hu; rwa [Nat.mul_one] at h)
  have HC' : Hid (∀ i, i < n → ∀ c u, ((y i).cells)[c]? = some u → w.cell? ⟨b', off' + i + c, none⟩ = some u) := fun i hi c u hu => (by have h := hc' i hi c u hu; rwa [Nat.mul_one] at h)
  have HI : Hid (∀ i, i < n → ∀ (W : World), Below w.heap.size w W → Calls Tryz.prog 48 #[.agg #[.slice (x i).a (x i).n (x i).cap], .agg #[.slice (y i).a (y i).n (y i).cap]] W (Yes W)) := IH
  clear hR hR' hc hc' IH
  go_enter Tryz.func27, Tryz.ntmps27
  go_wp2
  go_loopw [5] (fun i wr => ∃ k : Nat, k ≤ n ∧ i = .int .i64 k ∧ Hid (Below w.heap.size w wr)) (fun i _ => n - (intOf i).toNat)
  case atStart => exact ⟨0, Nat.zero_le _, rfl, Below.refl _ _⟩
  case round =>
    obtain ⟨k, hk, rfl, HB⟩ := hrel
    by_cases hlk : k < n
    · have hlkz : (k : Int) < (n : Int) := by omega
      have HRX : Hid (∀ w', Below wr.heap.size wr w' → w'.rangeAt b (off + k) [.slice (x k).a (x k).n (x k).cap]) := fun w' hw c u hu => ((bl_trans HB.out hw).cell (p := ⟨b, off + k + c, none⟩) hlt).trans (HC.out k hlk c u hu)
      have HRY : Hid (∀ w', Below wr.heap.size wr w' → w'.rangeAt b' (off' + k) [.slice (y k).a (y k).n (y k).cap]) := fun w' hw c u hu => ((bl_trans HB.out hw).cell (p := ⟨b', off' + k + c, none⟩) hlt').trans (HC'.out k hlk c u hu)
      have Z := HI.out k hlk wr.drew (bl_trans HB.out (Below.drew (Below.refl _ _)))
      go_wp2_with fail
      refine wp_region_held_drew (S := fun w' => Below wr.heap.size wr w') (by kernel_rfl) ?_ (fun hHeld => ?_)
      · exact Below.drew (Below.refl _ _)
      refine takeq (i := 0) 17 (v := ?v43) rfl rfl (by kernel_rfl) (by kernel_rfl) (by kernel_rfl) (fun _ _ _ h => h) (Or.inl ⟨by rfl, ?y43⟩) hHeld ?r43
      case y43 => (intro w' hSw; skip; go_simp; (try with_reducible rfl))
      try simp only [Act.put, List.setIfInBounds_toArray, List.set_cons_zero, List.set_cons_succ]
      refine takeq (i := 1) 18 (v := ?v44) rfl rfl (by kernel_rfl) (by kernel_rfl) (by kernel_rfl) (fun _ _ _ h => h) (Or.inl ⟨by rfl, ?y44⟩) hHeld ?r44
      case y44 => (intro w' hSw; skip; go_simp; (try with_reducible rfl))
      try simp only [Act.put, List.setIfInBounds_toArray, List.set_cons_zero, List.set_cons_succ]
      refine takeq (i := 2) 19 (v := ?v45) rfl rfl (by kernel_rfl) (by kernel_rfl) (by kernel_rfl) (fun _ _ _ h => h) (Or.inl ⟨by rfl, ?y45⟩) hHeld ?r45
      case y45 => (intro w' hSw; skip; go_simp; (try with_reducible rfl))
      try simp only [Act.put, List.setIfInBounds_toArray, List.set_cons_zero, List.set_cons_succ]
      refine takeq (i := 3) 20 (v := .agg #[.slice (x k).a (x k).n (x k).cap]) rfl rfl (by kernel_rfl) (by kernel_rfl) (by kernel_rfl) (fun _ _ _ h => h) (yieldsIf_load_mid (by rfl) 44 _ rfl b (off + k) rfl [.slice (x k).a (x k).n (x k).cap] _ HRX.out Tryz.underlying44 rfl (by kernel_rfl)) hHeld ?_
      try simp only [Act.put, List.setIfInBounds_toArray, List.set_cons_zero, List.set_cons_succ]
      refine takeq (i := 4) 21 (v := ?v46) rfl rfl (by kernel_rfl) (by kernel_rfl) (by kernel_rfl) (fun _ _ _ h => h) (Or.inl ⟨by rfl, ?y46⟩) hHeld ?r46
      case y46 => (intro w' hSw; skip; go_simp; (try with_reducible rfl))
      try simp only [Act.put, List.setIfInBounds_toArray, List.set_cons_zero, List.set_cons_succ]
      refine takeq (i := 5) 22 (v := ?v47) rfl rfl (by kernel_rfl) (by kernel_rfl) (by kernel_rfl) (fun _ _ _ h => h) (Or.inl ⟨by rfl, ?y47⟩) hHeld ?r47
      case y47 => (intro w' hSw; skip; go_simp; (try with_reducible rfl))
      try simp only [Act.put, List.setIfInBounds_toArray, List.set_cons_zero, List.set_cons_succ]
      refine takeq (i := 6) 23 (v := ?v48) rfl rfl (by kernel_rfl) (by kernel_rfl) (by kernel_rfl) (fun _ _ _ h => h) (Or.inl ⟨by rfl, ?y48⟩) hHeld ?r48
      case y48 => (intro w' hSw; skip; go_simp; (try with_reducible rfl))
      try simp only [Act.put, List.setIfInBounds_toArray, List.set_cons_zero, List.set_cons_succ]
      refine takeq (i := 7) 24 (v := .agg #[.slice (y k).a (y k).n (y k).cap]) rfl rfl (by kernel_rfl) (by kernel_rfl) (by kernel_rfl) (fun _ _ _ h => h) (yieldsIf_load_mid (by rfl) 44 _ rfl b' (off' + k) rfl [.slice (y k).a (y k).n (y k).cap] _ HRY.out Tryz.underlying44 rfl (by kernel_rfl)) hHeld ?_
      try simp only [Act.put, List.setIfInBounds_toArray, List.set_cons_zero, List.set_cons_succ]
      refine wpAnyH_ready (rs := [8]) (by kernel_rfl) (by simp) ?_
      refine AllReadyH.cons rfl (fun K hK => ?_) AllReadyH.nil
      go_simp
      refine Z.mono ?_
      rintro e w2 ⟨rfl, hb2⟩
      have HB2 : Hid (Below wr.heap.size wr w2) := (Below.drew (Below.refl _ _)).trans hb2
      clear hb2
      go_wp2_with fail
      refine hK.out _ _ ?_ (fun hHeld => ?_)
      · exact HB2.out
      clear hK K
      try simp only [Act.put, List.setIfInBounds_toArray, List.set_cons_zero, List.set_cons_succ]
      refine takeq (i := 9) 26 (v := ?v49) rfl rfl (by kernel_rfl) (by kernel_rfl) (by kernel_rfl) (fun _ _ _ h => h) (Or.inl ⟨by rfl, ?y49⟩) hHeld ?r49
      case y49 => (intro w' hSw; skip; go_simp; (try with_reducible rfl))
      try simp only [Act.put, List.setIfInBounds_toArray, List.set_cons_zero, List.set_cons_succ]
      refine wpAnyH_done (by kernel_rfl) ?_ _
      have HBq : Hid (Below w.heap.size w w2) := bl_trans HB.out HB2.out
      clear hHeld HRX HRY Z HB HB2
      go_wp2_with fail
      go_roundw
      case rel => exact ⟨k + 1, by omega, by go_num, HBq⟩
      case measure => simp [intOf]; omega
    · obtain rfl : k = n := by omega
      have hlkz : ¬ (k : Int) < (k : Int) := by omega
      go_wp2_with fail
      go_ret
      exact ⟨rfl, HB.out⟩
set_option maxHeartbeats 4000000 in
theorem eqByteSS_of (a a' : Option Addr) (cap cap' n : Nat) (x y : Nat → SL) (w : World) (hn : n ≤ 1048576) (hR : KRow 0 w 1 a n (fun i => (x i).cells)) (hR' : KRow 0 w 1 a' n (fun i => (y i).cells))
    (IH : ∀ i, i < n → ∀ (W : World), Below w.heap.size w W → Calls Tryz.prog 8 #[.slice (x i).a (x i).len (x i).cap, .slice (y i).a (y i).len (y i).cap] W (Yes W)) :
    Calls Tryz.prog 26 #[.slice a n cap, .slice a' n cap'] w (Yes w) := by
  by_cases hn0 : n = 0
  · subst hn0
    clear hR hR' IH hn
    go_enter Tryz.func26, Tryz.ntmps26
    go_wp2
    refine wp_loop_rounds 1 ?_
    rw [rounds_succ]
    go_wp2
    go_ret
    exact ⟨rfl, Below.refl _ _⟩
  obtain ⟨b, off, rfl, _, hlt, hc⟩ := hR.resolve_left hn0
  obtain ⟨b', off', rfl, _, hlt', hc'⟩ := hR'.resolve_left hn0
  have HC : Hid (∀ i, i < n → ∀ c u, ((x i).cells)[c]? = some u → w.cell? ⟨b, off + i + c, none⟩ = some u) := fun i hi c u hu => (by have h := hc i hi c u hu; rwa [Nat.mul_one] at h)
  have HC' : Hid (∀ i, i < n → ∀ c u, ((y i).cells)[c]? = some u → w.cell? ⟨b', off' + i + c, none⟩ = some u) := fun i hi c u hu => (by have h := hc' i hi c u hu; rwa [Nat.mul_one] at h)
  have HI : Hid (∀ i, i < n → ∀ (W : World), Below w.heap.size w W → Calls Tryz.prog 8 #[.slice (x i).a (x i).len (x i).cap, .slice (y i).a (y i).len (y i).cap] W (Yes W)) := IH
  clear hR hR' hc hc' IH
  go_enter Tryz.func26, Tryz.ntmps26
  go_wp2
  go_loopw [5] (fun i wr => ∃ k : Nat, k ≤ n ∧ i = .int .i64 k ∧ Hid (Below w.heap.size w wr)) (fun i _ => n - (intOf i).toNat)
  case atStart => exact ⟨0, Nat.zero_le _, rfl, Below.refl _ _⟩
  case round =>
    obtain ⟨k, hk, rfl, HB⟩ := hrel
    by_cases hlk : k < n
    · have hlkz : (k : Int) < (n : Int) := by omega
      have HRX : Hid (∀ w', Below wr.heap.size wr w' → w'.rangeAt b (off + k) [.slice (x k).a (x k).len (x k).cap]) := fun w' hw c u hu => ((bl_trans HB.out hw).cell (p := ⟨b, off + k + c, none⟩) hlt).trans (HC.out k hlk c u hu)
      have HRY : Hid (∀ w', Below wr.heap.size wr w' → w'.rangeAt b' (off' + k) [.slice (y k).a (y k).len (y k).cap]) := fun w' hw c u hu => ((bl_trans HB.out hw).cell (p := ⟨b', off' + k + c, none⟩) hlt').trans (HC'.out k hlk c u hu)
      have Z := HI.out k hlk wr.drew (bl_trans HB.out (Below.drew (Below.refl _ _)))
      go_wp2_with fail
      refine wp_region_held_drew (S := fun w' => Below wr.heap.size wr w') (by kernel_rfl) ?_ (fun hHeld => ?_)
      · exact Below.drew (Below.refl _ _)
      refine takeq (i := 0) 17 (v := ?v50) rfl rfl (by kernel_rfl) (by kernel_rfl) (by kernel_rfl) (fun _ _ _ h => h) (Or.inl ⟨by rfl, ?y50⟩) hHeld ?r50
      case y50 => (intro w' hSw; skip; go_simp; (try with_reducible rfl))
      try simp only [Act.put, List.setIfInBounds_toArray, List.set_cons_zero, List.set_cons_succ]
      refine takeq (i := 1) 18 (v := ?v51) rfl rfl (by kernel_rfl) (by kernel_rfl) (by kernel_rfl) (fun _ _ _ h => h) (Or.inl ⟨by rfl, ?y51⟩) hHeld ?r51
      case y51 => (intro w' hSw; skip; go_simp; (try with_reducible rfl))
      try simp only [Act.put, List.setIfInBounds_toArray, List.set_cons_zero, List.set_cons_succ]
      refine takeq (i := 2) 19 (v := ?v52) rfl rfl (by kernel_rfl) (by kernel_rfl) (by kernel_rfl) (fun _ _ _ h => h) (Or.inl ⟨by rfl, ?y52⟩) hHeld ?r52
      case y52 => (intro w' hSw; skip; go_simp; (try with_reducible rfl))
      try simp only [Act.put, List.setIfInBounds_toArray, List.set_cons_zero, List.set_cons_succ]
      refine takeq (i := 3) 20 (v := .slice (x k).a (x k).len (x k).cap) rfl rfl (by kernel_rfl) (by kernel_rfl) (by kernel_rfl) (fun _ _ _ h => h) (Or.inl ⟨by rfl, fun w' hSw => (by have h0 := HRX.out w' hSw 0 _ rfl; simp only [Nat.add_zero] at h0; go_simp; (try with_reducible rfl))⟩) hHeld ?_
      try simp only [Act.put, List.setIfInBounds_toArray, List.set_cons_zero, List.set_cons_succ]
      refine takeq (i := 4) 21 (v := ?v53) rfl rfl (by kernel_rfl) (by kernel_rfl) (by kernel_rfl) (fun _ _ _ h => h) (Or.inl ⟨by rfl, ?y53⟩) hHeld ?r53
      case y53 => (intro w' hSw; skip; go_simp; (try with_reducible rfl))
      try simp only [Act.put, List.setIfInBounds_toArray, List.set_cons_zero, List.set_cons_succ]
      refine takeq (i := 5) 22 (v := ?v54) rfl rfl (by kernel_rfl) (by kernel_rfl) (by kernel_rfl) (fun _ _ _ h => h) (Or.inl ⟨by rfl, ?y54⟩) hHeld ?r54
      case y54 => (intro w' hSw; skip; go_simp; (try with_reducible rfl))
      try simp only [Act.put, List.setIfInBounds_toArray, List.set_cons_zero, List.set_cons_succ]
      refine takeq (i := 6) 23 (v := ?v55) rfl rfl (by kernel_rfl) (by kernel_rfl) (by kernel_rfl) (fun _ _ _ h => h) (Or.inl ⟨by rfl, ?y55⟩) hHeld ?r55
      case y55 => (intro w' hSw; skip; go_simp; (try with_reducible rfl))
      try simp only [Act.put, List.setIfInBounds_toArray, List.set_cons_zero, List.set_cons_succ]
      refine takeq (i := 7) 24 (v := .slice (y k).a (y k).len (y k).cap) rfl rfl (by kernel_rfl) (by kernel_rfl) (by kernel_rfl) (fun _ _ _ h => h) (Or.inl ⟨by rfl, fun w' hSw => (by have h0 := HRY.out w' hSw 0 _ rfl; simp only [Nat.add_zero] at h0; go_simp; (try with_reducible rfl))⟩) hHeld ?_
      try simp only [Act.put, List.setIfInBounds_toArray, List.set_cons_zero, List.set_cons_succ]
      refine wpAnyH_ready (rs := [8]) (by kernel_rfl) (by simp) ?_
      refine AllReadyH.cons rfl (fun K hK => ?_) AllReadyH.nil
      go_simp
      refine Z.mono ?_
      rintro e w2 ⟨rfl, hb2⟩
      have HB2 : Hid (Below wr.heap.size wr w2) := (Below.drew (Below.refl _ _)).trans hb2
      clear hb2
      go_wp2_with fail
      refine hK.out _ _ ?_ (fun hHeld => ?_)
      · exact HB2.out
      clear hK K
      try simp only [Act.put, List.setIfInBounds_toArray, List.set_cons_zero, List.set_cons_succ]
      refine takeq (i := 9) 26 (v := ?v56) rfl rfl (by kernel_rfl) (by kernel_rfl) (by kernel_rfl) (fun _ _ _ h => h) (Or.inl ⟨by rfl, ?y56⟩) hHeld ?r56
      case y56 => (intro w' hSw; skip; go_simp; (try with_reducible rfl))
      try simp only [Act.put, List.setIfInBounds_toArray, List.set_cons_zero, List.set_cons_succ]
      refine wpAnyH_done (by kernel_rfl) ?_ _
      have HBq : Hid (Below w.heap.size w w2) := bl_trans HB.out HB2.out
      clear hHeld HRX HRY Z HB HB2
      go_wp2_with fail
      go_roundw
      case rel => exact ⟨k + 1, by omega, by go_num, HBq⟩
      case measure => simp [intOf]; omega
    · obtain rfl : k = n := by omega
      have hlkz : ¬ (k : Int) < (k : Int) := by omega
      go_wp2_with fail
      go_ret
      exact ⟨rfl, HB.out⟩
theorem eqTable_same (x y : TL) (w : World) (hx : x.lies 0 w) (hy : y.lies 0 w) (h : x.same y) : Calls Tryz.prog 9 #[.agg #[.slice x.va x.vn x.vc, .slice x.ra x.rn x.rc], .agg #[.slice y.va y.vn y.vc, .slice y.ra y.rn y.rc]] w (Yes w) := by
  have HZ1 : Hid (∀ (W : World), Below w.heap.size w W → Calls Tryz.prog 26 #[.slice x.va x.vn x.vc, .slice y.va y.vn y.vc] W (Yes W)) := fun W hb => by
    have hR' := hy.1
    rw [← h.1] at hR' ⊢
    exact eqByteSS_of x.va y.va x.vc y.vc x.vn x.var y.var W hx.2.2.1 (hx.1.upper (Upper.of_below hb)) (hR'.upper (Upper.of_below hb)) fun i hi W' hW => eqByteS_same (x.var i) (y.var i) W' (BsF.upper (hx.2.1 i hi) (Upper.of_below (bl_trans hb hW))) (BsF.upper (hy.2.1 i (by rw [← h.1]; exact hi)) (Upper.of_below (bl_trans hb hW))) (h.2.1 i hi)
  have HZ2 : Hid (∀ (W : World), Below w.heap.size w W → Calls Tryz.prog 27 #[.slice x.ra x.rn x.rc, .slice y.ra y.rn y.rc] W (Yes W)) := fun W hb => by
    have hR' := hy.2.2.2.1
    rw [← h.2.2.1] at hR' ⊢
    exact eqSolS_of x.ra y.ra x.rc y.rc x.rn x.row y.row W hx.2.2.2.2.2 (hx.2.2.2.1.upper (Upper.of_below hb)) (hR'.upper (Upper.of_below hb)) fun i hi W' hW => eqSol_same (x.row i) (y.row i) W' ((hx.2.2.2.2.1 i hi).upper (Upper.of_below (bl_trans hb hW))) ((hy.2.2.2.2.1 i (by rw [← h.2.2.1]; exact hi)).upper (Upper.of_below (bl_trans hb hW))) (h.2.2.2 i hi)
  clear hx hy h
  go_enter Tryz.func9, Tryz.ntmps9
  have Z1 := HZ1.out
  go_wp2_with fail
  refine (Z1 _ (bl_alloc (bl_a _) _)).mono ?_
  rintro e w1 ⟨rfl, hb1⟩
  have HX1 : Hid (Box w1 w.heap.size [.slice x.va x.vn x.vc, .slice x.ra x.rn x.rc]) := ((Box.new w #[.slice x.va x.vn x.vc, .slice x.ra x.rn x.rc] 31 _).below (bl_a _)).below hb1
  have HY1 : Hid (Box w1 (w.heap.size + 1) [.slice y.va y.vn y.vc, .slice y.ra y.rn y.rc]) := (show Box _ _ _ by have h := (Box.new (w.alloc (.cells #[.slice x.va x.vn x.vc, .slice x.ra x.rn x.rc] 31)) #[.slice y.va y.vn y.vc, .slice y.ra y.rn y.rc] 31 _).below hb1; simpa using h)
  have HB1 : Hid (Below w.heap.size w w1) := bl_trans (bl_alloc (bl_a _) _) hb1
  clear hb1 Z1 HZ1
  have la := HX1.out.2 1 _ rfl
  have lb := HY1.out.2 1 _ rfl
  have Z2 := HZ2.out
  go_wp2_with fail
  refine (Z2 _ HB1.out).mono ?_
  rintro e w2 ⟨rfl, hb2⟩
  have HX2 : Hid (Box w2 w.heap.size [.slice x.va x.vn x.vc, .slice x.ra x.rn x.rc]) := HX1.out.below hb2
  have HY2 : Hid (Box w2 (w.heap.size + 1) [.slice y.va y.vn y.vc, .slice y.ra y.rn y.rc]) := HY1.out.below hb2
  have HB2 : Hid (Below w.heap.size w w2) := bl_trans HB1.out hb2
  clear hb2 Z2 HZ2 HX1 HY1 HB1 la lb
  go_wp2_with fail
  go_ret
  exact ⟨rfl, HB2.out⟩
end Go.Proofs.YtganfiajhokkmaaGreatDoor

/- OpnA -/
namespace Go.Proofs.YtganfiajhokkmaaGreatDoor
open Go.ChangeShapes Go.WideShapes Go.ChangeAt Go.RowKit Go.Joins Go.Deep

def tmCells (t : Tm) : List Value := [.int .i64 t.k, .slice t.a t.len t.cap, .int .i64 t.n, .int .i64 t.s]

set_option maxRecDepth 100000 in
/-- A term's cells, opened. -/
theorem trod_term {H : Type} {enc : TypeId × Value → H} {W : World} {fuel : Nat} {cs : List Value} {x : DataW H × List MemPlace}
    (h : DataW.trod enc Tryz.prog W 0 (fun _ => true) true fuel 95 cs = some x) :
    ∃ (t : Tm) (bs : List Int), cs = tmCells t ∧ t.fits ∧ t.len ≤ 9223372036854775807 ∧ (t.len ≤ 1048576 → Bs W t.a t.len bs) := by
  obtain ⟨y0, y1, y2, y3, m, _, hlen, hy0, hy1, hy2, hy3⟩ := trod_struct4 Tryz.underlying95 h
  rw [Tryz.cells95] at hlen
  match cs, hlen with
  | [c0, c1, c2, c3], _ =>
    have e3 : Tryz.prog.cellsOf 3 = 1 := by kernel_rfl
    have e8 : Tryz.prog.cellsOf 27 = 1 := by kernel_rfl
    simp [e3, e8] at hy0 hy1 hy2 hy3
    obtain ⟨k, e0, _, wk⟩ := DataW.trod_int Tryz.underlying3 hy0
    obtain ⟨n, e2, _, wn⟩ := DataW.trod_int Tryz.underlying3 hy2
    obtain ⟨s, e3, _, ws⟩ := DataW.trod_int Tryz.underlying3 hy3
    simp at e0 e2 e3
    subst e0 e2 e3
    have bn := bounds_i64 wn
    have bsc := bounds_i64 ws
    rcases open_ints Tryz.underlying27 Tryz.underlying5 Tryz.cells5 hy1 with ⟨hcs, _⟩ | ⟨x, l, c, zs, hcs, _, hl, hm, hz, _, hcell, hwz⟩
    · simp at hcs
      subst hcs
      exact ⟨⟨k, none, 0, 0, n, s⟩, [], rfl, ⟨bn.1, bn.2, bsc.1, bsc.2⟩, by show (0 : Nat) ≤ _; omega, fun _ => ⟨rfl, by show (0 : Nat) ≤ _; omega, by simp, .inl rfl⟩⟩
    · simp at hcs
      subst hcs
      simp only [if_true] at hz
      refine ⟨⟨k, some x, l, c, n, s⟩, zs.take l, rfl, ⟨bn.1, bn.2, bsc.1, bsc.2⟩, ?_, fun h20 => ?_⟩
      · show l ≤ _
        unfold maxLen at hm
        omega
      · exact Bs.of_cells hl hz h20 hcell hwz

end Go.Proofs.YtganfiajhokkmaaGreatDoor
