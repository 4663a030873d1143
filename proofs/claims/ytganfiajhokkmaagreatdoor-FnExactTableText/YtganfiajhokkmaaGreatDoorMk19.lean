/- Texts put together: TbH TbI -/
import Derived.Test.YtganfiajhokkmaaGreatDoorMk18
import Derived.Test.YtganfiajhokkmaaGreatDoorMk12
import Derived.Test.YtganfiajhokkmaaGreatDoorMk13
/- TbH -/
namespace Go.Proofs.YtganfiajhokkmaaGreatDoor
open Go.RowKit Go.Deep
set_option maxRecDepth 100000

/-- What TableText answers. -/
def TabAns (t : TL) (w : World) (e : Ending) (w' : World) : Prop := ∃ bs, ((tabOk t ∧ bs = tabTx t) ∨ (¬ tabOk t ∧ bs = [])) ∧ TxRes w bs e w'
theorem TabAns.no {t : TL} {w w' : World} (h : ¬ tabOk t) (hb : Below w.heap.size w w') : TabAns t w (.returned (.slice none 0 0)) w' := ⟨[], .inr ⟨h, rfl⟩, none, 0, rfl, Nw.nil _ _, hb⟩
set_option maxHeartbeats 8000000 in
theorem specTableText_any (t : TL) (w : World) (h : t.lies 0 w) (hcap : t.vn ≤ t.vc) : Calls Tryz.prog 5 #[.agg #[.slice t.va t.vn t.vc, .slice t.ra t.rn t.rc]] w (TabAns t w) := by
  have HV : Hid (∀ o, Calls Tryz.prog 15 #[.slice t.va t.vn t.vc] (w.alloc o) (Tells (varsOkL t.vn t.var) (w.alloc o))) := fun o => l6varsOk_any t.va t.vn t.vc t.var (w.alloc o) (h.1.upper (Upper.of_below (bl_a o))) (fun i hi => (h.2.1 i hi).upper (Upper.of_below (bl_a o))) h.2.2.1 hcap
  have HL8 : Hid (tabOk t → ∀ W, Below w.heap.size w W → Calls Tryz.prog 17 #[.agg #[.slice t.va t.vn t.vc, .slice t.ra t.rn t.rc]] W fun e w' => TxRes W (tabTx t) e w') := fun hok W hb => l8text_any t W (h.upper (Upper.of_below hb)) hok
  obtain ⟨_, _, hvn, hRR, hRL, hrn⟩ := h
  have HZ : Hid (∀ k, k < t.rn → ∀ W, Below w.heap.size w W → Calls Tryz.prog 16 #[.agg #[.slice (t.row k).a (t.row k).n (t.row k).cap], .int .i64 t.vn] W (Tells (solOk (t.row k) t.vn) W)) := fun k hk W hb => l6solOk_any (t.row k) t.vn W ((hRL k hk).upper (Upper.of_below hb)) hvn
  have HRR : Hid (KRow 0 w 1 t.ra t.rn (fun i => (t.row i).cells)) := hRR
  clear hRR hRL
  go_enter Tryz.func5, Tryz.ntmps5
  go_wp2_with fail
  refine (HV.out _).mono ?_
  rintro e w1 ⟨q1, rfl, hq1, hb1⟩
  have HB1 : Hid (Below w.heap.size w w1) := bl_trans (bl_a _) hb1
  have HX1 : Hid (Box w1 w.heap.size [.slice t.va t.vn t.vc, .slice t.ra t.rn t.rc]) := (Box.new w #[.slice t.va t.vn t.vc, .slice t.ra t.rn t.rc] 31 (0, 0)).below hb1
  clear hb1 HV
  cases q1 with
  | false =>
    have HNO : Hid (¬ tabOk t) := fun hh => by have h := hq1.2 hh.1; cases h
    clear hq1
    go_wp2_with fail
    go_ret
    exact TabAns.no HNO.out HB1.out
  | true =>
    have HVO : Hid (varsOkL t.vn t.var) := hq1.1 rfl
    have y1 := HX1.out.2 1 _ rfl
    clear hq1
    by_cases h300 : t.rn ≤ 300
    rotate_left
    · have h3z : (t.rn : Int) > 300 := by omega
      go_wp2_with fail
      go_ret
      exact TabAns.no (fun hh => h300 hh.2.1) HB1.out
    have h3z : ¬ (t.rn : Int) > 300 := by omega
    obtain ⟨rn, hrn'⟩ : ∃ rn, rn = t.rn := ⟨_, rfl⟩
    by_cases hr0 : t.rn = 0
    · have HB := HB1
      have x0 := HX1.out.2 0 _ rfl
      have x1 := y1
      rw [hr0] at x1
      have HY0 : Hid (tabOk t) := ⟨HVO.out, h300, fun i hi => absurd hi (by omega)⟩
      have L8 := HL8.out HY0.out
      rw [hr0] at y1 L8
      clear hrn' hr0 h3z h300 HL8 HX1
      go_wp2_with fail
      refine wp_loop_rounds 1 ?_
      rw [rounds_succ]
      go_wp2_with fail
      refine (L8 _ HB.out).mono ?_
      rintro e w2 hh
      have HA : Hid (TxRes w (tabTx t) e w2) := hh.later HB.out
      obtain ⟨a2, c2, rfl, hn2, hb2⟩ := hh
      clear hn2 hb2 L8 x0 x1 y1
      go_wp2_with fail
      go_ret
      exact ⟨_, .inl ⟨HY0.out, rfl⟩, HA.out⟩
    obtain ⟨b, off, ea, _, hlt, hc⟩ := HRR.out.resolve_left hr0
    have HC : Hid (∀ i, i < t.rn → ∀ c u, ((t.row i).cells)[c]? = some u → w.cell? ⟨b, off + i + c, none⟩ = some u) := fun i hi c u hu => (by have h := hc i hi c u hu; rwa [Nat.mul_one] at h)
    have HEA : Hid (t.ra = some ⟨b, off, none⟩) := ea
    clear hc ea
    go_wp2_with fail
    clear y1
    go_loopw [3] (fun i wr => ∃ k : Nat, k ≤ t.rn ∧ i = .int .i64 k ∧ Hid (∀ j, j < k → solOk (t.row j) t.vn) ∧ Hid (Below w.heap.size w wr) ∧ Hid (Box wr w.heap.size [.slice t.va t.vn t.vc, .slice t.ra t.rn t.rc])) (fun i _ => t.rn - (intOf i).toNat)
    case atStart => exact ⟨0, Nat.zero_le _, rfl, fun j hj => absurd hj (Nat.not_lt_zero _), HB1, HX1⟩
    case round =>
      clear HB1 HX1
      obtain ⟨k, hk, rfl, HRO, HB, HX⟩ := hrel
      have x0 := HX.out.2 0 _ rfl
      have x1 := HX.out.2 1 _ rfl
      by_cases hlk : k < t.rn
      rotate_left
      · obtain rfl : k = t.rn := by omega
        have hlkz : ¬ (t.rn : Int) < (t.rn : Int) := by omega
        have HY : Hid (tabOk t) := ⟨HVO.out, h300, HRO.out⟩
        have L8 := HL8.out HY.out
        go_wp2_with fail
        refine (L8 _ HB.out).mono ?_
        rintro e w2 hh
        have HA : Hid (TxRes w (tabTx t) e w2) := hh.later HB.out
        obtain ⟨a2, c2, rfl, hn2, hb2⟩ := hh
        clear hn2 hb2 L8 x0 x1
        go_wp2_with fail
        go_ret
        exact ⟨_, .inl ⟨HY.out, rfl⟩, HA.out⟩
      have hlkz : (k : Int) < (t.rn : Int) := by omega
      have HF : Hid (∀ w', Below wr.heap.size wr w' → w'.cell? ⟨w.heap.size, 1, none⟩ = some (.slice (some ⟨b, off, none⟩) t.rn t.rc) ∧ w'.cell? ⟨w.heap.size, 0, none⟩ = some (.slice t.va t.vn t.vc) ∧ w'.rangeAt b (off + k) [.slice (t.row k).a (t.row k).n (t.row k).cap]) := fun w' hw => ⟨by rw [← HEA.out]; exact (HX.out.below hw).2 1 _ rfl, (HX.out.below hw).2 0 _ rfl, fun c u hu => ((bl_trans HB.out hw).cell (p := ⟨b, off + k + c, none⟩) hlt).trans (HC.out k hlk c u hu)⟩
      clear x0
      go_wp2_with fail
      refine wp_region_held_drew (S := fun w' => Below wr.heap.size wr w') (by kernel_rfl) ?_ (fun hHeld => ?_)
      · exact Below.drew (Below.refl _ _)
      refine takeq (i := 0) 21 (v := ?v19) rfl rfl (by kernel_rfl) (by kernel_rfl) (by kernel_rfl) (fun _ _ _ h => h) (Or.inl ⟨by rfl, ?y19⟩) hHeld ?r19
      case y19 => (intro w' hSw; skip; go_simp; (try with_reducible rfl))
      try simp only [Act.put, List.setIfInBounds_toArray, List.set_cons_zero, List.set_cons_succ]
      refine takeq (i := 1) 22 (v := ?v20) rfl rfl (by kernel_rfl) (by kernel_rfl) (by kernel_rfl) (fun _ _ _ h => h) (Or.inl ⟨by rfl, ?y20⟩) hHeld ?r20
      case y20 => (intro w' hSw; obtain ⟨q1, q2, q3⟩ := HF.out w' hSw; go_simp; (try with_reducible rfl))
      try simp only [Act.put, List.setIfInBounds_toArray, List.set_cons_zero, List.set_cons_succ]
      refine takeq (i := 2) 23 (v := ?v21) rfl rfl (by kernel_rfl) (by kernel_rfl) (by kernel_rfl) (fun _ _ _ h => h) (Or.inl ⟨by rfl, ?y21⟩) hHeld ?r21
      case y21 => (intro w' hSw; skip; go_simp; (try with_reducible rfl))
      try simp only [Act.put, List.setIfInBounds_toArray, List.set_cons_zero, List.set_cons_succ]
      refine takeq (i := 3) 24 (v := ?v22) rfl rfl (by kernel_rfl) (by kernel_rfl) (by kernel_rfl) (fun _ _ _ h => h) (Or.inl ⟨by rfl, ?y22⟩) hHeld ?r22
      case y22 => (intro w' hSw; skip; go_simp; (try with_reducible rfl))
      try simp only [Act.put, List.setIfInBounds_toArray, List.set_cons_zero, List.set_cons_succ]
      refine takeq (i := 4) 25 (v := .agg #[.slice (t.row k).a (t.row k).n (t.row k).cap]) rfl rfl (by kernel_rfl) (by kernel_rfl) (by kernel_rfl) (fun _ _ _ h => h) (yieldsIf_load_mid (by rfl) 44 _ rfl b (off + k) rfl [.slice (t.row k).a (t.row k).n (t.row k).cap] _ (fun w' hw' => (HF.out w' hw').2.2) Tryz.underlying44 rfl (by kernel_rfl)) hHeld ?_
      try simp only [Act.put, List.setIfInBounds_toArray, List.set_cons_zero, List.set_cons_succ]
      refine takeq (i := 5) 26 (v := ?v23) rfl rfl (by kernel_rfl) (by kernel_rfl) (by kernel_rfl) (fun _ _ _ h => h) (Or.inl ⟨by rfl, ?y23⟩) hHeld ?r23
      case y23 => (intro w' hSw; skip; go_simp; (try with_reducible rfl))
      try simp only [Act.put, List.setIfInBounds_toArray, List.set_cons_zero, List.set_cons_succ]
      refine takeq (i := 6) 27 (v := ?v24) rfl rfl (by kernel_rfl) (by kernel_rfl) (by kernel_rfl) (fun _ _ _ h => h) (Or.inl ⟨by rfl, ?y24⟩) hHeld ?r24
      case y24 => (intro w' hSw; obtain ⟨q1, q2, q3⟩ := HF.out w' hSw; go_simp; (try with_reducible rfl))
      try simp only [Act.put, List.setIfInBounds_toArray, List.set_cons_zero, List.set_cons_succ]
      refine takeq (i := 7) 28 (v := ?v25) rfl rfl (by kernel_rfl) (by kernel_rfl) (by kernel_rfl) (fun _ _ _ h => h) (Or.inl ⟨by rfl, ?y25⟩) hHeld ?r25
      case y25 => (intro w' hSw; skip; go_simp; (try with_reducible rfl))
      try simp only [Act.put, List.setIfInBounds_toArray, List.set_cons_zero, List.set_cons_succ]
      refine wpAnyH_ready (rs := [8]) (by kernel_rfl) (by simp) ?_
      refine AllReadyH.cons rfl (fun K hK => ?_) AllReadyH.nil
      go_simp
      refine (HZ.out k hlk wr.drew (Below.drew HB.out)).mono ?_
      rintro e w2 ⟨q2, rfl, hq2, hb2⟩
      have HB2 : Hid (Below wr.heap.size wr w2) := (Below.drew (Below.refl _ _)).trans hb2
      have HBq : Hid (Below w.heap.size w w2) := bl_trans HB.out HB2.out
      have HXq : Hid (Box w2 w.heap.size [.slice t.va t.vn t.vc, .slice t.ra t.rn t.rc]) := HX.out.below HB2.out
      clear hb2
      cases q2 with
      | false =>
        have HNO : Hid (¬ tabOk t) := fun hh => by have h := hq2.2 (hh.2.2 k hlk); cases h
        clear hq2
        go_wp2_with fail
        refine hK.out _ _ ?_ (fun hHeld => ?_)
        · exact HB2.out
        clear hK K
        try simp only [Act.put, List.setIfInBounds_toArray, List.set_cons_zero, List.set_cons_succ]
        refine takeq (i := 9) 30 (v := ?v26) rfl rfl (by kernel_rfl) (by kernel_rfl) (by kernel_rfl) (fun _ _ _ h => h) (Or.inl ⟨by rfl, ?y26⟩) hHeld ?r26
        case y26 => (intro w' hSw; skip; go_simp; (try with_reducible rfl))
        try simp only [Act.put, List.setIfInBounds_toArray, List.set_cons_zero, List.set_cons_succ]
        refine wpAnyH_done (by kernel_rfl) ?_ _
        clear hHeld HF
        go_wp2_with fail
        go_ret
        exact TabAns.no HNO.out HBq.out
      | true =>
        have HSK : Hid (solOk (t.row k) t.vn) := hq2.1 rfl
        clear hq2
        go_wp2_with fail
        refine hK.out _ _ ?_ (fun hHeld => ?_)
        · exact HB2.out
        clear hK K
        try simp only [Act.put, List.setIfInBounds_toArray, List.set_cons_zero, List.set_cons_succ]
        refine takeq (i := 9) 30 (v := ?v27) rfl rfl (by kernel_rfl) (by kernel_rfl) (by kernel_rfl) (fun _ _ _ h => h) (Or.inl ⟨by rfl, ?y27⟩) hHeld ?r27
        case y27 => (intro w' hSw; skip; go_simp; (try with_reducible rfl))
        try simp only [Act.put, List.setIfInBounds_toArray, List.set_cons_zero, List.set_cons_succ]
        refine wpAnyH_done (by kernel_rfl) ?_ _
        clear hHeld HF
        go_wp2_with fail
        go_roundw
        case rel =>
          refine ⟨k + 1, by omega, by go_num, fun j hj => ?_, HBq, HXq⟩
          by_cases e : j = k
          · subst e
            exact HSK.out
          · exact HRO.out j (by omega)
        case measure => simp [intOf]; omega
end Go.Proofs.YtganfiajhokkmaaGreatDoor

/- TbI -/
namespace Go.Proofs.YtganfiajhokkmaaGreatDoor
open Go.RowKit Go.Deep
set_option maxRecDepth 100000

theorem cellOkP_any (x : CB) (w : World) (h : x.lies 0 w) : Calls Tryz.prog 64 #[.agg #[.bool x.has, .int .i64 x.t.t.k, .slice x.t.t.a x.t.t.len x.t.t.cap, .int .i64 x.t.t.n, .int .i64 x.t.t.s]] w (Tells (cellOk x) w) := by
  have HT : Hid (∀ W, Below w.heap.size w W → Calls Tryz.prog 65 #[.agg #[.int .i64 x.t.t.k, .slice x.t.t.a x.t.t.len x.t.t.cap, .int .i64 x.t.t.n, .int .i64 x.t.t.s]] W (Tells (x.t.td.ok = true) W)) := fun W hb => (implTermOk_any x.t.t.k x.t.t.n x.t.t.s x.t.t.a x.t.t.len x.t.t.cap x.t.b W (h.1.upper (Upper.of_below hb)).1 h.2.1 h.2.2.1 h.2.2.2.1 h.2.2.2.2).mono fun e w' ⟨h1, h2⟩ => ⟨_, h1, Iff.rfl, h2⟩
  have HZ : Hid (∀ W, Below w.heap.size w W → Calls Tryz.prog 76 #[.agg #[.int .i64 x.t.t.k, .slice x.t.t.a x.t.t.len x.t.t.cap, .int .i64 x.t.t.n, .int .i64 x.t.t.s]] W (Tells (zeroT x.t.td) W)) := fun W hb => isZeroT_any x.t W (h.1.upper (Upper.of_below hb))
  clear h
  obtain ⟨P, hP⟩ : ∃ P, P = cellOk x := ⟨_, rfl⟩
  have HP : Hid (P ↔ ((x.has = true → x.t.td.ok = true) ∧ (x.has = false → zeroT x.t.td))) := (show (P ↔ _) by rw [hP]; exact Iff.rfl)
  rw [← hP]
  clear hP
  cases hh : x.has with
  | true =>
    have HP2 : Hid (P ↔ x.t.td.ok = true) := ⟨fun h => (HP.out.1 h).1 hh, fun h => HP.out.2 ⟨fun _ => h, fun h2 => (by rw [hh] at h2; cases h2)⟩⟩
    clear hh HP
    go_enter Tryz.func64, Tryz.ntmps64
    go_wp2_with fail
    refine (HT.out _ (bl_a _)).mono ?_
    rintro e w1 ⟨q1, rfl, hq1, hb1⟩
    have HB : Hid (Below w.heap.size w w1) := bl_trans (bl_a _) hb1
    have HQ : Hid (q1 = true ↔ P) := (show (q1 = true ↔ P) from hq1.trans HP2.out.symm)
    clear hq1 hb1
    go_wp2_with fail
    go_ret
    exact Tells.of HQ.out HB.out
  | false =>
    have HP2 : Hid (P ↔ zeroT x.t.td) := ⟨fun h => (HP.out.1 h).2 hh, fun h => HP.out.2 ⟨fun h2 => (by rw [hh] at h2; cases h2), fun _ => h⟩⟩
    clear hh HP
    go_enter Tryz.func64, Tryz.ntmps64
    go_wp2_with fail
    refine (HZ.out _ (bl_a _)).mono ?_
    rintro e w1 ⟨q1, rfl, hq1, hb1⟩
    have HB : Hid (Below w.heap.size w w1) := bl_trans (bl_a _) hb1
    have HQ : Hid (q1 = true ↔ P) := (show (q1 = true ↔ P) from hq1.trans HP2.out.symm)
    clear hq1 hb1
    go_wp2_with fail
    go_ret
    exact Tells.of HQ.out HB.out
theorem noCell_any (x : CB) (w : World) (h : x.lies 0 w) : Calls Tryz.prog 63 #[.agg #[.bool x.has, .int .i64 x.t.t.k, .slice x.t.t.a x.t.t.len x.t.t.cap, .int .i64 x.t.t.n, .int .i64 x.t.t.s]] w (Tells (¬ cellOk x) w) := by
  have HP : Hid (∀ W, Below w.heap.size w W → Calls Tryz.prog 64 #[.agg #[.bool x.has, .int .i64 x.t.t.k, .slice x.t.t.a x.t.t.len x.t.t.cap, .int .i64 x.t.t.n, .int .i64 x.t.t.s]] W (Tells (cellOk x) W)) := fun W hb => cellOkP_any x W (h.upper (Upper.of_below hb))
  clear h
  go_enter Tryz.func63, Tryz.ntmps63
  go_wp2_with fail
  refine (HP.out _ (bl_a _)).mono ?_
  rintro e w1 ⟨q1, rfl, hq1, hb1⟩
  have HB : Hid (Below w.heap.size w w1) := bl_trans (bl_a _) hb1
  have HE : Hid ((!q1) = true ↔ ¬ cellOk x) := (show ((!q1) = true ↔ _) by
    rw [← hq1]
    cases q1 <;> simp)
  clear hq1 hb1 HP
  go_wp2_with fail
  go_ret
  exact Tells.of HE.out HB.out
set_option maxHeartbeats 4000000 in
theorem indexCell_any (a : Option Addr) (n cap : Nat) (f : Nat → CB)  (w : World) (hn : n ≤ 1048576) (hR : KRow 0 w 5 a n (fun i => (f i).cells)) (hk : ∀ i, i < n → (f i).lies 0 w)  :
    Calls Tryz.prog 75 #[.slice a n cap, .func (.func 63) #[] #[]] w (IdxAns (∀ i, i < n → cellOk (f i)) w) := by
  have HNP : Hid (∀ i, i < n → ∀ W, Below w.heap.size w W → Calls Tryz.prog 63 #[.agg #[.bool (f i).has, .int .i64 (f i).t.t.k, .slice (f i).t.t.a (f i).t.t.len (f i).t.t.cap, .int .i64 (f i).t.t.n, .int .i64 (f i).t.t.s]] W (Tells (¬ cellOk (f i)) W)) := fun i hi W hb => noCell_any (f i) W ((hk i hi).upper (Upper.of_below hb))
  by_cases hn1 : n = 0
  · subst hn1
    clear hR hk 
    go_enter Tryz.func75, Tryz.ntmps75
    go_wp2_with fail
    go_loopw [8] (fun i wr => i = .int .i64 0 ∧ Hid (Below w.heap.size w wr)) (fun _ _ => 0)
    case atStart => exact ⟨rfl, Below.refl _ _⟩
    case round =>
      obtain ⟨rfl, HB⟩ := hrel
      go_wp2_with fail
      go_ret
      exact IdxAns.of ⟨fun h => absurd h (by decide), fun h => absurd (fun i hi => absurd hi (Nat.not_lt_zero _)) h⟩ HB.out
  obtain ⟨b, off, rfl, _, hbk, hc⟩ := hR.resolve_left hn1
  have HCK : Hid (∀ i, i < n → ∀ c u, ((f i).cells)[c]? = some u → w.cell? ⟨b, off + i * 5 + c, none⟩ = some u) := hc
  clear hc hR hk hn1 
  go_enter Tryz.func75, Tryz.ntmps75
  go_wp2_with fail
  go_loopw [8] (fun i wr => ∃ k : Nat, k ≤ n ∧ i = .int .i64 k ∧ Hid (∀ j, j < k → cellOk (f j)) ∧ Hid (Below w.heap.size w wr)) (fun i _ => n - (intOf i).toNat)
  case atStart => exact ⟨0, Nat.zero_le _, rfl, fun j hj => absurd hj (Nat.not_lt_zero _), Below.refl _ _⟩
  case round =>
    obtain ⟨k, hk, rfl, HOK, HB⟩ := hrel
    by_cases hlk : k < n
    rotate_left
    · obtain rfl : k = n := by omega
      have hlkz : ¬ (k : Int) < (k : Int) := by omega
      go_wp2_with fail
      go_ret
      exact IdxAns.of ⟨fun h => absurd h (by decide), fun h => absurd HOK.out h⟩ HB.out
    have hlkz : (k : Int) < (n : Int) := by omega
    have hcx : wr.rangeAt b (off + k * 5) [.bool (f k).has, .int .i64 (f k).t.t.k, .slice (f k).t.t.a (f k).t.t.len (f k).t.t.cap, .int .i64 (f k).t.t.n, .int .i64 (f k).t.t.s] := fun c u hu => (HB.out.cell (p := ⟨b, off + k * 5 + c, none⟩) hbk).trans (HCK.out k hlk c u hu)
    go_wp2_with (with_reducible refine wpl_at ?_; refine wpList_load_mid rfl 54 _ rfl _ _ rfl [.bool (f k).has, .int .i64 (f k).t.t.k, .slice (f k).t.t.a (f k).t.t.len (f k).t.t.cap, .int .i64 (f k).t.t.n, .int .i64 (f k).t.t.s] _ hcx Tryz.underlying54 rfl (by kernel_rfl) ?_; try simp only [Act.put, List.setIfInBounds_toArray, List.set_cons_zero, List.set_cons_succ])
    refine (HNP.out k hlk wr HB.out).mono ?_
    rintro e w1 ⟨q1, rfl, hq1, hb1⟩
    have HB1 : Hid (Below w.heap.size w w1) := bl_trans HB.out hb1
    clear hb1 hcx HB
    cases q1 with
    | true =>
      have HNO : Hid (¬ cellOk (f k)) := hq1.1 rfl
      clear hq1
      go_wp2_with fail
      go_ret
      exact IdxAns.of ⟨fun _ h => HNO.out (h k hlk), fun _ => by omega⟩ HB1.out
    | false =>
      have HYE : Hid (cellOk (f k)) := (show cellOk (f k) from Classical.byContradiction fun hh => by have h := hq1.2 hh; cases h)
      clear hq1
      go_wp2_with fail
      go_roundw
      case rel =>
        refine ⟨k + 1, by omega, by go_num, fun j hj => ?_, HB1⟩
        by_cases e : j = k
        · subst e
          exact HYE.out
        · exact HOK.out j (by omega)
      case measure => simp [intOf]; omega
theorem containsCell_any (a : Option Addr) (n cap : Nat) (f : Nat → CB)  (w : World) (hn : n ≤ 1048576) (hR : KRow 0 w 5 a n (fun i => (f i).cells)) (hk : ∀ i, i < n → (f i).lies 0 w)  :
    Calls Tryz.prog 62 #[.slice a n cap, .func (.func 63) #[] #[]] w (Tells (¬ ∀ i, i < n → cellOk (f i)) w) := by
  have IX := indexCell_any a n cap f  w hn hR hk 
  obtain ⟨P, hP⟩ : ∃ P : Prop, P = (∀ i, i < n → cellOk (f i)) := ⟨_, rfl⟩
  rw [← hP] at IX ⊢
  clear hP hR hk hn 
  go_enter Tryz.func62, Tryz.ntmps62
  go_wp2_with fail
  refine IX.mono ?_
  rintro e w1 ⟨v, rfl, hv, hb⟩
  have HV : Hid (0 ≤ v ↔ ¬ P) := hv
  have HB : Hid (Below w.heap.size w w1) := hb
  clear IX hv hb
  go_wp2_with fail
  go_ret
  refine Tells.of ?_ HB.out
  rw [← HV.out]
  simp
set_option maxHeartbeats 1000000 in
theorem isOver_any (s : SO) (va : Option Addr) (vn vc : Nat) (w : World) (h : s.lies 0 w) : Calls Tryz.prog 46 #[.agg #[.slice s.a s.n s.cap], .slice va vn vc] w (Tells (solOk s vn) w) := by
  have CN : Hid (∀ W, Below w.heap.size w W → Calls Tryz.prog 62 #[.slice s.a s.n s.cap, .func (.func 63) #[] #[]] W (Tells (¬ ∀ i, i < s.n → cellOk (s.cel i)) W)) := fun W hb => containsCell_any s.a s.n s.cap s.cel W h.2.2 (h.1.upper (Upper.of_below hb)) (fun i hi => (h.2.1 i hi).upper (Upper.of_below hb))
  have hn := h.2.2
  obtain ⟨P, hP⟩ : ∃ P, P = solOk s vn := ⟨_, rfl⟩
  have HP : Hid (P ↔ (s.n = vn ∧ ∀ i, i < s.n → cellOk (s.cel i))) := (show (P ↔ _) by rw [hP]; exact Iff.rfl)
  rw [← hP]
  clear hP h
  by_cases hsn : s.n = vn
  rotate_left
  · have hne : ((s.n : Int) == (vn : Int)) = false := by simp; omega
    have HNO : Hid (¬ P) := fun hh => hsn (HP.out.1 hh).1
    clear hsn
    go_enter Tryz.func46, Tryz.ntmps46
    go_wp2_with fail
    go_ret
    exact Tells.no HNO.out (bl_a _)
  have hne : ((s.n : Int) == (vn : Int)) = true := by simp; omega
  have HSN : Hid (s.n = vn) := hsn
  clear hsn
  go_enter Tryz.func46, Tryz.ntmps46
  go_wp2_with fail
  refine (CN.out _ (bl_a _)).mono ?_
  rintro e w1 ⟨q1, rfl, hq1, hb1⟩
  have HB : Hid (Below w.heap.size w w1) := bl_trans (bl_a _) hb1
  have HE : Hid ((!q1) = true ↔ P) := (show ((!q1) = true ↔ P) by
    rw [HP.out]
    cases q1 with
    | true => exact ⟨fun h => (by cases h), fun h => absurd h.2 (hq1.1 rfl)⟩
    | false => exact ⟨fun _ => ⟨HSN.out, Classical.byContradiction fun h => (by have := hq1.2 h; cases this)⟩, fun _ => rfl⟩)
  clear hq1 hb1 CN
  go_wp2_with fail
  go_ret
  exact Tells.of HE.out HB.out
theorem noSol_any (s : SO) (c vn vc : Nat) (va : Option Addr) (w : World) (h : s.lies 0 w) (hcl : c < w.heap.size) (hc : w.cell? ⟨c, 0, none⟩ = some (.slice va vn vc)) : Calls Tryz.prog 45 #[.agg #[.slice s.a s.n s.cap], .pointer (some ⟨c, 0, none⟩)] w (Tells (¬ solOk s vn) w) := by
  have HP : Hid (∀ W, Below w.heap.size w W → Calls Tryz.prog 46 #[.agg #[.slice s.a s.n s.cap], .slice va vn vc] W (Tells (solOk s vn) W)) := fun W hb => isOver_any s va vn vc W (h.upper (Upper.of_below hb))
  have hc1 := fun o => ((bl_a (w := w) o).cell (p := ⟨c, 0, none⟩) hcl).trans hc
  clear h hc
  go_enter Tryz.func45, Tryz.ntmps45
  go_wp2_with fail
  refine (HP.out _ (bl_a _)).mono ?_
  rintro e w1 ⟨q1, rfl, hq1, hb1⟩
  have HB : Hid (Below w.heap.size w w1) := bl_trans (bl_a _) hb1
  have HE : Hid ((!q1) = true ↔ ¬ solOk s vn) := (show ((!q1) = true ↔ _) by
    rw [← hq1]
    cases q1 <;> simp)
  clear hq1 hb1 HP hc1
  go_wp2_with fail
  go_ret
  exact Tells.of HE.out HB.out
set_option maxHeartbeats 4000000 in
theorem indexSol_any (a : Option Addr) (n cap : Nat) (f : Nat → SO) (c vn vc : Nat) (va : Option Addr) (w : World) (hn : n ≤ 1048576) (hR : KRow 0 w 1 a n (fun i => (f i).cells)) (hk : ∀ i, i < n → (f i).lies 0 w) (hcl : c < w.heap.size) (hcc : w.cell? ⟨c, 0, none⟩ = some (.slice va vn vc)) :
    Calls Tryz.prog 61 #[.slice a n cap, .func (.func 45) #[] #[.pointer (some ⟨c, 0, none⟩)]] w (IdxAns (∀ i, i < n → solOk (f i) vn) w) := by
  have HNP : Hid (∀ i, i < n → ∀ W, Below w.heap.size w W → Calls Tryz.prog 45 #[.agg #[.slice (f i).a (f i).n (f i).cap], .pointer (some ⟨c, 0, none⟩)] W (Tells (¬ solOk (f i) vn) W)) := fun i hi W hb => noSol_any (f i) c vn vc va W ((hk i hi).upper (Upper.of_below hb)) (Nat.lt_of_lt_of_le hcl hb.size) ((hb.cell (p := ⟨c, 0, none⟩) hcl).trans hcc)
  by_cases hn1 : n = 0
  · subst hn1
    clear hR hk hcl hcc
    go_enter Tryz.func61, Tryz.ntmps61
    go_wp2_with fail
    go_loopw [8] (fun i wr => i = .int .i64 0 ∧ Hid (Below w.heap.size w wr)) (fun _ _ => 0)
    case atStart => exact ⟨rfl, Below.refl _ _⟩
    case round =>
      obtain ⟨rfl, HB⟩ := hrel
      go_wp2_with fail
      go_ret
      exact IdxAns.of ⟨fun h => absurd h (by decide), fun h => absurd (fun i hi => absurd hi (Nat.not_lt_zero _)) h⟩ HB.out
  obtain ⟨b, off, rfl, _, hbk, hc⟩ := hR.resolve_left hn1
  have HCK : Hid (∀ i, i < n → ∀ c u, ((f i).cells)[c]? = some u → w.cell? ⟨b, off + i + c, none⟩ = some u) := fun i hi c u hu => (by have h := hc i hi c u hu; rwa [Nat.mul_one] at h)
  clear hc hR hk hn1 hcl hcc
  go_enter Tryz.func61, Tryz.ntmps61
  go_wp2_with fail
  go_loopw [8] (fun i wr => ∃ k : Nat, k ≤ n ∧ i = .int .i64 k ∧ Hid (∀ j, j < k → solOk (f j) vn) ∧ Hid (Below w.heap.size w wr)) (fun i _ => n - (intOf i).toNat)
  case atStart => exact ⟨0, Nat.zero_le _, rfl, fun j hj => absurd hj (Nat.not_lt_zero _), Below.refl _ _⟩
  case round =>
    obtain ⟨k, hk, rfl, HOK, HB⟩ := hrel
    by_cases hlk : k < n
    rotate_left
    · obtain rfl : k = n := by omega
      have hlkz : ¬ (k : Int) < (k : Int) := by omega
      go_wp2_with fail
      go_ret
      exact IdxAns.of ⟨fun h => absurd h (by decide), fun h => absurd HOK.out h⟩ HB.out
    have hlkz : (k : Int) < (n : Int) := by omega
    have hcx : wr.rangeAt b (off + k) [.slice (f k).a (f k).n (f k).cap] := fun c u hu => (HB.out.cell (p := ⟨b, off + k + c, none⟩) hbk).trans (HCK.out k hlk c u hu)
    go_wp2_with (with_reducible refine wpl_at ?_; refine wpList_load_mid rfl 44 _ rfl _ _ rfl [.slice (f k).a (f k).n (f k).cap] _ hcx Tryz.underlying44 rfl (by kernel_rfl) ?_; try simp only [Act.put, List.setIfInBounds_toArray, List.set_cons_zero, List.set_cons_succ])
    refine (HNP.out k hlk wr HB.out).mono ?_
    rintro e w1 ⟨q1, rfl, hq1, hb1⟩
    have HB1 : Hid (Below w.heap.size w w1) := bl_trans HB.out hb1
    clear hb1 hcx HB
    cases q1 with
    | true =>
      have HNO : Hid (¬ solOk (f k) vn) := hq1.1 rfl
      clear hq1
      go_wp2_with fail
      go_ret
      exact IdxAns.of ⟨fun _ h => HNO.out (h k hlk), fun _ => by omega⟩ HB1.out
    | false =>
      have HYE : Hid (solOk (f k) vn) := (show solOk (f k) vn from Classical.byContradiction fun hh => by have h := hq1.2 hh; cases h)
      clear hq1
      go_wp2_with fail
      go_roundw
      case rel =>
        refine ⟨k + 1, by omega, by go_num, fun j hj => ?_, HB1⟩
        by_cases e : j = k
        · subst e
          exact HYE.out
        · exact HOK.out j (by omega)
      case measure => simp [intOf]; omega
theorem containsSol_any (a : Option Addr) (n cap : Nat) (f : Nat → SO) (c vn vc : Nat) (va : Option Addr) (w : World) (hn : n ≤ 1048576) (hR : KRow 0 w 1 a n (fun i => (f i).cells)) (hk : ∀ i, i < n → (f i).lies 0 w) (hcl : c < w.heap.size) (hcc : w.cell? ⟨c, 0, none⟩ = some (.slice va vn vc)) :
    Calls Tryz.prog 44 #[.slice a n cap, .func (.func 45) #[] #[.pointer (some ⟨c, 0, none⟩)]] w (Tells (¬ ∀ i, i < n → solOk (f i) vn) w) := by
  have IX := indexSol_any a n cap f c vn vc va w hn hR hk hcl hcc
  obtain ⟨P, hP⟩ : ∃ P : Prop, P = (∀ i, i < n → solOk (f i) vn) := ⟨_, rfl⟩
  rw [← hP] at IX ⊢
  clear hP hR hk hn hcl hcc
  go_enter Tryz.func44, Tryz.ntmps44
  go_wp2_with fail
  refine IX.mono ?_
  rintro e w1 ⟨v, rfl, hv, hb⟩
  have HV : Hid (0 ≤ v ↔ ¬ P) := hv
  have HB : Hid (Below w.heap.size w w1) := hb
  clear IX hv hb
  go_wp2_with fail
  go_ret
  refine Tells.of ?_ HB.out
  rw [← HV.out]
  simp
set_option maxHeartbeats 1000000 in
theorem rowsOk_any (a : Option Addr) (n cap : Nat) (f : Nat → SO) (vn vc : Nat) (va : Option Addr) (w : World) (hn : n ≤ 1048576) (hR : KRow 0 w 1 a n (fun i => (f i).cells)) (hk : ∀ i, i < n → (f i).lies 0 w) :
    Calls Tryz.prog 21 #[.slice a n cap, .slice va vn vc] w (Tells (n ≤ 300 ∧ ∀ i, i < n → solOk (f i) vn) w) := by
  have CN : Hid (∀ o, (w.alloc o).cell? ⟨w.heap.size, 0, none⟩ = some (.slice va vn vc) → Calls Tryz.prog 44 #[.slice a n cap, .func (.func 45) #[] #[.pointer (some ⟨w.heap.size, 0, none⟩)]] (w.alloc o) (Tells (¬ ∀ i, i < n → solOk (f i) vn) (w.alloc o))) := fun o ho => containsSol_any a n cap f w.heap.size vn vc va (w.alloc o) hn (hR.upper (Upper.of_below (bl_a o))) (fun i hi => (hk i hi).upper (Upper.of_below (bl_a o))) (by simp) ho
  obtain ⟨P, hP⟩ : ∃ P : Prop, P = (∀ i, i < n → solOk (f i) vn) := ⟨_, rfl⟩
  rw [← hP] at CN ⊢
  clear hP hR hk hn
  by_cases hl : n ≤ 300
  · have hlz : (n : Int) ≤ 300 := by omega
    have HL : Hid (n ≤ 300) := hl
    clear hl
    go_enter Tryz.func21, Tryz.ntmps21
    go_wp2_with fail
    refine (CN.out _ (by simp [go_sem])).mono ?_
    rintro e w1 ⟨q1, rfl, hq1, hb1⟩
    have HB : Hid (Below w.heap.size w w1) := bl_trans (bl_a _) hb1
    have HE : Hid ((!q1) = true ↔ (n ≤ 300 ∧ P)) := (show ((!q1) = true ↔ _) by
      cases q1 with
      | true => exact ⟨fun h => (by cases h), fun h => absurd h.2 (hq1.1 rfl)⟩
      | false => exact ⟨fun _ => ⟨HL.out, Classical.byContradiction fun h => (by have := hq1.2 h; cases this)⟩, fun _ => rfl⟩)
    clear hq1 hb1 CN
    go_wp2_with fail
    go_ret
    exact Tells.of HE.out HB.out
  · have hlz : ¬ (n : Int) ≤ 300 := by omega
    have HNO : Hid (¬ (n ≤ 300 ∧ P)) := fun hh => hl hh.1
    clear hl
    go_enter Tryz.func21, Tryz.ntmps21
    go_wp2_with fail
    go_ret
    exact Tells.no HNO.out (bl_a _)
end Go.Proofs.YtganfiajhokkmaaGreatDoor
