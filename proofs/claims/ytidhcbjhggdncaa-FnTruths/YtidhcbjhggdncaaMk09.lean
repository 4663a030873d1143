/- Texts put together: TvI TvD TvE -/
import Derived.Test.YtidhcbjhggdncaaMk06
import Derived.Test.YtidhcbjhggdncaaMk05
import Derived.Test.YtidhcbjhggdncaaMk08
/- TvI -/
namespace Go.Proofs.Ytidhcbjhggdncaa
open Go.RowKit Go.Deep
set_option maxRecDepth 100000

theorem cellOkP_any (x : CB) (w : World) (h : x.lies 0 w) : Calls Try.prog 29 #[.agg #[.bool x.has, .int .i64 x.t.t.k, .slice x.t.t.a x.t.t.len x.t.t.cap, .int .i64 x.t.t.n, .int .i64 x.t.t.s]] w (Tells (cellOk x) w) := by
  have HT : Hid (∀ W, Below w.heap.size w W → Calls Try.prog 55 #[.agg #[.int .i64 x.t.t.k, .slice x.t.t.a x.t.t.len x.t.t.cap, .int .i64 x.t.t.n, .int .i64 x.t.t.s]] W (Tells (x.t.td.ok = true) W)) := fun W hb => (implTermOk_any x.t.t.k x.t.t.n x.t.t.s x.t.t.a x.t.t.len x.t.t.cap x.t.b W (h.1.upper (Upper.of_below hb)).1 h.2.1 h.2.2.1 h.2.2.2.1 h.2.2.2.2).mono fun e w' ⟨h1, h2⟩ => ⟨_, h1, Iff.rfl, h2⟩
  have HZ : Hid (∀ W, Below w.heap.size w W → Calls Try.prog 56 #[.agg #[.int .i64 x.t.t.k, .slice x.t.t.a x.t.t.len x.t.t.cap, .int .i64 x.t.t.n, .int .i64 x.t.t.s]] W (Tells (zeroT x.t.td) W)) := fun W hb => isZeroT_any x.t W (h.1.upper (Upper.of_below hb))
  clear h
  obtain ⟨P, hP⟩ : ∃ P, P = cellOk x := ⟨_, rfl⟩
  have HP : Hid (P ↔ ((x.has = true → x.t.td.ok = true) ∧ (x.has = false → zeroT x.t.td))) := (show (P ↔ _) by rw [hP]; exact Iff.rfl)
  rw [← hP]
  clear hP
  cases hh : x.has with
  | true =>
    have HP2 : Hid (P ↔ x.t.td.ok = true) := ⟨fun h => (HP.out.1 h).1 hh, fun h => HP.out.2 ⟨fun _ => h, fun h2 => (by rw [hh] at h2; cases h2)⟩⟩
    clear hh HP
    go_enter Try.func29, Try.ntmps29
    go_wp2_with fail
    refine (HT.out _ (bl_a _)).mono ?_
    rintro e w1 ⟨q1, rfl, hq1, hb1⟩
    have HB : Hid (Below w.heap.size w w1) := bl_trans (bl_a _) hb1
    have HQ : Hid (q1 = true ↔ P) := (show (q1 = true ↔ P) from hq1.trans HP2.out.symm)
    clear hq1 hb1
    go_wp2_with fail
    go_ret
    exact Tells.of HQ.out HB.out
  | false =>
    have HP2 : Hid (P ↔ zeroT x.t.td) := ⟨fun h => (HP.out.1 h).2 hh, fun h => HP.out.2 ⟨fun h2 => (by rw [hh] at h2; cases h2), fun _ => h⟩⟩
    clear hh HP
    go_enter Try.func29, Try.ntmps29
    go_wp2_with fail
    refine (HZ.out _ (bl_a _)).mono ?_
    rintro e w1 ⟨q1, rfl, hq1, hb1⟩
    have HB : Hid (Below w.heap.size w w1) := bl_trans (bl_a _) hb1
    have HQ : Hid (q1 = true ↔ P) := (show (q1 = true ↔ P) from hq1.trans HP2.out.symm)
    clear hq1 hb1
    go_wp2_with fail
    go_ret
    exact Tells.of HQ.out HB.out
theorem noCell_any (x : CB) (w : World) (h : x.lies 0 w) : Calls Try.prog 28 #[.agg #[.bool x.has, .int .i64 x.t.t.k, .slice x.t.t.a x.t.t.len x.t.t.cap, .int .i64 x.t.t.n, .int .i64 x.t.t.s]] w (Tells (¬ cellOk x) w) := by
  have HP : Hid (∀ W, Below w.heap.size w W → Calls Try.prog 29 #[.agg #[.bool x.has, .int .i64 x.t.t.k, .slice x.t.t.a x.t.t.len x.t.t.cap, .int .i64 x.t.t.n, .int .i64 x.t.t.s]] W (Tells (cellOk x) W)) := fun W hb => cellOkP_any x W (h.upper (Upper.of_below hb))
  clear h
  go_enter Try.func28, Try.ntmps28
  go_wp2_with fail
  refine (HP.out _ (bl_a _)).mono ?_
  rintro e w1 ⟨q1, rfl, hq1, hb1⟩
  have HB : Hid (Below w.heap.size w w1) := bl_trans (bl_a _) hb1
  have HE : Hid ((!q1) = true ↔ ¬ cellOk x) := (show ((!q1) = true ↔ _) by
    rw [← hq1]
    cases q1 <;> simp)
  clear hq1 hb1 HP
  go_wp2_with fail
  go_ret
  exact Tells.of HE.out HB.out
set_option maxHeartbeats 4000000 in
theorem indexCell_any (a : Option Addr) (n cap : Nat) (f : Nat → CB)  (w : World) (hn : n ≤ 1048576) (hR : KRow 0 w 5 a n (fun i => (f i).cells)) (hk : ∀ i, i < n → (f i).lies 0 w)  :
    Calls Try.prog 54 #[.slice a n cap, .func (.func 28) #[] #[]] w (IdxAns (∀ i, i < n → cellOk (f i)) w) := by
  have HNP : Hid (∀ i, i < n → ∀ W, Below w.heap.size w W → Calls Try.prog 28 #[.agg #[.bool (f i).has, .int .i64 (f i).t.t.k, .slice (f i).t.t.a (f i).t.t.len (f i).t.t.cap, .int .i64 (f i).t.t.n, .int .i64 (f i).t.t.s]] W (Tells (¬ cellOk (f i)) W)) := fun i hi W hb => noCell_any (f i) W ((hk i hi).upper (Upper.of_below hb))
  by_cases hn1 : n = 0
  · subst hn1
    clear hR hk 
    go_enter Try.func54, Try.ntmps54
    go_wp2_with fail
    go_loopw [8] (fun i wr => i = .int .i64 0 ∧ Hid (Below w.heap.size w wr)) (fun _ _ => 0)
    case atStart => exact ⟨rfl, Below.refl _ _⟩
    case round =>
      obtain ⟨rfl, HB⟩ := hrel
      go_wp2_with fail
      go_ret
      exact IdxAns.of ⟨fun h => absurd h (by decide), fun h => absurd (fun i hi => absurd hi (Nat.not_lt_zero _)) h⟩ HB.out
  obtain ⟨b, off, rfl, _, hbk, hc⟩ := hR.resolve_left hn1
  have HCK : Hid (∀ i, i < n → ∀ c u, ((f i).cells)[c]? = some u → w.cell? ⟨b, off + i * 5 + c, none⟩ = some u) := hc
  clear hc hR hk hn1 
  go_enter Try.func54, Try.ntmps54
  go_wp2_with fail
  go_loopw [8] (fun i wr => ∃ k : Nat, k ≤ n ∧ i = .int .i64 k ∧ Hid (∀ j, j < k → cellOk (f j)) ∧ Hid (Below w.heap.size w wr)) (fun i _ => n - (intOf i).toNat)
  case atStart => exact ⟨0, Nat.zero_le _, rfl, fun j hj => absurd hj (Nat.not_lt_zero _), Below.refl _ _⟩
  case round =>
    obtain ⟨k, hk, rfl, HOK, HB⟩ := hrel
    by_cases hlk : k < n
    rotate_left
    · obtain rfl : k = n := by omega
      have hlkz : ¬ (k : Int) < (k : Int) := by omega
      go_wp2_with fail
      go_ret
      exact IdxAns.of ⟨fun h => absurd h (by decide), fun h => absurd HOK.out h⟩ HB.out
    have hlkz : (k : Int) < (n : Int) := by omega
    have hcx : wr.rangeAt b (off + k * 5) [.bool (f k).has, .int .i64 (f k).t.t.k, .slice (f k).t.t.a (f k).t.t.len (f k).t.t.cap, .int .i64 (f k).t.t.n, .int .i64 (f k).t.t.s] := fun c u hu => (HB.out.cell (p := ⟨b, off + k * 5 + c, none⟩) hbk).trans (HCK.out k hlk c u hu)
    go_wp2_with (with_reducible refine wpl_at ?_; refine wpList_load_mid rfl 56 _ rfl _ _ rfl [.bool (f k).has, .int .i64 (f k).t.t.k, .slice (f k).t.t.a (f k).t.t.len (f k).t.t.cap, .int .i64 (f k).t.t.n, .int .i64 (f k).t.t.s] _ hcx Try.underlying56 rfl (by kernel_rfl) ?_; try simp only [Act.put, List.setIfInBounds_toArray, List.set_cons_zero, List.set_cons_succ])
    refine (HNP.out k hlk wr HB.out).mono ?_
    rintro e w1 ⟨q1, rfl, hq1, hb1⟩
    have HB1 : Hid (Below w.heap.size w w1) := bl_trans HB.out hb1
    clear hb1 hcx HB
    cases q1 with
    | true =>
      have HNO : Hid (¬ cellOk (f k)) := hq1.1 rfl
      clear hq1
      go_wp2_with fail
      go_ret
      exact IdxAns.of ⟨fun _ h => HNO.out (h k hlk), fun _ => by omega⟩ HB1.out
    | false =>
      have HYE : Hid (cellOk (f k)) := (show cellOk (f k) from Classical.byContradiction fun hh => by have h := hq1.2 hh; cases h)
      clear hq1
      go_wp2_with fail
      go_roundw
      case rel =>
        refine ⟨k + 1, by omega, by go_num, fun j hj => ?_, HB1⟩
        by_cases e : j = k
        · subst e
          exact HYE.out
        · exact HOK.out j (by omega)
      case measure => simp [intOf]; omega
theorem containsCell_any (a : Option Addr) (n cap : Nat) (f : Nat → CB)  (w : World) (hn : n ≤ 1048576) (hR : KRow 0 w 5 a n (fun i => (f i).cells)) (hk : ∀ i, i < n → (f i).lies 0 w)  :
    Calls Try.prog 27 #[.slice a n cap, .func (.func 28) #[] #[]] w (Tells (¬ ∀ i, i < n → cellOk (f i)) w) := by
  have IX := indexCell_any a n cap f  w hn hR hk 
  obtain ⟨P, hP⟩ : ∃ P : Prop, P = (∀ i, i < n → cellOk (f i)) := ⟨_, rfl⟩
  rw [← hP] at IX ⊢
  clear hP hR hk hn 
  go_enter Try.func27, Try.ntmps27
  go_wp2_with fail
  refine IX.mono ?_
  rintro e w1 ⟨v, rfl, hv, hb⟩
  have HV : Hid (0 ≤ v ↔ ¬ P) := hv
  have HB : Hid (Below w.heap.size w w1) := hb
  clear IX hv hb
  go_wp2_with fail
  go_ret
  refine Tells.of ?_ HB.out
  rw [← HV.out]
  simp
set_option maxHeartbeats 1000000 in
theorem isOver_any (s : SO) (va : Option Addr) (vn vc : Nat) (w : World) (h : s.lies 0 w) : Calls Try.prog 12 #[.agg #[.slice s.a s.n s.cap], .slice va vn vc] w (Tells (solOk s vn) w) := by
  have CN : Hid (∀ W, Below w.heap.size w W → Calls Try.prog 27 #[.slice s.a s.n s.cap, .func (.func 28) #[] #[]] W (Tells (¬ ∀ i, i < s.n → cellOk (s.cel i)) W)) := fun W hb => containsCell_any s.a s.n s.cap s.cel W h.2.2 (h.1.upper (Upper.of_below hb)) (fun i hi => (h.2.1 i hi).upper (Upper.of_below hb))
  have hn := h.2.2
  obtain ⟨P, hP⟩ : ∃ P, P = solOk s vn := ⟨_, rfl⟩
  have HP : Hid (P ↔ (s.n = vn ∧ ∀ i, i < s.n → cellOk (s.cel i))) := (show (P ↔ _) by rw [hP]; exact Iff.rfl)
  rw [← hP]
  clear hP h
  by_cases hsn : s.n = vn
  rotate_left
  · have hne : ((s.n : Int) == (vn : Int)) = false := by simp; omega
    have HNO : Hid (¬ P) := fun hh => hsn (HP.out.1 hh).1
    clear hsn
    go_enter Try.func12, Try.ntmps12
    go_wp2_with fail
    go_ret
    exact Tells.no HNO.out (bl_a _)
  have hne : ((s.n : Int) == (vn : Int)) = true := by simp; omega
  have HSN : Hid (s.n = vn) := hsn
  clear hsn
  go_enter Try.func12, Try.ntmps12
  go_wp2_with fail
  refine (CN.out _ (bl_a _)).mono ?_
  rintro e w1 ⟨q1, rfl, hq1, hb1⟩
  have HB : Hid (Below w.heap.size w w1) := bl_trans (bl_a _) hb1
  have HE : Hid ((!q1) = true ↔ P) := (show ((!q1) = true ↔ P) by
    rw [HP.out]
    cases q1 with
    | true => exact ⟨fun h => (by cases h), fun h => absurd h.2 (hq1.1 rfl)⟩
    | false => exact ⟨fun _ => ⟨HSN.out, Classical.byContradiction fun h => (by have := hq1.2 h; cases this)⟩, fun _ => rfl⟩)
  clear hq1 hb1 CN
  go_wp2_with fail
  go_ret
  exact Tells.of HE.out HB.out
theorem vq_fresh {w0 w : World} (hb : Below w0.heap.size w0 w) (t : TypeId) : VQ w0 (w.alloc (.cells #[.slice none 0 0] t)) w.heap.size w.heap.size (.slice none 0 0) [] :=
  ⟨by simp [go_sem], by simp [go_sem], by simp, VL.nil _ _ _, fun e => (by cases e), hb.size, hb.size, hb.trans ((bl_a _).mono hb.size), by simp⟩
theorem inVB {var : Nat → SL} {k : Nat} {b : List Int} {L : List SL} (h : L.map SL.b = ((List.range k).map fun i => (var i).b)) : InL b L ↔ ∃ j, j < k ∧ (var j).b = b := by
  unfold InL
  rw [h]
  simp only [List.mem_map, List.mem_range]
theorem addVB {var : Nat → SL} {k : Nat} {L : List SL} (h : L.map SL.b = ((List.range k).map fun i => (var i).b)) (hv : varOk var k) : addV (L.map SL.b) (var k).b = ((List.range (k + 1)).map fun i => (var i).b) := by
  have h1 : (var k).b ≠ [] := name_pos hv.1
  have h2 : ¬ (var k).b ∈ L.map SL.b := fun hh => by
    obtain ⟨j, hj, e⟩ := (inVB h).1 hh
    exact hv.2 j hj e
  unfold addV
  rw [if_neg (by rintro (h3 | h3); exact h1 h3; exact h2 h3), h, List.range_succ, List.map_append]
  rfl
set_option maxHeartbeats 4000000 in
theorem varsOkP_any (a : Option Addr) (n cap : Nat) (var : Nat → SL) (w : World) (hR : KRow 0 w 1 a n (fun i => (var i).cells)) (hl : ∀ i, i < n → (var i).lies 0 w) (hn : n ≤ 1048576) :
    Calls Try.prog 11 #[.slice a n cap] w (Tells (varsOkL n var) w) := by
  by_cases h8 : n ≤ 8
  rotate_left
  · have h8z : (n : Int) > 8 := by omega
    clear hR hl
    go_enter Try.func11, Try.ntmps11
    go_wp2
    go_ret
    exact Tells.no (fun hh => h8 hh.1) (Below.refl _ _)
  have h8z : ¬ (n : Int) > 8 := by omega
  have HQ0 : Hid (VQ w (w.alloc (.cells #[.slice none 0 0] 43)) w.heap.size w.heap.size (.slice none 0 0) []) := vq_fresh (Below.refl _ _) _
  by_cases hn0 : n = 0
  · subst hn0
    have HY : Hid (varsOkL 0 var) := ⟨by omega, fun i hi => absurd hi (Nat.not_lt_zero _)⟩
    clear hR hl hn h8 h8z
    go_enter Try.func11, Try.ntmps11
    go_wp2
    go_loopw [11] (fun i wr => i = .int .i64 0 ∧ Hid (Below w.heap.size w wr)) (fun _ _ => 0)
    case atStart => exact ⟨rfl, bl_a _⟩
    case round =>
      obtain ⟨rfl, HB⟩ := hrel
      go_wp2_with fail
      go_ret
      exact Tells.yes HY.out HB.out
  obtain ⟨b, off, rfl, _, hlt, hc⟩ := hR.resolve_left hn0
  have HC : Hid (∀ i, i < n → w.cell? ⟨b, off + i, none⟩ = some (.slice (var i).a (var i).len (var i).cap)) := fun i hi => (by have h := hc i hi 0 _ rfl; rwa [Nat.mul_one] at h)
  have HL : Hid (∀ i, i < n → (var i).lies 0 w) := hl
  clear hR hc hl
  go_enter Try.func11, Try.ntmps11
  go_wp2_with fail
  go_loopw [11] (fun i wr => ∃ (k : Nat) (v : Value) (L : List SL), k ≤ n ∧ i = .int .i64 k ∧ Hid (VQ w wr w.heap.size w.heap.size v L) ∧ Hid (L.map SL.b = ((List.range k).map fun i => (var i).b)) ∧ Hid (∀ j, j < k → varOk var j)) (fun i _ => n - (intOf i).toNat)
  case atStart => exact ⟨0, _, [], Nat.zero_le _, rfl, HQ0, rfl, fun j hj => absurd hj (Nat.not_lt_zero _)⟩
  case round =>
    clear HQ0
    obtain ⟨k, v, L, hk, rfl, HQ, HLV, HOK⟩ := hrel
    have HB : Hid (Below w.heap.size w wr) := HQ.out.bl
    by_cases hlk : k < n
    rotate_left
    · obtain rfl : k = n := by omega
      have hlkz : ¬ (k : Int) < (k : Int) := by omega
      go_wp2_with fail
      go_ret
      exact Tells.yes ⟨h8, HOK.out⟩ HB.out
    have hlkz : (k : Int) < (n : Int) := by omega
    have y0 : wr.cell? ⟨b, off + k, none⟩ = some (.slice (var k).a (var k).len (var k).cap) := (HB.out.cell (p := ⟨b, off + k, none⟩) hlt).trans (HC.out k hlk)
    have IN := isName_any (var k).a (var k).len (var k).cap (var k).b wr (BsF.upper (HL.out k hlk) (Upper.of_below HB.out)).1
    have hLl : L.length ≤ 8 := by
      have h1 := congrArg List.length HLV.out
      simp at h1
      omega
    cases hnm : nameOk (var k).b with
    | false =>
      rw [hnm] at IN
      have HNO : Hid (¬ varsOkL n var) := fun hh => by have h := (hh.2 k hlk).1; rw [hnm] at h; cases h
      clear hnm
      go_wp2_with fail
      refine IN.mono ?_
      rintro e w2 ⟨rfl, h2⟩
      subst w2
      clear IN y0
      go_wp2_with fail
      go_ret
      exact Tells.no HNO.out HB.out
    | true =>
      rw [hnm] at IN
      have HNM : Hid (nameOk (var k).b = true) := hnm
      clear hnm
      have x0 := HQ.out.cell
      obtain ⟨av, cv, hvv, _⟩ := HQ.out.vl.form
      have HHA := hid (has_any v L (var k) w.heap.size w wr HQ.out.vl HQ.out.bl (HL.out k hlk) (by omega))
      have HAD : Hid (∀ W, Below wr.heap.size wr W → Calls Try.prog 26 #[.pointer (some ⟨w.heap.size, 0, none⟩), .slice (var k).a (var k).len (var k).cap] W (AddQ w w.heap.size w.heap.size v (addV (L.map SL.b) (var k).b) W)) := fun W hb => add_any v L (var k) w.heap.size w.heap.size w W (HQ.out.below hb) (HL.out k hlk) (by omega)
      have HQL : Hid (VQ w wr w.heap.size w.heap.size v L) := HQ
      subst hvv
      go_wp2_with fail
      refine IN.mono ?_
      rintro e w2 ⟨rfl, h2⟩
      subst w2
      clear IN y0
      go_wp2_with fail
      refine HHA.out.mono ?_
      rintro e w3 ⟨q3, rfl, hq3, hb3⟩
      have HB3 : Hid (Below w.heap.size w w3) := bl_trans HB.out hb3
      have HQ3 : Hid (q3 = true ↔ ∃ j, j < k ∧ (var j).b = (var k).b) := (show (q3 = true ↔ _) from hq3.trans (inVB HLV.out))
      have HAD3 := hid (HAD.out w3 hb3)
      clear hb3 hq3 x0 HHA HAD
      cases q3 with
      | true =>
        have HNO : Hid (¬ varsOkL n var) := fun hh => by obtain ⟨j, hj, e⟩ := HQ3.out.1 rfl; exact (hh.2 k hlk).2 j hj e
        clear HQ3
        go_wp2_with fail
        go_ret
        exact Tells.no HNO.out HB3.out
      | false =>
        have HVK : Hid (varOk var k) := ⟨HNM.out, fun j hj e => (by have h := HQ3.out.2 ⟨j, hj, e⟩; cases h)⟩
        clear HQ3
        go_wp2_with fail
        refine HAD3.out.mono ?_
        rintro e w4 ⟨v4, L4, rfl, hV4, hR4, hK4⟩
        have HV4 : Hid (VQ w w4 w.heap.size w.heap.size v4 L4) := hV4
        have HR4 : Hid (L4.map SL.b = ((List.range (k + 1)).map fun i => (var i).b)) := (show _ = _ from hR4.trans (addVB HLV.out HVK.out))
        clear hV4 hR4 hK4 HAD3
        go_wp2_with fail
        go_roundw
        case rel =>
          refine ⟨k + 1, v4, L4, by omega, by go_num, HV4, HR4, fun j hj => ?_⟩
          by_cases e : j = k
          · subst e
            exact HVK.out
          · exact HOK.out j (by omega)
        case measure => simp [intOf]; omega
end Go.Proofs.Ytidhcbjhggdncaa

/- TvD -/
namespace Go.Proofs.Ytidhcbjhggdncaa
open Go.RowKit Go.Deep
set_option maxRecDepth 100000

theorem store_stopV {ops : Array Oper} {rest : List Oper} {o : Oper} {a : Act} {Q : Exit → Act → World → Prop} {w : World} (ty : TypeId) (s x : Operand)
    (_ho : o.op = .store ty s x) (h : Hid (wpList Try.prog ops Q (o :: rest) a w)) : wpList Try.prog ops Q (o :: rest) a w := h
theorem wpv_at {P : Program} {ops : Array Oper} {rest : List Oper} {op : Oper} {a : Act} {w : World} {Q : Exit → Act → World → Prop} (h : wpList P ops Q (op :: rest) a w) : wpList P ops Q (op :: rest) a w := h
/-- A view: variables and a solution over them. -/
structure VW where
  va : Option Addr
  vc : Nat
  vn : Nat
  var : Nat → SL
  s : SO
def VW.lies (B : Nat) (w : World) (x : VW) : Prop := KRow B w 1 x.va x.vn (fun i => (x.var i).cells) ∧ (∀ i, i < x.vn → (x.var i).lies B w) ∧ x.vn ≤ 1048576 ∧ x.s.lies B w
theorem VW.lies.upper {B : Nat} {w w' : World} {x : VW} (h : x.lies B w) (hu : Upper B w w') : x.lies B w' := ⟨h.1.upper hu, fun i hi => SL.lies.upper (h.2.1 i hi) hu, h.2.2.1, h.2.2.2.upper hu⟩
def CB.v (c : CB) : Option TD := if c.has then some c.t.td else none
/-- What a variable is in a view. -/
def VW.C (x : VW) (b : List Int) : Option TD := ((List.range x.vn).find? (fun i => decide ((x.var i).b = b))).bind fun i => (x.s.cel i).v
theorem VW.C_at {x : VW} {b : List Int} {k : Nat} (hk : k < x.vn) (h : (x.var k).b = b) (hn : ∀ j, j < k → (x.var j).b ≠ b) : x.C b = (x.s.cel k).v := by
  have e : (List.range x.vn).find? (fun i => decide ((x.var i).b = b)) = some k := List.find?_range_eq_some.2 ⟨by simp [h], by simpa using hk, fun j hj => by simp [hn j hj]⟩
  unfold VW.C
  rw [e]
  rfl
theorem VW.C_no {x : VW} {b : List Int} (hn : ∀ j, j < x.vn → (x.var j).b ≠ b) : x.C b = none := by
  have e : (List.range x.vn).find? (fun i => decide ((x.var i).b = b)) = none := List.find?_range_eq_none.2 fun j hj => by simp [hn j hj]
  unfold VW.C
  rw [e]
  rfl
theorem indexC_any (x y : SL) (c : Nat) (w : World) (hx : BsF 0 w x) (hy : BsF 0 w y) (hc : w.cell? ⟨c, 0, none⟩ = some (.slice x.a x.len x.cap)) : Calls Try.prog 71 #[.slice y.a y.len y.cap, .pointer (some ⟨c, 0, none⟩)] w (Tells (y.b = x.b) w) := by
  have BE := bytesEqual_any y x w hy hx
  clear hx hy
  obtain ⟨P, hP⟩ : ∃ P : Prop, P = (y.b = x.b) := ⟨_, rfl⟩
  rw [← hP] at BE ⊢
  clear hP
  go_in
  go_wp2_with fail
  refine BE.mono ?_
  rintro e w1 ⟨q, rfl, hq, hb⟩
  have HQ := hid hq
  have HB := hid hb
  clear hq hb BE hc
  go_wp2
  go_ret
  exact Tells.of HQ.out HB.out
/-- Where a variable stands: the first place, or -1. -/
def IdxV (x : VW) (b : List Int) (w : World) (e : Ending) (w' : World) : Prop := ∃ r : Int, e = .returned (.int .i64 r) ∧ ((r = -1 ∧ ∀ j, j < x.vn → (x.var j).b ≠ b) ∨ ∃ k : Nat, r = k ∧ k < x.vn ∧ (x.var k).b = b ∧ ∀ j, j < k → (x.var j).b ≠ b) ∧ Below w.heap.size w w'
set_option maxHeartbeats 2000000 in
theorem indexW_any (x : VW) (y : SL) (c : Nat) (w : World) (h : x.lies 0 w) (hy : BsF 0 w y) (hcl : c < w.heap.size) (hc : w.cell? ⟨c, 0, none⟩ = some (.slice y.a y.len y.cap)) :
    Calls Try.prog 67 #[.slice x.va x.vn x.vc, .func (.func 71) #[] #[.pointer (some ⟨c, 0, none⟩)]] w (IdxV x y.b w) := by
  have HR := hid h.1
  have HT := hid h.2.1
  have HY := hid hy
  have HCC := hid hc
  have hn := h.2.2.1
  clear h hy hc
  go_in
  go_wp2_with fail
  go_loopw [8] (fun i wr => ∃ k : Nat, k ≤ x.vn ∧ i = .int .i64 k ∧ Hid (∀ j, j < k → (x.var j).b ≠ y.b) ∧ Hid (Below w.heap.size w wr)) (fun i _ => x.vn - (intOf i).toNat)
  case atStart => exact ⟨0, Nat.zero_le _, rfl, fun j hj => absurd hj (Nat.not_lt_zero _), Below.refl _ _⟩
  case round =>
    obtain ⟨k, hk, rfl, HNE, HB⟩ := hrel
    by_cases hlk : k < x.vn
    rotate_left
    · have hkn : k = x.vn := by omega
      have HNI : Hid (∀ j, j < x.vn → (x.var j).b ≠ y.b) := fun j hj => HNE.out j (by omega)
      have hlkz : ¬ (k : Int) < (x.vn : Int) := by omega
      clear hkn
      go_wp2
      go_ret
      exact ⟨-1, rfl, .inl ⟨rfl, HNI.out⟩, HB.out⟩
    have hlkz : (k : Int) < (x.vn : Int) := by omega
    obtain ⟨b, off, ha, _, hlt, hck⟩ := HR.out.resolve_left (by omega)
    have HTY := hid (HT.out k hlk)
    have y0 : wr.cell? ⟨b, off + k, none⟩ = some (.slice (x.var k).a (x.var k).len (x.var k).cap) := (HB.out.cell (p := ⟨b, off + k, none⟩) hlt).trans (by have h1 := hck k hlk 0 _ rfl; simpa using h1)
    have HA := hid ha
    rw [ha] at *
    clear hck
    go_wp2_with fail
    refine (indexC_any y (x.var k) c wr (HY.out.upper (Upper.of_below HB.out)) (BsF.upper HTY.out (Upper.of_below HB.out)) ((HB.out.cell (p := ⟨c, 0, none⟩) hcl).trans HCC.out)).mono ?_
    rintro e w1 ⟨q1, rfl, hq1, hb1⟩
    have HB1 := hid (bl_trans HB.out hb1)
    clear hb1 HB y0
    cases q1 with
    | true =>
      have HIN := hid (hq1.1 rfl)
      clear hq1
      go_wp2
      go_ret
      exact ⟨k, rfl, .inr ⟨k, rfl, hlk, HIN.out, HNE.out⟩, HB1.out⟩
    | false =>
      have HYX : Hid ((x.var k).b ≠ y.b) := fun hh => by have h := hq1.2 hh; cases h
      clear hq1
      go_wp2
      go_roundw
      case rel =>
        refine ⟨k + 1, by omega, by go_num, fun j hj => ?_, HB1⟩
        by_cases e : j = k
        · subst e
          exact HYX.out
        · exact HNE.out j (by omega)
      case measure => simp [intOf]; omega
theorem indexV1_any (x : VW) (y : SL) (w : World) (h : x.lies 0 w) (hy : BsF 0 w y) : Calls Try.prog 57 #[.slice x.va x.vn x.vc, .slice y.a y.len y.cap] w (IdxV x y.b w) := by
  have HI := hid (indexW_any x y w.heap.size (w.alloc (.cells #[.slice y.a y.len y.cap] 22)) (h.upper (Upper.of_below (bl_a _))) (hy.upper (Upper.of_below (bl_a _))) (by simp) (by simp [go_sem]))
  clear h hy
  go_in
  go_wp2_with fail
  refine HI.out.mono ?_
  rintro e w1 ⟨r, rfl, hr, hb⟩
  have HR := hid hr
  have HB := hid (bl_trans (bl_a _) hb)
  clear hr hb HI
  go_wp2
  go_ret
  exact ⟨r, rfl, HR.out, HB.out⟩
/-- What a lookup answers. -/
def CellR (w0 : World) (o : Option TD) (w : World) (e : Ending) (w' : World) : Prop := ∃ t : TB, e = .returned (.agg #[.bool o.isSome, .int .i64 t.t.k, .slice t.t.a t.t.len t.t.cap, .int .i64 t.t.n, .int .i64 t.t.s]) ∧ VT w0 o t ∧ Below w.heap.size w w'
theorem zT_of {d : TD} (h : zeroT d) : d = zT := by
  obtain ⟨k, bs, n, s⟩ := d
  obtain ⟨h1, h2, h3, h4⟩ := h
  simp only at h1 h2 h3 h4
  subst h1 h2 h3 h4
  rfl
theorem VT.cell {w0 : World} {c : CB} (hl : c.lies 0 w0) (hc : cellOk c) : VT w0 c.v c.t ∧ c.v.isSome = c.has := by
  cases h : c.has with
  | true =>
    have e : c.v = some c.t.td := by unfold CB.v; rw [h]; rfl
    rw [e]
    exact ⟨⟨hl.1, hl.2, rfl⟩, rfl⟩
  | false =>
    have e : c.v = none := by unfold CB.v; rw [h]; rfl
    rw [e]
    exact ⟨⟨hl.1, hl.2, zT_of (hc.2 h)⟩, rfl⟩
set_option maxHeartbeats 2000000 in
theorem cell_any (x : VW) (y : SL) (w0 w : World) (h : x.lies 0 w0) (hs : solOk x.s x.vn) (hy : BsF 0 w0 y) (hw : Below w0.heap.size w0 w) : Calls Try.prog 30 #[.agg #[.slice x.va x.vn x.vc, .slice x.s.a x.s.n x.s.cap], .slice y.a y.len y.cap] w (CellR w0 (x.C y.b) w) := by
  have HI : Hid (∀ W, Below w.heap.size w W → Calls Try.prog 57 #[.slice x.va x.vn x.vc, .slice y.a y.len y.cap] W (IdxV x y.b W)) := fun W hb => indexV1_any x y W (h.upper (Upper.of_below (bl_trans hw hb))) (hy.upper (Upper.of_below (bl_trans hw hb)))
  have HX := hid ((Box.new w #[.slice x.va x.vn x.vc, .slice x.s.a x.s.n x.s.cap] 45 (0, 0)).below (bl_a (.cells #[.bool false, .int .i64 0, .slice none 0 0, .int .i64 0, .int .i64 0] 56)))
  have HO : Hid (OB ((w.alloc (.cells #[.slice x.va x.vn x.vc, .slice x.s.a x.s.n x.s.cap] 45)).alloc (.cells #[.bool false, .int .i64 0, .slice none 0 0, .int .i64 0, .int .i64 0] 56)) (w.heap.size + 1) [.bool false, .int .i64 0, .slice none 0 0, .int .i64 0, .int .i64 0]) := (show OB _ _ _ by have h := OB.new (w.alloc (.cells #[.slice x.va x.vn x.vc, .slice x.s.a x.s.n x.s.cap] 45)) #[.bool false, .int .i64 0, .slice none 0 0, .int .i64 0, .int .i64 0] 56; simpa using h)
  have HB : Hid (Below w.heap.size w ((w.alloc (.cells #[.slice x.va x.vn x.vc, .slice x.s.a x.s.n x.s.cap] 45)).alloc (.cells #[.bool false, .int .i64 0, .slice none 0 0, .int .i64 0, .int .i64 0] 56))) := bl_alloc (bl_a _) _
  have HS := hid h.2.2.2
  have HSO := hid hs
  have HW := hid hw
  clear h hs hy hw
  go_in
  go_upto_region 1 with fail
  generalize ((w.alloc _).alloc _) = W1 at *
  have v0 := HX.out.2 0 _ rfl
  go_wp2_with fail
  refine (HI.out _ HB.out).mono ?_
  rintro e w2 ⟨r, rfl, hr, hb2⟩
  have HX2 := hid (HX.out.below hb2)
  have HO2 := hid (HO.out.below hb2)
  have HB2 := hid (bl_trans HB.out hb2)
  clear hb2 HX HO HB HI v0
  rcases hr with ⟨rfl, hno⟩ | ⟨k, rfl, hk, hkb, hkn⟩
  · have HE := hid (VW.C_no hno)
    have st : w2.there (w.heap.size + 1) 0 5 := HO2.out.there 0 5 (by simp)
    have on : (#[.bool false, .int .i64 0, .slice none 0 0, .int .i64 0, .int .i64 0] : Array Value).all (·.oneCell') = true := all_oneCell_toArray (cs := [.bool false, .int .i64 0, .slice none 0 0, .int .i64 0, .int .i64 0]) (by simp [Value.oneCell'])
    clear hno
    go_wp2_with (with_reducible refine wpv_at ?_; refine store_stopV 56 (.tmp 4) (.tmp 12) rfl ?_)
    change wpList _ _ _ _ _ _
    refine wpList_store_mid rfl 56 _ _ rfl (w.heap.size + 1) 0 #[.bool false, .int .i64 0, .slice none 0 0, .int .i64 0, .int .i64 0] rfl rfl st (by kernel_rfl) on ?_
    try simp only [Act.put]
    have hrd : (w2.setCells (w.heap.size + 1) 0 [.bool false, .int .i64 0, .slice none 0 0, .int .i64 0, .int .i64 0]).rangeAt (w.heap.size + 1) 0 [.bool false, .int .i64 0, .slice none 0 0, .int .i64 0, .int .i64 0] := World.rangeAt_setCells_same _ _ _ _ st
    have hbf := hid (below_sets (w0 := w) (w.heap.size + 1) (by omega) [.bool false, .int .i64 0, .slice none 0 0, .int .i64 0, .int .i64 0] 0 w2 HB2.out)
    generalize w2.setCells (w.heap.size + 1) 0 [.bool false, .int .i64 0, .slice none 0 0, .int .i64 0, .int .i64 0] = W3 at *
    clear st on HO2 HX2 HB2
    go_wp2
    refine bodyPost_ret (v := .agg #[.bool false, .int .i64 0, .slice none 0 0, .int .i64 0, .int .i64 0]) ?hr rfl ?hp
    case hr => exact results_cell rfl rfl (run_loadVar_mid (P := Try.prog) _ (w.heap.size + 1) 0 56 [.bool false, .int .i64 0, .slice none 0 0, .int .i64 0, .int .i64 0] _ hrd Try.underlying56 rfl (by kernel_rfl))
    exact ⟨tB0 0 0 0, by rw [HE.out]; rfl, by rw [HE.out]; exact VT.no, hbf.out⟩
  · have hks : k < x.s.n := by rw [HSO.out.1]; exact hk
    have HE := hid (VW.C_at hk hkb hkn)
    obtain ⟨b, off, ha, _, hlt, hck⟩ := HS.out.1.resolve_left (by omega)
    have HV := hid (VT.cell (HS.out.2.1 k hks) (HSO.out.2 k hks))
    have hcx : w2.rangeAt b (off + k * 5) [.bool (x.s.cel k).has, .int .i64 (x.s.cel k).t.t.k, .slice (x.s.cel k).t.t.a (x.s.cel k).t.t.len (x.s.cel k).t.t.cap, .int .i64 (x.s.cel k).t.t.n, .int .i64 (x.s.cel k).t.t.s] := fun j v hv => ((bl_trans HW.out HB2.out).cell (p := ⟨b, off + k * 5 + j, none⟩) hlt).trans (hck k hks j v hv)
    have v1 := HX2.out.2 1 _ rfl
    have st : w2.there (w.heap.size + 1) 0 5 := HO2.out.there 0 5 (by simp)
    have on : (#[.bool (x.s.cel k).has, .int .i64 (x.s.cel k).t.t.k, .slice (x.s.cel k).t.t.a (x.s.cel k).t.t.len (x.s.cel k).t.t.cap, .int .i64 (x.s.cel k).t.t.n, .int .i64 (x.s.cel k).t.t.s] : Array Value).all (·.oneCell') = true := all_oneCell_toArray (cs := [.bool (x.s.cel k).has, .int .i64 (x.s.cel k).t.t.k, .slice (x.s.cel k).t.t.a (x.s.cel k).t.t.len (x.s.cel k).t.t.cap, .int .i64 (x.s.cel k).t.t.n, .int .i64 (x.s.cel k).t.t.s]) (by simp [Value.oneCell'])
    have hnn := HS.out.2.2
    rw [ha] at v1
    clear hck hkb hkn HSO
    go_wp2_with (first | (with_reducible refine wpv_at ?_; refine wpList_load_mid rfl 56 _ rfl _ _ rfl [.bool (x.s.cel k).has, .int .i64 (x.s.cel k).t.t.k, .slice (x.s.cel k).t.t.a (x.s.cel k).t.t.len (x.s.cel k).t.t.cap, .int .i64 (x.s.cel k).t.t.n, .int .i64 (x.s.cel k).t.t.s] _ hcx Try.underlying56 rfl (by kernel_rfl) ?_; try simp only [Act.put, List.setIfInBounds_toArray, List.set_cons_zero, List.set_cons_succ]) | (with_reducible refine wpv_at ?_; refine store_stopV 56 (.tmp 4) (.tmp 18) rfl ?_))
    change wpList _ _ _ _ _ _
    refine wpList_store_mid rfl 56 _ _ rfl (w.heap.size + 1) 0 #[.bool (x.s.cel k).has, .int .i64 (x.s.cel k).t.t.k, .slice (x.s.cel k).t.t.a (x.s.cel k).t.t.len (x.s.cel k).t.t.cap, .int .i64 (x.s.cel k).t.t.n, .int .i64 (x.s.cel k).t.t.s] rfl rfl st (by kernel_rfl) on ?_
    try simp only [Act.put]
    have hrd : (w2.setCells (w.heap.size + 1) 0 [.bool (x.s.cel k).has, .int .i64 (x.s.cel k).t.t.k, .slice (x.s.cel k).t.t.a (x.s.cel k).t.t.len (x.s.cel k).t.t.cap, .int .i64 (x.s.cel k).t.t.n, .int .i64 (x.s.cel k).t.t.s]).rangeAt (w.heap.size + 1) 0 [.bool (x.s.cel k).has, .int .i64 (x.s.cel k).t.t.k, .slice (x.s.cel k).t.t.a (x.s.cel k).t.t.len (x.s.cel k).t.t.cap, .int .i64 (x.s.cel k).t.t.n, .int .i64 (x.s.cel k).t.t.s] := World.rangeAt_setCells_same _ _ _ _ st
    have hbf := hid (below_sets (w0 := w) (w.heap.size + 1) (by omega) [.bool (x.s.cel k).has, .int .i64 (x.s.cel k).t.t.k, .slice (x.s.cel k).t.t.a (x.s.cel k).t.t.len (x.s.cel k).t.t.cap, .int .i64 (x.s.cel k).t.t.n, .int .i64 (x.s.cel k).t.t.s] 0 w2 HB2.out)
    generalize w2.setCells (w.heap.size + 1) 0 [.bool (x.s.cel k).has, .int .i64 (x.s.cel k).t.t.k, .slice (x.s.cel k).t.t.a (x.s.cel k).t.t.len (x.s.cel k).t.t.cap, .int .i64 (x.s.cel k).t.t.n, .int .i64 (x.s.cel k).t.t.s] = W3 at *
    clear st on HO2 HX2 HB2 hcx v1
    go_wp2
    refine bodyPost_ret (v := .agg #[.bool (x.s.cel k).has, .int .i64 (x.s.cel k).t.t.k, .slice (x.s.cel k).t.t.a (x.s.cel k).t.t.len (x.s.cel k).t.t.cap, .int .i64 (x.s.cel k).t.t.n, .int .i64 (x.s.cel k).t.t.s]) ?hr2 rfl ?hp2
    case hr2 => exact results_cell rfl rfl (run_loadVar_mid (P := Try.prog) _ (w.heap.size + 1) 0 56 [.bool (x.s.cel k).has, .int .i64 (x.s.cel k).t.t.k, .slice (x.s.cel k).t.t.a (x.s.cel k).t.t.len (x.s.cel k).t.t.cap, .int .i64 (x.s.cel k).t.t.n, .int .i64 (x.s.cel k).t.t.s] _ hrd Try.underlying56 rfl (by kernel_rfl))
    exact ⟨(x.s.cel k).t, by rw [HE.out, HV.out.2], by rw [HE.out]; exact HV.out.1, hbf.out⟩
end Go.Proofs.Ytidhcbjhggdncaa

/- TvE -/
namespace Go.Proofs.Ytidhcbjhggdncaa
open Go.RowKit Go.Deep
set_option maxRecDepth 100000

/-- The program's value answers as it should at e. -/
def KV (x : VW) (w0 : World) (e : ET) : Prop := ∀ W, Below w0.heap.size w0 W → Calls Try.prog 13 #[.agg #[.slice x.va x.vn x.vc, .slice x.s.a x.s.n x.s.cap], .agg #[.int .i64 e.d.k, .int .i64 e.d.op, .slice e.d.v.a e.d.v.len e.d.v.cap, .int .i64 e.d.t.t.k, .slice e.d.t.t.a e.d.t.t.len e.d.t.t.cap, .int .i64 e.d.t.t.n, .int .i64 e.d.t.t.s, .slice e.d.ka e.d.n e.d.kc]] W (ValR w0 (val x.C e) W)
/-- Within a function of a view and an expression. -/
structure VE (w W : World) (x : VW) (e : ET) : Prop where
  bl : Below w.heap.size w W
  x : Box W w.heap.size [.slice x.va x.vn x.vc, .slice x.s.a x.s.n x.s.cap]
  e : Box W (w.heap.size + 1) [.int .i64 e.d.k, .int .i64 e.d.op, .slice e.d.v.a e.d.v.len e.d.v.cap, .int .i64 e.d.t.t.k, .slice e.d.t.t.a e.d.t.t.len e.d.t.t.cap, .int .i64 e.d.t.t.n, .int .i64 e.d.t.t.s, .slice e.d.ka e.d.n e.d.kc]
theorem VE.below {w W W' : World} {x : VW} {e : ET} (h : VE w W x e) (hb : Below W.heap.size W W') : VE w W' x e := ⟨bl_trans h.bl hb, h.x.below hb, h.e.below hb⟩
theorem VE.new (w : World) (x : VW) (e : ET) (t u : TypeId) : VE w ((w.alloc (.cells #[.slice x.va x.vn x.vc, .slice x.s.a x.s.n x.s.cap] t)).alloc (.cells #[.int .i64 e.d.k, .int .i64 e.d.op, .slice e.d.v.a e.d.v.len e.d.v.cap, .int .i64 e.d.t.t.k, .slice e.d.t.t.a e.d.t.t.len e.d.t.t.cap, .int .i64 e.d.t.t.n, .int .i64 e.d.t.t.s, .slice e.d.ka e.d.n e.d.kc] u)) x e :=
  ⟨bl_alloc (bl_a _) _, (Box.new w #[.slice x.va x.vn x.vc, .slice x.s.a x.s.n x.s.cap] t (0, 0)).below (bl_a _), (show Box _ _ _ by have h := Box.new (w.alloc (.cells #[.slice x.va x.vn x.vc, .slice x.s.a x.s.n x.s.cap] t)) #[.int .i64 e.d.k, .int .i64 e.d.op, .slice e.d.v.a e.d.v.len e.d.v.cap, .int .i64 e.d.t.t.k, .slice e.d.t.t.a e.d.t.t.len e.d.t.t.cap, .int .i64 e.d.t.t.n, .int .i64 e.d.t.t.s, .slice e.d.ka e.d.n e.d.kc] u (0, 0); simpa using h)⟩
/-- Within a function of a view: the answer's box is open. -/
structure VR (w W : World) (x : VW) : Prop where
  bl : Below w.heap.size w W
  x : Box W w.heap.size [.slice x.va x.vn x.vc, .slice x.s.a x.s.n x.s.cap]
  r : Own4 W (w.heap.size + 1) (.int .i64 0) (.slice none 0 0) (.int .i64 0) (.int .i64 0)
theorem VR.below {w W W' : World} {x : VW} (h : VR w W x) (hb : Below W.heap.size W W') : VR w W' x := ⟨bl_trans h.bl hb, h.x.below hb, h.r.below hb⟩
theorem VR.new (w : World) (x : VW) (t u : TypeId) : VR w ((w.alloc (.cells #[.slice x.va x.vn x.vc, .slice x.s.a x.s.n x.s.cap] t)).alloc (.cells #[.int .i64 0, .slice none 0 0, .int .i64 0, .int .i64 0] u)) x :=
  ⟨bl_alloc (bl_a _) _, (Box.new w #[.slice x.va x.vn x.vc, .slice x.s.a x.s.n x.s.cap] t (0, 0)).below (bl_a _), Own4.at (w.alloc _) (w.heap.size + 1) _ _ _ _ _ (by simp)⟩
theorem VT.len {w0 : World} {o : Option TD} {t : TB} (h : VT w0 o t) : t.b.length = t.t.len := h.bs.1.1
/-- A new box for a term, filled. -/
theorem set4_below {w : World} (a b c d : Value) (o : Obj) : Below w.heap.size w (((((w.alloc o).setCell ⟨w.heap.size, 0, none⟩ a).setCell ⟨w.heap.size, 1, none⟩ b).setCell ⟨w.heap.size, 2, none⟩ c).setCell ⟨w.heap.size, 3, none⟩ d) :=
  bl_set (bl_set (bl_set (bl_set (bl_a _) (Nat.le_refl _) _) (Nat.le_refl _) _) (Nat.le_refl _) _) (Nat.le_refl _) _
set_option maxHeartbeats 2000000 in
theorem truth_of (x : VW) (e : ET) (w0 w : World) (hv : KV x w0 e) (hw : Below w0.heap.size w0 w) : Calls Try.prog 31 #[.agg #[.slice x.va x.vn x.vc, .slice x.s.a x.s.n x.s.cap], .agg #[.int .i64 e.d.k, .int .i64 e.d.op, .slice e.d.v.a e.d.v.len e.d.v.cap, .int .i64 e.d.t.t.k, .slice e.d.t.t.a e.d.t.t.len e.d.t.t.cap, .int .i64 e.d.t.t.n, .int .i64 e.d.t.t.s, .slice e.d.ka e.d.n e.d.kc]] w fun r w' => r = .returned (.int .i64 (tru (val x.C e))) ∧ Below w.heap.size w w' := by
  have HT := hid (VE.new w x e 45 29)
  have HV := hid (fun W h => hv W (bl_trans hw h))
  obtain ⟨o, ho⟩ : ∃ o, o = val x.C e := ⟨_, rfl⟩
  rw [← ho] at HV ⊢
  clear hv hw ho
  go_in
  go_upto_region 1 with fail
  generalize ((w.alloc _).alloc _) = W1 at *
  have lx : W1.rangeAt w.heap.size 0 [.slice x.va x.vn x.vc, .slice x.s.a x.s.n x.s.cap] := HT.out.x.range 0 _ rfl
  have le : W1.rangeAt (w.heap.size + 1) 0 [.int .i64 e.d.k, .int .i64 e.d.op, .slice e.d.v.a e.d.v.len e.d.v.cap, .int .i64 e.d.t.t.k, .slice e.d.t.t.a e.d.t.t.len e.d.t.t.cap, .int .i64 e.d.t.t.n, .int .i64 e.d.t.t.s, .slice e.d.ka e.d.n e.d.kc] := HT.out.e.range 0 _ rfl
  go_wp2_with (first | (with_reducible refine wpv_at ?_; refine wpList_load_mid rfl 45 _ rfl _ _ rfl [.slice x.va x.vn x.vc, .slice x.s.a x.s.n x.s.cap] _ lx Try.underlying45 rfl (by kernel_rfl) ?_; try simp only [Act.put, List.setIfInBounds_toArray, List.set_cons_zero, List.set_cons_succ]) | (with_reducible refine wpv_at ?_; refine wpList_load_mid rfl 29 _ rfl _ _ rfl [.int .i64 e.d.k, .int .i64 e.d.op, .slice e.d.v.a e.d.v.len e.d.v.cap, .int .i64 e.d.t.t.k, .slice e.d.t.t.a e.d.t.t.len e.d.t.t.cap, .int .i64 e.d.t.t.n, .int .i64 e.d.t.t.s, .slice e.d.ka e.d.n e.d.kc] _ le Try.underlying29 rfl (by kernel_rfl) ?_; try simp only [Act.put, List.setIfInBounds_toArray, List.set_cons_zero, List.set_cons_succ]))
  refine (HV.out _ HT.out.bl).mono ?_
  rintro r w2 ⟨t, rfl, hV, hb2⟩
  have HB2 := hid (bl_trans HT.out.bl hb2)
  have HVT := hid hV
  clear hV hb2 lx le HT HV
  cases o with
  | none =>
    go_wp2
    go_ret
    exact ⟨rfl, by first | exact bl_trans HB2.out (set4_below _ _ _ _ _) | exact bl_trans HB2.out (bl_a _)⟩
  | some d =>
    have HTO := hid (fun W => truthOf_any t W HVT.out.len)
    have E : Hid (truT t.td = tru (some d)) := (show _ = _ by rw [HVT.out.td]; rfl)
    go_wp2_with fail
    refine (HTO.out _).mono ?_
    rintro r w3 ⟨rfl, hb3⟩
    have HB3 := hid hb3
    clear hb3 HTO
    go_wp2
    go_ret
    exact ⟨congrArg (fun z => Ending.returned (Value.int .i64 z)) E.out, bl_trans (bl_trans HB2.out (by first | exact set4_below _ _ _ _ _ | exact bl_a _)) HB3.out⟩
end Go.Proofs.Ytidhcbjhggdncaa
