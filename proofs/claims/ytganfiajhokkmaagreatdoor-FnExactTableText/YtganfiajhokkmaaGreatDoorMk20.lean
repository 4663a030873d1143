/- Texts put together: TbJ TbK -/
import Derived.Test.YtganfiajhokkmaaGreatDoorMk19
import Derived.Test.YtganfiajhokkmaaGreatDoorMk16
/- TbJ -/
namespace Go.Proofs.YtganfiajhokkmaaGreatDoor
open Go.RowKit Go.Deep
set_option maxRecDepth 100000

theorem vq_fresh {w0 w : World} (hb : Below w0.heap.size w0 w) (t : TypeId) : VQ w0 (w.alloc (.cells #[.slice none 0 0] t)) w.heap.size w.heap.size (.slice none 0 0) [] :=
  ⟨by simp [go_sem], by simp [go_sem], by simp, VL.nil _ _ _, fun e => (by cases e), hb.size, hb.size, hb.trans ((bl_a _).mono hb.size), by simp⟩
theorem inVB {var : Nat → SL} {k : Nat} {b : List Int} {L : List SL} (h : L.map SL.b = ((List.range k).map fun i => (var i).b)) : InL b L ↔ ∃ j, j < k ∧ (var j).b = b := by
  unfold InL
  rw [h]
  simp only [List.mem_map, List.mem_range]
theorem addVB {var : Nat → SL} {k : Nat} {L : List SL} (h : L.map SL.b = ((List.range k).map fun i => (var i).b)) (hv : varOk var k) : addV (L.map SL.b) (var k).b = ((List.range (k + 1)).map fun i => (var i).b) := by
  have h1 : (var k).b ≠ [] := name_pos hv.1
  have h2 : ¬ (var k).b ∈ L.map SL.b := fun hh => by
    obtain ⟨j, hj, e⟩ := (inVB h).1 hh
    exact hv.2 j hj e
  unfold addV
  rw [if_neg (by rintro (h3 | h3); exact h1 h3; exact h2 h3), h, List.range_succ, List.map_append]
  rfl
set_option maxHeartbeats 4000000 in
theorem varsOkP_any (a : Option Addr) (n cap : Nat) (var : Nat → SL) (w : World) (hR : KRow 0 w 1 a n (fun i => (var i).cells)) (hl : ∀ i, i < n → (var i).lies 0 w) (hn : n ≤ 1048576) :
    Calls Tryz.prog 20 #[.slice a n cap] w (Tells (varsOkL n var) w) := by
  by_cases h8 : n ≤ 8
  rotate_left
  · have h8z : (n : Int) > 8 := by omega
    clear hR hl
    go_enter Tryz.func20, Tryz.ntmps20
    go_wp2
    go_ret
    exact Tells.no (fun hh => h8 hh.1) (Below.refl _ _)
  have h8z : ¬ (n : Int) > 8 := by omega
  have HQ0 : Hid (VQ w (w.alloc (.cells #[.slice none 0 0] 72)) w.heap.size w.heap.size (.slice none 0 0) []) := vq_fresh (Below.refl _ _) _
  by_cases hn0 : n = 0
  · subst hn0
    have HY : Hid (varsOkL 0 var) := ⟨by omega, fun i hi => absurd hi (Nat.not_lt_zero _)⟩
    clear hR hl hn h8 h8z
    go_enter Tryz.func20, Tryz.ntmps20
    go_wp2
    go_loopw [11] (fun i wr => i = .int .i64 0 ∧ Hid (Below w.heap.size w wr)) (fun _ _ => 0)
    case atStart => exact ⟨rfl, bl_a _⟩
    case round =>
      obtain ⟨rfl, HB⟩ := hrel
      go_wp2_with fail
      go_ret
      exact Tells.yes HY.out HB.out
  obtain ⟨b, off, rfl, _, hlt, hc⟩ := hR.resolve_left hn0
  have HC : Hid (∀ i, i < n → w.cell? ⟨b, off + i, none⟩ = some (.slice (var i).a (var i).len (var i).cap)) := fun i hi => (by have h := hc i hi 0 _ rfl; rwa [Nat.mul_one] at h)
  have HL : Hid (∀ i, i < n → (var i).lies 0 w) := hl
  clear hR hc hl
  go_enter Tryz.func20, Tryz.ntmps20
  go_wp2_with fail
  go_loopw [11] (fun i wr => ∃ (k : Nat) (v : Value) (L : List SL), k ≤ n ∧ i = .int .i64 k ∧ Hid (VQ w wr w.heap.size w.heap.size v L) ∧ Hid (L.map SL.b = ((List.range k).map fun i => (var i).b)) ∧ Hid (∀ j, j < k → varOk var j)) (fun i _ => n - (intOf i).toNat)
  case atStart => exact ⟨0, _, [], Nat.zero_le _, rfl, HQ0, rfl, fun j hj => absurd hj (Nat.not_lt_zero _)⟩
  case round =>
    clear HQ0
    obtain ⟨k, v, L, hk, rfl, HQ, HLV, HOK⟩ := hrel
    have HB : Hid (Below w.heap.size w wr) := HQ.out.bl
    by_cases hlk : k < n
    rotate_left
    · obtain rfl : k = n := by omega
      have hlkz : ¬ (k : Int) < (k : Int) := by omega
      go_wp2_with fail
      go_ret
      exact Tells.yes ⟨h8, HOK.out⟩ HB.out
    have hlkz : (k : Int) < (n : Int) := by omega
    have y0 : wr.cell? ⟨b, off + k, none⟩ = some (.slice (var k).a (var k).len (var k).cap) := (HB.out.cell (p := ⟨b, off + k, none⟩) hlt).trans (HC.out k hlk)
    have IN := isName_any (var k).a (var k).len (var k).cap (var k).b wr (BsF.upper (HL.out k hlk) (Upper.of_below HB.out)).1
    have hLl : L.length ≤ 8 := by
      have h1 := congrArg List.length HLV.out
      simp at h1
      omega
    cases hnm : nameOk (var k).b with
    | false =>
      rw [hnm] at IN
      have HNO : Hid (¬ varsOkL n var) := fun hh => by have h := (hh.2 k hlk).1; rw [hnm] at h; cases h
      clear hnm
      go_wp2_with fail
      refine IN.mono ?_
      rintro e w2 ⟨rfl, h2⟩
      subst w2
      clear IN y0
      go_wp2_with fail
      go_ret
      exact Tells.no HNO.out HB.out
    | true =>
      rw [hnm] at IN
      have HNM : Hid (nameOk (var k).b = true) := hnm
      clear hnm
      have x0 := HQ.out.cell
      obtain ⟨av, cv, hvv, _⟩ := HQ.out.vl.form
      have HHA := hidQ (has_any v L (var k) w.heap.size w wr HQ.out.vl HQ.out.bl (HL.out k hlk) (by omega))
      have HAD : Hid (∀ W, Below wr.heap.size wr W → Calls Tryz.prog 43 #[.pointer (some ⟨w.heap.size, 0, none⟩), .slice (var k).a (var k).len (var k).cap] W (AddQ w w.heap.size w.heap.size v (addV (L.map SL.b) (var k).b) W)) := fun W hb => add_any v L (var k) w.heap.size w.heap.size w W (HQ.out.below hb) (HL.out k hlk) (by omega)
      have HQL : Hid (VQ w wr w.heap.size w.heap.size v L) := HQ
      subst hvv
      go_wp2_with fail
      refine IN.mono ?_
      rintro e w2 ⟨rfl, h2⟩
      subst w2
      clear IN y0
      go_wp2_with fail
      refine HHA.out.mono ?_
      rintro e w3 ⟨q3, rfl, hq3, hb3⟩
      have HB3 : Hid (Below w.heap.size w w3) := bl_trans HB.out hb3
      have HQ3 : Hid (q3 = true ↔ ∃ j, j < k ∧ (var j).b = (var k).b) := (show (q3 = true ↔ _) from hq3.trans (inVB HLV.out))
      have HAD3 := hidQ (HAD.out w3 hb3)
      clear hb3 hq3 x0 HHA HAD
      cases q3 with
      | true =>
        have HNO : Hid (¬ varsOkL n var) := fun hh => by obtain ⟨j, hj, e⟩ := HQ3.out.1 rfl; exact (hh.2 k hlk).2 j hj e
        clear HQ3
        go_wp2_with fail
        go_ret
        exact Tells.no HNO.out HB3.out
      | false =>
        have HVK : Hid (varOk var k) := ⟨HNM.out, fun j hj e => (by have h := HQ3.out.2 ⟨j, hj, e⟩; cases h)⟩
        clear HQ3
        go_wp2_with fail
        refine HAD3.out.mono ?_
        rintro e w4 ⟨v4, L4, rfl, hV4, hR4, hK4⟩
        have HV4 : Hid (VQ w w4 w.heap.size w.heap.size v4 L4) := hV4
        have HR4 : Hid (L4.map SL.b = ((List.range (k + 1)).map fun i => (var i).b)) := (show _ = _ from hR4.trans (addVB HLV.out HVK.out))
        clear hV4 hR4 hK4 HAD3
        go_wp2_with fail
        go_roundw
        case rel =>
          refine ⟨k + 1, v4, L4, by omega, by go_num, HV4, HR4, fun j hj => ?_⟩
          by_cases e : j = k
          · subst e
            exact HVK.out
          · exact HOK.out j (by omega)
        case measure => simp [intOf]; omega
end Go.Proofs.YtganfiajhokkmaaGreatDoor

/- TbK -/
namespace Go.Proofs.YtganfiajhokkmaaGreatDoor
open Go.RowKit Go.Deep
set_option maxRecDepth 100000

/-- What a cell's text is. -/
def cellS (x : CB) : List Int := if x.has = true then x.t.t.show x.t.b else [45]
theorem cellTx_s (x : CB) : cellTx x = cellS x ++ [32] := by
  unfold cellTx cellS
  split <;> rfl
theorem cellS_len {x : CB} (h : cellOk x) : 1 ≤ (cellS x).length ∧ (cellS x).length ≤ 64 := by
  unfold cellS
  split
  · rename_i hh
    exact Tm.show_len (t := x.t.t) (b := x.t.b) (h.1 hh)
  · simp
set_option maxHeartbeats 1000000 in
theorem cellText_any (x : CB) (w : World) (h : x.lies 0 w) (hok : cellOk x) (ht : Tab w) : Calls Tryz.prog 25 #[.agg #[.bool x.has, .int .i64 x.t.t.k, .slice x.t.t.a x.t.t.len x.t.t.cap, .int .i64 x.t.t.n, .int .i64 x.t.t.s]] w fun e w' => StrRes w (cellS x) e w' := by
  cases hh : x.has with
  | false =>
    have HS : Hid (cellS x = [45]) := (show _ = _ by unfold cellS; rw [hh]; rfl)
    clear h hok ht hh
    go_enter Tryz.func25, Tryz.ntmps25
    go_wp2_with fail
    go_ret
    exact ⟨⟨#[45]⟩, rfl, by rw [HS.out]; rfl, bl_a _⟩
  | true =>
    have hto : termOk x.t.t.k x.t.b x.t.t.n x.t.t.s = true := hok.1 hh
    have HS : Hid (cellS x = showL x.t.t.k x.t.t.n x.t.t.s x.t.b) := (show _ = _ by unfold cellS; rw [hh]; rfl)
    have SH : Hid (∀ o, Calls Tryz.prog 47 #[.agg #[.int .i64 x.t.t.k, .slice x.t.t.a x.t.t.len x.t.t.cap, .int .i64 x.t.t.n, .int .i64 x.t.t.s]] (w.alloc o) fun e w' => TxRes (w.alloc o) (showL x.t.t.k x.t.t.n x.t.t.s x.t.b) e w') := fun o => by
      have h1 := implShow_any x.t.t.k x.t.t.n x.t.t.s x.t.t.a x.t.t.len x.t.t.cap x.t.b (w.alloc o) (h.1.1.below (bl_a o)) h.2.1 h.2.2.1 h.2.2.2.1 h.2.2.2.2 (ht.below (bl_a o))
      unfold shownL at h1
      rwa [if_pos hto] at h1
    have HBy : Hid (Byt (showL x.t.t.k x.t.t.n x.t.t.s x.t.b)) := showL_byt h.1.1.byt
    generalize showL x.t.t.k x.t.t.n x.t.t.s x.t.b = L1 at *
    clear h hok ht hh hto
    go_enter Tryz.func25, Tryz.ntmps25
    go_wp2_with fail
    refine (SH.out _).mono ?_
    rintro e w1 ⟨a1, c1, rfl, hn1, hb1⟩
    have HB : Hid (Below w.heap.size w w1) := bl_trans (bl_a _) hb1
    have cv := hn1.bs.str (cap := c1)
    clear hn1 hb1 SH
    go_wp2_with fail
    go_ret
    exact ⟨_, rfl, by rw [HS.out]; exact numsOf_nums HBy.out, HB.out⟩
theorem varText_any (x : SL) (w : World) (h : BsF 0 w x) (hn : nameOk x.b = true) : Calls Tryz.prog 23 #[.slice x.a x.len x.cap] w fun e w' => StrRes w (63 :: x.b) e w' := by
  have cv := h.1.str (cap := x.cap)
  have HBy : Hid (numsOf (strOfNums x.b) = x.b) := numsOf_nums h.1.byt
  have hz : (strOfNums x.b).size ≤ 12 := by rw [strOfNums_size]; exact (name_len hn).2
  clear h hn
  generalize strOfNums x.b = st at *
  go_enter Tryz.func23, Tryz.ntmps23
  go_wp2_with fail
  go_ret
  refine ⟨_, rfl, ?_, Below.refl _ _⟩
  simp only [numsOf_append, HBy.out]
  simp [numsOf]
set_option maxHeartbeats 4000000 in
theorem lineVars_any (a : Option Addr) (n cap : Nat) (var : Nat → SL) (w : World) (hR : KRow 0 w 1 a n (fun i => (var i).cells)) (hl : ∀ i, i < n → (var i).lies 0 w) (hn : n ≤ 8) (hok : ∀ i, i < n → varOk var i) :
    Calls Tryz.prog 22 #[.slice a n cap, .func (.func 23) #[] #[]] w fun e w' => DigRes w (lineV var n ++ [10]) e w' := by
  have HLEN : Hid (∀ k, k ≤ n → (lineV var k).length ≤ k * 14) := fun k hk => lineV_len k (fun i hi => hok i (by omega))
  have HST : Hid (∀ k, k < n → ∀ W, Below w.heap.size w W → Calls Tryz.prog 23 #[.slice (var k).a (var k).len (var k).cap] W fun e w' => StrRes W (63 :: (var k).b) e w') := fun k hk W hb => varText_any (var k) W (BsF.upper (hl k hk) (Upper.of_below hb)) (hok k hk).1
  have HSL : Hid (∀ k, k < n → 1 ≤ (63 :: (var k).b).length ∧ (63 :: (var k).b).length ≤ 64) := fun k hk => (by have h := name_len (hok k hk).1; simp; omega)
  have HNX : Hid (∀ k, lineV var (k + 1) = lineV var k ++ ((63 :: (var k).b) ++ [32])) := fun k => (by simp [lineV])
  clear hl hok
  by_cases hn0 : n = 0
  · subst hn0
    have HO1 := hidQ ((Own8.nil (w.alloc (.cells #[.int .u8 10] 5)) w.heap.size).1)
    have HN1 := hidQ (one_news w 10)
    have hB1 : w.heap.size ≤ (w.alloc (.cells #[.int .u8 10] 5)).heap.size := by simp
    have HB1 : Hid (Below w.heap.size w (w.alloc (.cells #[.int .u8 10] 5))) := bl_a _
    clear hR hn HLEN HST HSL HNX
    go_enter Tryz.func22, Tryz.ntmps22
    go_wp2
    go_loopw [5, 10] (fun x i wr => x = .slice none 0 0 ∧ i = .int .i64 0 ∧ wr = w) (fun _ _ _ => 0)
    case atStart => exact ⟨rfl, rfl, rfl⟩
    case round =>
      obtain ⟨rfl, rfl, hw⟩ := hrel
      subst hw
      go_wp2_with (refine app8 rfl (.tmp 22) (.tmp 23) rfl wr.heap.size (.slice none 0 0) 0 [] rfl HO1 ⟨wr.heap.size, 0, none⟩ 1 1 [10] rfl rfl HN1 (by omega) 1 rfl [10] rfl (by omega) hB1 ?_; intro g2 c2 w2 HR2 _ _ HB2x; have HB2 : Hid (Below wr.heap.size wr w2) := HB1.out.trans HB2x.out; clear HB2x HO1 HN1 hB1 HB1)
      go_ret
      exact ⟨g2, c2, rfl, HR2.out, HB2.out⟩
  obtain ⟨b, off, rfl, _, hlt, hc⟩ := hR.resolve_left hn0
  have HC : Hid (∀ i, i < n → ∀ c u, ((var i).cells)[c]? = some u → w.cell? ⟨b, off + i + c, none⟩ = some u) := fun i hi c u hu => (by have h := hc i hi c u hu; rwa [Nat.mul_one] at h)
  clear hR hc
  go_enter Tryz.func22, Tryz.ntmps22
  go_wp2_with fail
  go_loopw [5, 10] (fun x i wr => ∃ (k N : Nat) (v : Value), k ≤ n ∧ i = .int .i64 k ∧ v = x ∧ Hid (Own8 wr w.heap.size v N (lineV var k)) ∧ Hid (Below w.heap.size w wr)) (fun _ i _ => n - (intOf i).toNat)
  case atStart => exact ⟨0, 0, _, Nat.zero_le _, rfl, rfl, Own8.nil _ _, Below.refl _ _⟩
  case round =>
    obtain ⟨k, N, v, hk, rfl, rfl, HO, HB⟩ := hrel
    have hN : N ≤ 520 := by
      have e1 := HO.out.len
      have e2 := HLEN.out k hk
      omega
    have hsz : w.heap.size ≤ wr.heap.size := HB.out.size
    by_cases hlk : k < n
    rotate_left
    · obtain rfl : k = n := by omega
      have hlkz : ¬ (k : Int) < (k : Int) := by omega
      have HO1 := hidQ ((HO.out.below (bl_a (.cells #[.int .u8 10] 5))).1)
      have HN1 := hidQ (one_news wr 10)
      have hB1 : w.heap.size ≤ (wr.alloc (.cells #[.int .u8 10] 5)).heap.size := Nat.le_trans hsz (by simp)
      have HB1 : Hid (Below w.heap.size w (wr.alloc (.cells #[.int .u8 10] 5))) := HB.out.trans ((bl_a (w := wr) _).mono hsz)
      have HLN : Hid ((lineV var k ++ [10]).length = N + 1) := (show _ = _ by have e1 := HO.out.len; simp; omega)
      clear HO
      go_wp2_with (refine app8 rfl (.tmp 22) (.tmp 23) rfl w.heap.size v N (lineV var k) rfl HO1 ⟨wr.heap.size, 0, none⟩ 1 1 [10] rfl rfl HN1 (by omega) (N + 1) rfl (lineV var k ++ [10]) rfl (by omega) hB1 ?_; intro g2 c2 w2 HR2 _ _ HB2x; have HB2 : Hid (Below w.heap.size w w2) := HB1.out.trans HB2x.out; clear HB2x HO1 HN1 hB1 HB1)
      go_ret
      refine ⟨g2, c2, by rw [HLN.out]; rfl, ?_, HB2.out⟩
      rw [HLN.out]
      exact HR2.out
    have hlkz : (k : Int) < (n : Int) := by omega
    have hsl := HSL.out k hlk
    have hcx : ∀ c u, ((var k).cells)[c]? = some u → wr.cell? ⟨b, off + k + c, none⟩ = some u := fun c u hu => (HB.out.cell (p := ⟨b, off + k + c, none⟩) hlt).trans (HC.out k hlk c u hu)
    have y0 : wr.cell? ⟨b, off + k, none⟩ = some (.slice (var k).a (var k).len (var k).cap) := by have h := hcx 0 _ rfl; simpa using h
    have Z := HST.out k hlk wr HB.out
    have HBo : Hid (∀ _ : Unit, Below w.heap.size w wr) := fun _ => HB.out
    have HOo : Hid (∀ _ : Unit, Own8 wr w.heap.size v N (lineV var k)) := fun _ => HO.out
    clear hcx
    go_wp2_with fail
    refine Z.mono ?_
    have HNK := hidQ (HNX.out k)
    obtain ⟨L1, hL1⟩ : ∃ L1, L1 = 63 :: (var k).b := ⟨_, rfl⟩
    rw [← hL1] at hsl HNK ⊢
    clear hL1
    rintro e w2 ⟨st, rfl, hst, hb2⟩
    have hss : st.size = L1.length := by rw [← hst, numsOf_len]
    have HS : Hid (numsOf st = L1) := hst
    have HB2 : Hid (Below w.heap.size w w2) := (HBo.out ()).trans (hb2.mono (HBo.out ()).size)
    have HO2 : Hid (Own8 w2 w.heap.size v N (lineV var k)) := (HOo.out ()).below hb2
    have hs2 : w.heap.size ≤ w2.heap.size := HB2.out.size
    have hst0 : 0 < st.size := by omega
    have hst1 : st.size ≤ 64 := by omega
    clear hst hss hb2 HBo HOo HB HO Z y0
    go_wp2_with (first
      | (refine app8s rfl (.tmp 14) (.tmp 17) rfl w.heap.size v N (lineV var k) rfl HO2 st rfl hst0 (N + st.size) rfl (lineV var k ++ numsOf st) rfl (by omega) hs2 ?_; intro g3 c3 w3 HR3 HB3x; have HB3 : Hid (Below w.heap.size w w3) := HB2.out.trans HB3x.out; have HO3 := hidQ ((HR3.out.below (bl_a (.cells #[.int .u8 32] 5))).1); have HN3 := hidQ (one_news w3 32); have hB3 : w.heap.size ≤ (w3.alloc (.cells #[.int .u8 32] 5)).heap.size := Nat.le_trans HB3.out.size (by simp); have HB3a : Hid (Below w.heap.size w (w3.alloc (.cells #[.int .u8 32] 5))) := HB3.out.trans ((bl_a (w := w3) _).mono HB3.out.size); clear HB3x HO2 hs2 HB2 HB3)
      | (refine app8 rfl (.tmp 18) (.tmp 19) rfl w.heap.size (.slice (some ⟨g3, 0, none⟩) (N + st.size) c3) (N + st.size) (lineV var k ++ numsOf st) rfl HO3 ⟨w3.heap.size, 0, none⟩ 1 1 [32] rfl rfl HN3 (by omega) (N + st.size + 1) rfl (lineV var k ++ numsOf st ++ [32]) rfl (by omega) hB3 ?_; intro g4 c4 w4 HR4 _ _ HB4x; have HB4 : Hid (Below w.heap.size w w4) := HB3a.out.trans HB4x.out; clear HB4x HO3 HN3 hB3 HB3a HR3))
    have HO4 : Hid (Own8 w4 w.heap.size (.slice (some ⟨g4, 0, none⟩) (N + st.size + 1) c4) (N + st.size + 1) (lineV var (k + 1))) := (show Own8 _ _ _ _ _ by have h := HR4.out.own8; rw [HNK.out, ← HS.out]; simpa [List.append_assoc] using h)
    go_roundw
    case rel => exact ⟨k + 1, N + st.size + 1, _, by omega, by go_num, rfl, HO4, HB4⟩
    case measure => simp [intOf]; omega
set_option maxHeartbeats 4000000 in
theorem lineCells_any (a : Option Addr) (n cap : Nat) (cel : Nat → CB) (w : World) (hR : KRow 0 w 5 a n (fun i => (cel i).cells)) (hl : ∀ i, i < n → (cel i).lies 0 w) (hn : n ≤ 8) (hok : ∀ i, i < n → cellOk (cel i)) (ht : Tab w) :
    Calls Tryz.prog 24 #[.slice a n cap, .func (.func 25) #[] #[]] w fun e w' => DigRes w (lineC cel n ++ [10]) e w' := by
  have HLEN : Hid (∀ k, k ≤ n → (lineC cel k).length ≤ k * 65) := fun k hk => lineC_len k (fun i hi => hok i (by omega))
  have HST : Hid (∀ k, k < n → ∀ W, Below w.heap.size w W → Calls Tryz.prog 25 #[.agg #[.bool (cel k).has, .int .i64 (cel k).t.t.k, .slice (cel k).t.t.a (cel k).t.t.len (cel k).t.t.cap, .int .i64 (cel k).t.t.n, .int .i64 (cel k).t.t.s]] W fun e w' => StrRes W (cellS (cel k)) e w') := fun k hk W hb => cellText_any (cel k) W ((hl k hk).upper (Upper.of_below hb)) (hok k hk) (ht.below hb)
  have HSL : Hid (∀ k, k < n → 1 ≤ (cellS (cel k)).length ∧ (cellS (cel k)).length ≤ 64) := fun k hk => cellS_len (hok k hk)
  have HNX : Hid (∀ k, lineC cel (k + 1) = lineC cel k ++ ((cellS (cel k)) ++ [32])) := fun k => (by rw [← cellTx_s]; rfl)
  clear hl hok ht
  by_cases hn0 : n = 0
  · subst hn0
    have HO1 := hidQ ((Own8.nil (w.alloc (.cells #[.int .u8 10] 5)) w.heap.size).1)
    have HN1 := hidQ (one_news w 10)
    have hB1 : w.heap.size ≤ (w.alloc (.cells #[.int .u8 10] 5)).heap.size := by simp
    have HB1 : Hid (Below w.heap.size w (w.alloc (.cells #[.int .u8 10] 5))) := bl_a _
    clear hR hn HLEN HST HSL HNX
    go_enter Tryz.func24, Tryz.ntmps24
    go_wp2
    go_loopw [5, 10] (fun x i wr => x = .slice none 0 0 ∧ i = .int .i64 0 ∧ wr = w) (fun _ _ _ => 0)
    case atStart => exact ⟨rfl, rfl, rfl⟩
    case round =>
      obtain ⟨rfl, rfl, hw⟩ := hrel
      subst hw
      go_wp2_with (refine app8 rfl (.tmp 22) (.tmp 23) rfl wr.heap.size (.slice none 0 0) 0 [] rfl HO1 ⟨wr.heap.size, 0, none⟩ 1 1 [10] rfl rfl HN1 (by omega) 1 rfl [10] rfl (by omega) hB1 ?_; intro g2 c2 w2 HR2 _ _ HB2x; have HB2 : Hid (Below wr.heap.size wr w2) := HB1.out.trans HB2x.out; clear HB2x HO1 HN1 hB1 HB1)
      go_ret
      exact ⟨g2, c2, rfl, HR2.out, HB2.out⟩
  obtain ⟨b, off, rfl, _, hlt, hc⟩ := hR.resolve_left hn0
  have HC : Hid (∀ i, i < n → ∀ c u, ((cel i).cells)[c]? = some u → w.cell? ⟨b, off + i * 5 + c, none⟩ = some u) := hc
  clear hR hc
  go_enter Tryz.func24, Tryz.ntmps24
  go_wp2_with fail
  go_loopw [5, 10] (fun x i wr => ∃ (k N : Nat) (v : Value), k ≤ n ∧ i = .int .i64 k ∧ v = x ∧ Hid (Own8 wr w.heap.size v N (lineC cel k)) ∧ Hid (Below w.heap.size w wr)) (fun _ i _ => n - (intOf i).toNat)
  case atStart => exact ⟨0, 0, _, Nat.zero_le _, rfl, rfl, Own8.nil _ _, Below.refl _ _⟩
  case round =>
    obtain ⟨k, N, v, hk, rfl, rfl, HO, HB⟩ := hrel
    have hN : N ≤ 520 := by
      have e1 := HO.out.len
      have e2 := HLEN.out k hk
      omega
    have hsz : w.heap.size ≤ wr.heap.size := HB.out.size
    by_cases hlk : k < n
    rotate_left
    · obtain rfl : k = n := by omega
      have hlkz : ¬ (k : Int) < (k : Int) := by omega
      have HO1 := hidQ ((HO.out.below (bl_a (.cells #[.int .u8 10] 5))).1)
      have HN1 := hidQ (one_news wr 10)
      have hB1 : w.heap.size ≤ (wr.alloc (.cells #[.int .u8 10] 5)).heap.size := Nat.le_trans hsz (by simp)
      have HB1 : Hid (Below w.heap.size w (wr.alloc (.cells #[.int .u8 10] 5))) := HB.out.trans ((bl_a (w := wr) _).mono hsz)
      have HLN : Hid ((lineC cel k ++ [10]).length = N + 1) := (show _ = _ by have e1 := HO.out.len; simp; omega)
      clear HO
      go_wp2_with (refine app8 rfl (.tmp 22) (.tmp 23) rfl w.heap.size v N (lineC cel k) rfl HO1 ⟨wr.heap.size, 0, none⟩ 1 1 [10] rfl rfl HN1 (by omega) (N + 1) rfl (lineC cel k ++ [10]) rfl (by omega) hB1 ?_; intro g2 c2 w2 HR2 _ _ HB2x; have HB2 : Hid (Below w.heap.size w w2) := HB1.out.trans HB2x.out; clear HB2x HO1 HN1 hB1 HB1)
      go_ret
      refine ⟨g2, c2, by rw [HLN.out]; rfl, ?_, HB2.out⟩
      rw [HLN.out]
      exact HR2.out
    have hlkz : (k : Int) < (n : Int) := by omega
    have hsl := HSL.out k hlk
    have hcx : ∀ c u, ((cel k).cells)[c]? = some u → wr.cell? ⟨b, off + k * 5 + c, none⟩ = some u := fun c u hu => (HB.out.cell (p := ⟨b, off + k * 5 + c, none⟩) hlt).trans (HC.out k hlk c u hu)
    have y0 := hcx 0 _ rfl
    have y1 := hcx 1 _ rfl
    have y2 := hcx 2 _ rfl
    have y3 := hcx 3 _ rfl
    have y4 := hcx 4 _ rfl
    simp only [Nat.add_zero] at y0
    have Z := fun o => HST.out k hlk (wr.alloc o) (HB.out.trans ((bl_a (w := wr) o).mono hsz))
    have HBo : Hid (∀ o, Below w.heap.size w (wr.alloc o)) := fun o => HB.out.trans ((bl_a (w := wr) o).mono hsz)
    have HOo : Hid (∀ o, Own8 (wr.alloc o) w.heap.size v N (lineC cel k)) := fun o => HO.out.below (bl_a o)
    clear hcx
    go_wp2_with fail
    refine (Z _).mono ?_
    have HNK := hidQ (HNX.out k)
    generalize (cellS (cel k)) = L1 at *
    rintro e w2 ⟨st, rfl, hst, hb2⟩
    have hss : st.size = L1.length := by rw [← hst, numsOf_len]
    have HS : Hid (numsOf st = L1) := hst
    have HB2 : Hid (Below w.heap.size w w2) := (HBo.out _).trans (hb2.mono (HBo.out _).size)
    have HO2 : Hid (Own8 w2 w.heap.size v N (lineC cel k)) := (HOo.out _).below hb2
    have hs2 : w.heap.size ≤ w2.heap.size := HB2.out.size
    have hst0 : 0 < st.size := by omega
    have hst1 : st.size ≤ 64 := by omega
    clear hst hss hb2 HBo HOo HB HO Z y0 y1 y2 y3 y4
    go_wp2_with (first
      | (refine app8s rfl (.tmp 14) (.tmp 17) rfl w.heap.size v N (lineC cel k) rfl HO2 st rfl hst0 (N + st.size) rfl (lineC cel k ++ numsOf st) rfl (by omega) hs2 ?_; intro g3 c3 w3 HR3 HB3x; have HB3 : Hid (Below w.heap.size w w3) := HB2.out.trans HB3x.out; have HO3 := hidQ ((HR3.out.below (bl_a (.cells #[.int .u8 32] 5))).1); have HN3 := hidQ (one_news w3 32); have hB3 : w.heap.size ≤ (w3.alloc (.cells #[.int .u8 32] 5)).heap.size := Nat.le_trans HB3.out.size (by simp); have HB3a : Hid (Below w.heap.size w (w3.alloc (.cells #[.int .u8 32] 5))) := HB3.out.trans ((bl_a (w := w3) _).mono HB3.out.size); clear HB3x HO2 hs2 HB2 HB3)
      | (refine app8 rfl (.tmp 18) (.tmp 19) rfl w.heap.size (.slice (some ⟨g3, 0, none⟩) (N + st.size) c3) (N + st.size) (lineC cel k ++ numsOf st) rfl HO3 ⟨w3.heap.size, 0, none⟩ 1 1 [32] rfl rfl HN3 (by omega) (N + st.size + 1) rfl (lineC cel k ++ numsOf st ++ [32]) rfl (by omega) hB3 ?_; intro g4 c4 w4 HR4 _ _ HB4x; have HB4 : Hid (Below w.heap.size w w4) := HB3a.out.trans HB4x.out; clear HB4x HO3 HN3 hB3 HB3a HR3))
    have HO4 : Hid (Own8 w4 w.heap.size (.slice (some ⟨g4, 0, none⟩) (N + st.size + 1) c4) (N + st.size + 1) (lineC cel (k + 1))) := (show Own8 _ _ _ _ _ by have h := HR4.out.own8; rw [HNK.out, ← HS.out]; simpa [List.append_assoc] using h)
    go_roundw
    case rel => exact ⟨k + 1, N + st.size + 1, _, by omega, by go_num, rfl, HO4, HB4⟩
    case measure => simp [intOf]; omega
end Go.Proofs.YtganfiajhokkmaaGreatDoor
