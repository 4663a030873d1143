/- PROVED: for every row of bytes: the text of the table drawn by it has a line more than rows, or is empty where the table may not be (FnLinesCardSaid; no condition; the tables of the library lie as the text of the program lays them, which the card ties). Texts put together: TbK TbL TbY TbZ -/
import Derived.Test.YtganfiajhokkmaaDoorNk09
import Derived.Test.YtganfiajhokkmaaDoorNk08
import Derived.Test.YtganfiajhokkmaaDoorNk06
import Derived.Test.YtganfiajhokkmaaDoorNk01
import Derived.Test.YtganfiajhokkmaaDoorCards
import Derived.Test.YtganfiajhokkmaaDoorTie
import Derived.LaidMore
import Derived.Stop.Joined
import Derived.Lib.LaidTab
import Derived.Stop.LaidErr
import Derived.SevenTiedAt
/- TbK -/
namespace Go.Proofs.YtganfiajhokkmaaDoor
open Go.RowKit Go.Deep
set_option maxRecDepth 100000

/-- What a cell's text is. -/
def cellS (x : CB) : List Int := if x.has = true then x.t.t.show x.t.b else [45]
theorem cellTx_s (x : CB) : cellTx x = cellS x ++ [32] := by
  unfold cellTx cellS
  split <;> rfl
theorem cellS_len {x : CB} (h : cellOk x) : 1 ≤ (cellS x).length ∧ (cellS x).length ≤ 64 := by
  unfold cellS
  split
  · rename_i hh
    exact Tm.show_len (t := x.t.t) (b := x.t.b) (h.1 hh)
  · simp
set_option maxHeartbeats 1000000 in
theorem cellText_any (x : CB) (w : World) (h : x.lies 0 w) (hok : cellOk x) (ht : Tab w) : Calls Tryd.prog 11 #[.agg #[.bool x.has, .int .i64 x.t.t.k, .slice x.t.t.a x.t.t.len x.t.t.cap, .int .i64 x.t.t.n, .int .i64 x.t.t.s]] w fun e w' => StrRes w (cellS x) e w' := by
  cases hh : x.has with
  | false =>
    have HS : Hid (cellS x = [45]) := (show _ = _ by unfold cellS; rw [hh]; rfl)
    clear h hok ht hh
    go_enter Tryd.func11, Tryd.ntmps11
    go_wp2_with fail
    go_ret
    exact ⟨⟨#[45]⟩, rfl, by rw [HS.out]; rfl, bl_a _⟩
  | true =>
    have hto : termOk x.t.t.k x.t.b x.t.t.n x.t.t.s = true := hok.1 hh
    have HS : Hid (cellS x = showL x.t.t.k x.t.t.n x.t.t.s x.t.b) := (show _ = _ by unfold cellS; rw [hh]; rfl)
    have SH : Hid (∀ o, Calls Tryd.prog 23 #[.agg #[.int .i64 x.t.t.k, .slice x.t.t.a x.t.t.len x.t.t.cap, .int .i64 x.t.t.n, .int .i64 x.t.t.s]] (w.alloc o) fun e w' => TxRes (w.alloc o) (showL x.t.t.k x.t.t.n x.t.t.s x.t.b) e w') := fun o => by
      have h1 := implShow_any x.t.t.k x.t.t.n x.t.t.s x.t.t.a x.t.t.len x.t.t.cap x.t.b (w.alloc o) (h.1.1.below (bl_a o)) h.2.1 h.2.2.1 h.2.2.2.1 h.2.2.2.2 (ht.below (bl_a o))
      unfold shownL at h1
      rwa [if_pos hto] at h1
    have HBy : Hid (Byt (showL x.t.t.k x.t.t.n x.t.t.s x.t.b)) := showL_byt h.1.1.byt
    generalize showL x.t.t.k x.t.t.n x.t.t.s x.t.b = L1 at *
    clear h hok ht hh hto
    go_enter Tryd.func11, Tryd.ntmps11
    go_wp2_with fail
    refine (SH.out _).mono ?_
    rintro e w1 ⟨a1, c1, rfl, hn1, hb1⟩
    have HB : Hid (Below w.heap.size w w1) := bl_trans (bl_a _) hb1
    have cv := hn1.bs.str (cap := c1)
    clear hn1 hb1 SH
    go_wp2_with fail
    go_ret
    exact ⟨_, rfl, by rw [HS.out]; exact numsOf_nums HBy.out, HB.out⟩
theorem varText_any (x : SL) (w : World) (h : BsF 0 w x) (hn : nameOk x.b = true) : Calls Tryd.prog 9 #[.slice x.a x.len x.cap] w fun e w' => StrRes w (63 :: x.b) e w' := by
  have cv := h.1.str (cap := x.cap)
  have HBy : Hid (numsOf (strOfNums x.b) = x.b) := numsOf_nums h.1.byt
  have hz : (strOfNums x.b).size ≤ 12 := by rw [strOfNums_size]; exact (name_len hn).2
  clear h hn
  generalize strOfNums x.b = st at *
  go_enter Tryd.func9, Tryd.ntmps9
  go_wp2_with fail
  go_ret
  refine ⟨_, rfl, ?_, Below.refl _ _⟩
  simp only [numsOf_append, HBy.out]
  simp [numsOf]
set_option maxHeartbeats 4000000 in
theorem lineVars_any (a : Option Addr) (n cap : Nat) (var : Nat → SL) (w : World) (hR : KRow 0 w 1 a n (fun i => (var i).cells)) (hl : ∀ i, i < n → (var i).lies 0 w) (hn : n ≤ 8) (hok : ∀ i, i < n → varOk var i) :
    Calls Tryd.prog 8 #[.slice a n cap, .func (.func 9) #[] #[]] w fun e w' => DigRes w (lineV var n ++ [10]) e w' := by
  have HLEN : Hid (∀ k, k ≤ n → (lineV var k).length ≤ k * 14) := fun k hk => lineV_len k (fun i hi => hok i (by omega))
  have HST : Hid (∀ k, k < n → ∀ W, Below w.heap.size w W → Calls Tryd.prog 9 #[.slice (var k).a (var k).len (var k).cap] W fun e w' => StrRes W (63 :: (var k).b) e w') := fun k hk W hb => varText_any (var k) W (BsF.upper (hl k hk) (Upper.of_below hb)) (hok k hk).1
  have HSL : Hid (∀ k, k < n → 1 ≤ (63 :: (var k).b).length ∧ (63 :: (var k).b).length ≤ 64) := fun k hk => (by have h := name_len (hok k hk).1; simp; omega)
  have HNX : Hid (∀ k, lineV var (k + 1) = lineV var k ++ ((63 :: (var k).b) ++ [32])) := fun k => (by simp [lineV])
  clear hl hok
  by_cases hn0 : n = 0
  · subst hn0
    have HO1 := hidQ ((Own8.nil (w.alloc (.cells #[.int .u8 10] 5)) w.heap.size).1)
    have HN1 := hidQ (one_news w 10)
    have hB1 : w.heap.size ≤ (w.alloc (.cells #[.int .u8 10] 5)).heap.size := by simp
    have HB1 : Hid (Below w.heap.size w (w.alloc (.cells #[.int .u8 10] 5))) := bl_a _
    clear hR hn HLEN HST HSL HNX
    go_enter Tryd.func8, Tryd.ntmps8
    go_wp2
    go_loopw [5, 10] (fun x i wr => x = .slice none 0 0 ∧ i = .int .i64 0 ∧ wr = w) (fun _ _ _ => 0)
    case atStart => exact ⟨rfl, rfl, rfl⟩
    case round =>
      obtain ⟨rfl, rfl, hw⟩ := hrel
      subst hw
      go_wp2_with (refine app8 rfl (.tmp 22) (.tmp 23) rfl wr.heap.size (.slice none 0 0) 0 [] rfl HO1 ⟨wr.heap.size, 0, none⟩ 1 1 [10] rfl rfl HN1 (by omega) 1 rfl [10] rfl (by omega) hB1 ?_; intro g2 c2 w2 HR2 _ _ HB2x; have HB2 : Hid (Below wr.heap.size wr w2) := HB1.out.trans HB2x.out; clear HB2x HO1 HN1 hB1 HB1)
      go_ret
      exact ⟨g2, c2, rfl, HR2.out, HB2.out⟩
  obtain ⟨b, off, rfl, _, hlt, hc⟩ := hR.resolve_left hn0
  have HC : Hid (∀ i, i < n → ∀ c u, ((var i).cells)[c]? = some u → w.cell? ⟨b, off + i + c, none⟩ = some u) := fun i hi c u hu => (by have h := hc i hi c u hu; rwa [Nat.mul_one] at h)
  clear hR hc
  go_enter Tryd.func8, Tryd.ntmps8
  go_wp2_with fail
  go_loopw [5, 10] (fun x i wr => ∃ (k N : Nat) (v : Value), k ≤ n ∧ i = .int .i64 k ∧ v = x ∧ Hid (Own8 wr w.heap.size v N (lineV var k)) ∧ Hid (Below w.heap.size w wr)) (fun _ i _ => n - (intOf i).toNat)
  case atStart => exact ⟨0, 0, _, Nat.zero_le _, rfl, rfl, Own8.nil _ _, Below.refl _ _⟩
  case round =>
    obtain ⟨k, N, v, hk, rfl, rfl, HO, HB⟩ := hrel
    have hN : N ≤ 520 := by
      have e1 := HO.out.len
      have e2 := HLEN.out k hk
      omega
    have hsz : w.heap.size ≤ wr.heap.size := HB.out.size
    by_cases hlk : k < n
    rotate_left
    · obtain rfl : k = n := by omega
      have hlkz : ¬ (k : Int) < (k : Int) := by omega
      have HO1 := hidQ ((HO.out.below (bl_a (.cells #[.int .u8 10] 5))).1)
      have HN1 := hidQ (one_news wr 10)
      have hB1 : w.heap.size ≤ (wr.alloc (.cells #[.int .u8 10] 5)).heap.size := Nat.le_trans hsz (by simp)
      have HB1 : Hid (Below w.heap.size w (wr.alloc (.cells #[.int .u8 10] 5))) := HB.out.trans ((bl_a (w := wr) _).mono hsz)
      have HLN : Hid ((lineV var k ++ [10]).length = N + 1) := (show _ = _ by have e1 := HO.out.len; simp; omega)
      clear HO
      go_wp2_with (refine app8 rfl (.tmp 22) (.tmp 23) rfl w.heap.size v N (lineV var k) rfl HO1 ⟨wr.heap.size, 0, none⟩ 1 1 [10] rfl rfl HN1 (by omega) (N + 1) rfl (lineV var k ++ [10]) rfl (by omega) hB1 ?_; intro g2 c2 w2 HR2 _ _ HB2x; have HB2 : Hid (Below w.heap.size w w2) := HB1.out.trans HB2x.out; clear HB2x HO1 HN1 hB1 HB1)
      go_ret
      refine ⟨g2, c2, by rw [HLN.out]; rfl, ?_, HB2.out⟩
      rw [HLN.out]
      exact HR2.out
    have hlkz : (k : Int) < (n : Int) := by omega
    have hsl := HSL.out k hlk
    have hcx : ∀ c u, ((var k).cells)[c]? = some u → wr.cell? ⟨b, off + k + c, none⟩ = some u := fun c u hu => (HB.out.cell (p := ⟨b, off + k + c, none⟩) hlt).trans (HC.out k hlk c u hu)
    have y0 : wr.cell? ⟨b, off + k, none⟩ = some (.slice (var k).a (var k).len (var k).cap) := by have h := hcx 0 _ rfl; simpa using h
    have Z := HST.out k hlk wr HB.out
    have HBo : Hid (∀ _ : Unit, Below w.heap.size w wr) := fun _ => HB.out
    have HOo : Hid (∀ _ : Unit, Own8 wr w.heap.size v N (lineV var k)) := fun _ => HO.out
    clear hcx
    go_wp2_with fail
    refine Z.mono ?_
    have HNK := hidQ (HNX.out k)
    obtain ⟨L1, hL1⟩ : ∃ L1, L1 = 63 :: (var k).b := ⟨_, rfl⟩
    rw [← hL1] at hsl HNK ⊢
    clear hL1
    rintro e w2 ⟨st, rfl, hst, hb2⟩
    have hss : st.size = L1.length := by rw [← hst, numsOf_len]
    have HS : Hid (numsOf st = L1) := hst
    have HB2 : Hid (Below w.heap.size w w2) := (HBo.out ()).trans (hb2.mono (HBo.out ()).size)
    have HO2 : Hid (Own8 w2 w.heap.size v N (lineV var k)) := (HOo.out ()).below hb2
    have hs2 : w.heap.size ≤ w2.heap.size := HB2.out.size
    have hst0 : 0 < st.size := by omega
    have hst1 : st.size ≤ 64 := by omega
    clear hst hss hb2 HBo HOo HB HO Z y0
    go_wp2_with (first
      | (refine app8s rfl (.tmp 14) (.tmp 17) rfl w.heap.size v N (lineV var k) rfl HO2 st rfl hst0 (N + st.size) rfl (lineV var k ++ numsOf st) rfl (by omega) hs2 ?_; intro g3 c3 w3 HR3 HB3x; have HB3 : Hid (Below w.heap.size w w3) := HB2.out.trans HB3x.out; have HO3 := hidQ ((HR3.out.below (bl_a (.cells #[.int .u8 32] 5))).1); have HN3 := hidQ (one_news w3 32); have hB3 : w.heap.size ≤ (w3.alloc (.cells #[.int .u8 32] 5)).heap.size := Nat.le_trans HB3.out.size (by simp); have HB3a : Hid (Below w.heap.size w (w3.alloc (.cells #[.int .u8 32] 5))) := HB3.out.trans ((bl_a (w := w3) _).mono HB3.out.size); clear HB3x HO2 hs2 HB2 HB3)
      | (refine app8 rfl (.tmp 18) (.tmp 19) rfl w.heap.size (.slice (some ⟨g3, 0, none⟩) (N + st.size) c3) (N + st.size) (lineV var k ++ numsOf st) rfl HO3 ⟨w3.heap.size, 0, none⟩ 1 1 [32] rfl rfl HN3 (by omega) (N + st.size + 1) rfl (lineV var k ++ numsOf st ++ [32]) rfl (by omega) hB3 ?_; intro g4 c4 w4 HR4 _ _ HB4x; have HB4 : Hid (Below w.heap.size w w4) := HB3a.out.trans HB4x.out; clear HB4x HO3 HN3 hB3 HB3a HR3))
    have HO4 : Hid (Own8 w4 w.heap.size (.slice (some ⟨g4, 0, none⟩) (N + st.size + 1) c4) (N + st.size + 1) (lineV var (k + 1))) := (show Own8 _ _ _ _ _ by have h := HR4.out.own8; rw [HNK.out, ← HS.out]; simpa [List.append_assoc] using h)
    go_roundw
    case rel => exact ⟨k + 1, N + st.size + 1, _, by omega, by go_num, rfl, HO4, HB4⟩
    case measure => simp [intOf]; omega
set_option maxHeartbeats 4000000 in
theorem lineCells_any (a : Option Addr) (n cap : Nat) (cel : Nat → CB) (w : World) (hR : KRow 0 w 5 a n (fun i => (cel i).cells)) (hl : ∀ i, i < n → (cel i).lies 0 w) (hn : n ≤ 8) (hok : ∀ i, i < n → cellOk (cel i)) (ht : Tab w) :
    Calls Tryd.prog 10 #[.slice a n cap, .func (.func 11) #[] #[]] w fun e w' => DigRes w (lineC cel n ++ [10]) e w' := by
  have HLEN : Hid (∀ k, k ≤ n → (lineC cel k).length ≤ k * 65) := fun k hk => lineC_len k (fun i hi => hok i (by omega))
  have HST : Hid (∀ k, k < n → ∀ W, Below w.heap.size w W → Calls Tryd.prog 11 #[.agg #[.bool (cel k).has, .int .i64 (cel k).t.t.k, .slice (cel k).t.t.a (cel k).t.t.len (cel k).t.t.cap, .int .i64 (cel k).t.t.n, .int .i64 (cel k).t.t.s]] W fun e w' => StrRes W (cellS (cel k)) e w') := fun k hk W hb => cellText_any (cel k) W ((hl k hk).upper (Upper.of_below hb)) (hok k hk) (ht.below hb)
  have HSL : Hid (∀ k, k < n → 1 ≤ (cellS (cel k)).length ∧ (cellS (cel k)).length ≤ 64) := fun k hk => cellS_len (hok k hk)
  have HNX : Hid (∀ k, lineC cel (k + 1) = lineC cel k ++ ((cellS (cel k)) ++ [32])) := fun k => (by rw [← cellTx_s]; rfl)
  clear hl hok ht
  by_cases hn0 : n = 0
  · subst hn0
    have HO1 := hidQ ((Own8.nil (w.alloc (.cells #[.int .u8 10] 5)) w.heap.size).1)
    have HN1 := hidQ (one_news w 10)
    have hB1 : w.heap.size ≤ (w.alloc (.cells #[.int .u8 10] 5)).heap.size := by simp
    have HB1 : Hid (Below w.heap.size w (w.alloc (.cells #[.int .u8 10] 5))) := bl_a _
    clear hR hn HLEN HST HSL HNX
    go_enter Tryd.func10, Tryd.ntmps10
    go_wp2
    go_loopw [5, 10] (fun x i wr => x = .slice none 0 0 ∧ i = .int .i64 0 ∧ wr = w) (fun _ _ _ => 0)
    case atStart => exact ⟨rfl, rfl, rfl⟩
    case round =>
      obtain ⟨rfl, rfl, hw⟩ := hrel
      subst hw
      go_wp2_with (refine app8 rfl (.tmp 22) (.tmp 23) rfl wr.heap.size (.slice none 0 0) 0 [] rfl HO1 ⟨wr.heap.size, 0, none⟩ 1 1 [10] rfl rfl HN1 (by omega) 1 rfl [10] rfl (by omega) hB1 ?_; intro g2 c2 w2 HR2 _ _ HB2x; have HB2 : Hid (Below wr.heap.size wr w2) := HB1.out.trans HB2x.out; clear HB2x HO1 HN1 hB1 HB1)
      go_ret
      exact ⟨g2, c2, rfl, HR2.out, HB2.out⟩
  obtain ⟨b, off, rfl, _, hlt, hc⟩ := hR.resolve_left hn0
  have HC : Hid (∀ i, i < n → ∀ c u, ((cel i).cells)[c]? = some u → w.cell? ⟨b, off + i * 5 + c, none⟩ = some u) := hc
  clear hR hc
  go_enter Tryd.func10, Tryd.ntmps10
  go_wp2_with fail
  go_loopw [5, 10] (fun x i wr => ∃ (k N : Nat) (v : Value), k ≤ n ∧ i = .int .i64 k ∧ v = x ∧ Hid (Own8 wr w.heap.size v N (lineC cel k)) ∧ Hid (Below w.heap.size w wr)) (fun _ i _ => n - (intOf i).toNat)
  case atStart => exact ⟨0, 0, _, Nat.zero_le _, rfl, rfl, Own8.nil _ _, Below.refl _ _⟩
  case round =>
    obtain ⟨k, N, v, hk, rfl, rfl, HO, HB⟩ := hrel
    have hN : N ≤ 520 := by
      have e1 := HO.out.len
      have e2 := HLEN.out k hk
      omega
    have hsz : w.heap.size ≤ wr.heap.size := HB.out.size
    by_cases hlk : k < n
    rotate_left
    · obtain rfl : k = n := by omega
      have hlkz : ¬ (k : Int) < (k : Int) := by omega
      have HO1 := hidQ ((HO.out.below (bl_a (.cells #[.int .u8 10] 5))).1)
      have HN1 := hidQ (one_news wr 10)
      have hB1 : w.heap.size ≤ (wr.alloc (.cells #[.int .u8 10] 5)).heap.size := Nat.le_trans hsz (by simp)
      have HB1 : Hid (Below w.heap.size w (wr.alloc (.cells #[.int .u8 10] 5))) := HB.out.trans ((bl_a (w := wr) _).mono hsz)
      have HLN : Hid ((lineC cel k ++ [10]).length = N + 1) := (show _ = _ by have e1 := HO.out.len; simp; omega)
      clear HO
      go_wp2_with (refine app8 rfl (.tmp 22) (.tmp 23) rfl w.heap.size v N (lineC cel k) rfl HO1 ⟨wr.heap.size, 0, none⟩ 1 1 [10] rfl rfl HN1 (by omega) (N + 1) rfl (lineC cel k ++ [10]) rfl (by omega) hB1 ?_; intro g2 c2 w2 HR2 _ _ HB2x; have HB2 : Hid (Below w.heap.size w w2) := HB1.out.trans HB2x.out; clear HB2x HO1 HN1 hB1 HB1)
      go_ret
      refine ⟨g2, c2, by rw [HLN.out]; rfl, ?_, HB2.out⟩
      rw [HLN.out]
      exact HR2.out
    have hlkz : (k : Int) < (n : Int) := by omega
    have hsl := HSL.out k hlk
    have hcx : ∀ c u, ((cel k).cells)[c]? = some u → wr.cell? ⟨b, off + k * 5 + c, none⟩ = some u := fun c u hu => (HB.out.cell (p := ⟨b, off + k * 5 + c, none⟩) hlt).trans (HC.out k hlk c u hu)
    have y0 := hcx 0 _ rfl
    have y1 := hcx 1 _ rfl
    have y2 := hcx 2 _ rfl
    have y3 := hcx 3 _ rfl
    have y4 := hcx 4 _ rfl
    simp only [Nat.add_zero] at y0
    have Z := fun o => HST.out k hlk (wr.alloc o) (HB.out.trans ((bl_a (w := wr) o).mono hsz))
    have HBo : Hid (∀ o, Below w.heap.size w (wr.alloc o)) := fun o => HB.out.trans ((bl_a (w := wr) o).mono hsz)
    have HOo : Hid (∀ o, Own8 (wr.alloc o) w.heap.size v N (lineC cel k)) := fun o => HO.out.below (bl_a o)
    clear hcx
    go_wp2_with fail
    refine (Z _).mono ?_
    have HNK := hidQ (HNX.out k)
    generalize (cellS (cel k)) = L1 at *
    rintro e w2 ⟨st, rfl, hst, hb2⟩
    have hss : st.size = L1.length := by rw [← hst, numsOf_len]
    have HS : Hid (numsOf st = L1) := hst
    have HB2 : Hid (Below w.heap.size w w2) := (HBo.out _).trans (hb2.mono (HBo.out _).size)
    have HO2 : Hid (Own8 w2 w.heap.size v N (lineC cel k)) := (HOo.out _).below hb2
    have hs2 : w.heap.size ≤ w2.heap.size := HB2.out.size
    have hst0 : 0 < st.size := by omega
    have hst1 : st.size ≤ 64 := by omega
    clear hst hss hb2 HBo HOo HB HO Z y0 y1 y2 y3 y4
    go_wp2_with (first
      | (refine app8s rfl (.tmp 14) (.tmp 17) rfl w.heap.size v N (lineC cel k) rfl HO2 st rfl hst0 (N + st.size) rfl (lineC cel k ++ numsOf st) rfl (by omega) hs2 ?_; intro g3 c3 w3 HR3 HB3x; have HB3 : Hid (Below w.heap.size w w3) := HB2.out.trans HB3x.out; have HO3 := hidQ ((HR3.out.below (bl_a (.cells #[.int .u8 32] 5))).1); have HN3 := hidQ (one_news w3 32); have hB3 : w.heap.size ≤ (w3.alloc (.cells #[.int .u8 32] 5)).heap.size := Nat.le_trans HB3.out.size (by simp); have HB3a : Hid (Below w.heap.size w (w3.alloc (.cells #[.int .u8 32] 5))) := HB3.out.trans ((bl_a (w := w3) _).mono HB3.out.size); clear HB3x HO2 hs2 HB2 HB3)
      | (refine app8 rfl (.tmp 18) (.tmp 19) rfl w.heap.size (.slice (some ⟨g3, 0, none⟩) (N + st.size) c3) (N + st.size) (lineC cel k ++ numsOf st) rfl HO3 ⟨w3.heap.size, 0, none⟩ 1 1 [32] rfl rfl HN3 (by omega) (N + st.size + 1) rfl (lineC cel k ++ numsOf st ++ [32]) rfl (by omega) hB3 ?_; intro g4 c4 w4 HR4 _ _ HB4x; have HB4 : Hid (Below w.heap.size w w4) := HB3a.out.trans HB4x.out; clear HB4x HO3 HN3 hB3 HB3a HR3))
    have HO4 : Hid (Own8 w4 w.heap.size (.slice (some ⟨g4, 0, none⟩) (N + st.size + 1) c4) (N + st.size + 1) (lineC cel (k + 1))) := (show Own8 _ _ _ _ _ by have h := HR4.out.own8; rw [HNK.out, ← HS.out]; simpa [List.append_assoc] using h)
    go_roundw
    case rel => exact ⟨k + 1, N + st.size + 1, _, by omega, by go_num, rfl, HO4, HB4⟩
    case measure => simp [intOf]; omega
end Go.Proofs.YtganfiajhokkmaaDoor

/- TbL -/
namespace Go.Proofs.YtganfiajhokkmaaDoor
open Go.RowKit Go.Deep
set_option maxRecDepth 100000

theorem upTo_next (t : TL) (k : Nat) : upTo t (k + 1) = upTo t k ++ (lineC (t.row k).cel (t.row k).n ++ [10]) := by
  simp [upTo, rowsTx, List.append_assoc]
set_option maxHeartbeats 8000000 in
theorem implTableText_any (t : TL) (w : World) (h : t.lies 0 w) (ht : Tab w) : Calls Tryd.prog 4 #[.agg #[.slice t.va t.vn t.vc, .slice t.ra t.rn t.rc]] w (TabAns t w) := by
  have HV : Hid (∀ W, Below w.heap.size w W → Calls Tryd.prog 6 #[.slice t.va t.vn t.vc] W (Tells (varsOkL t.vn t.var) W)) := fun W hb => varsOkP_any t.va t.vn t.vc t.var W (h.1.upper (Upper.of_below hb)) (fun i hi => (h.2.1 i hi).upper (Upper.of_below hb)) h.2.2.1
  have HR : Hid (∀ W, Below w.heap.size w W → Calls Tryd.prog 7 #[.slice t.ra t.rn t.rc, .slice t.va t.vn t.vc] W (Tells (t.rn ≤ 300 ∧ ∀ i, i < t.rn → solOk (t.row i) t.vn) W)) := fun W hb => rowsOk_any t.ra t.rn t.rc t.row t.vn t.vc t.va W h.2.2.2.2.2 (h.2.2.2.1.upper (Upper.of_below hb)) (fun i hi => (h.2.2.2.2.1 i hi).upper (Upper.of_below hb))
  have HLV : Hid (tabOk t → ∀ W, Below w.heap.size w W → Calls Tryd.prog 8 #[.slice t.va t.vn t.vc, .func (.func 9) #[] #[]] W fun e w' => DigRes W (lineV t.var t.vn ++ [10]) e w') := fun hok W hb => lineVars_any t.va t.vn t.vc t.var W (h.1.upper (Upper.of_below hb)) (fun i hi => (h.2.1 i hi).upper (Upper.of_below hb)) hok.1.1 hok.1.2
  have HLC : Hid (tabOk t → ∀ k, k < t.rn → ∀ W, Below w.heap.size w W → Calls Tryd.prog 10 #[.slice (t.row k).a (t.row k).n (t.row k).cap, .func (.func 11) #[] #[]] W fun e w' => DigRes W (lineC (t.row k).cel (t.row k).n ++ [10]) e w') := fun hok k hk W hb => lineCells_any (t.row k).a (t.row k).n (t.row k).cap (t.row k).cel W ((h.2.2.2.2.1 k hk).1.upper (Upper.of_below hb)) (fun i hi => ((h.2.2.2.2.1 k hk).2.1 i hi).upper (Upper.of_below hb)) (by rw [(hok.2.2 k hk).1]; exact hok.1.1) (fun i hi => (hok.2.2 k hk).2 i hi) (ht.below hb)
  have HLL : Hid (tabOk t → ∀ k, k < t.rn → (lineC (t.row k).cel (t.row k).n ++ [10]).length ≤ 521) := fun hok k hk => by
    have h1 := lineC_len (t.row k).n (fun i hi => (hok.2.2 k hk).2 i hi)
    have h2 : (t.row k).n ≤ 8 := by rw [(hok.2.2 k hk).1]; exact hok.1.1
    simp only [List.length_append, List.length_cons, List.length_nil]
    omega
  have HBY : Hid (Byt (tabTx t)) := tabTx_byt h
  have HRR : Hid (KRow 0 w 1 t.ra t.rn (fun i => (t.row i).cells)) := h.2.2.2.1
  have HXW : Hid (Box (w.alloc (.cells #[.slice t.va t.vn t.vc, .slice t.ra t.rn t.rc] 27)) w.heap.size [.slice t.va t.vn t.vc, .slice t.ra t.rn t.rc]) := Box.new w #[.slice t.va t.vn t.vc, .slice t.ra t.rn t.rc] 27 (0, 0)
  clear h ht
  go_enter Tryd.func4, Tryd.ntmps4
  go_wp2_with fail
  refine (HV.out _ (bl_a _)).mono ?_
  rintro e w1 ⟨q1, rfl, hq1, hb1⟩
  have HB1 : Hid (Below w.heap.size w w1) := bl_trans (bl_a _) hb1
  have HX1 : Hid (Box w1 w.heap.size [.slice t.va t.vn t.vc, .slice t.ra t.rn t.rc]) := HXW.out.below hb1
  clear hb1 HV HXW
  cases q1 with
  | false =>
    have HNO : Hid (¬ tabOk t) := fun hh => by have h := hq1.2 hh.1; cases h
    clear hq1
    go_wp2_with fail
    go_ret
    exact TabAns.no HNO.out HB1.out
  | true =>
  have HVO : Hid (varsOkL t.vn t.var) := hq1.1 rfl
  have x0 := HX1.out.2 0 _ rfl
  have x1 := HX1.out.2 1 _ rfl
  clear hq1
  go_wp2_with fail
  refine (HR.out _ HB1.out).mono ?_
  rintro e w2 ⟨q2, rfl, hq2, hb2⟩
  have HB2 : Hid (Below w.heap.size w w2) := bl_trans HB1.out hb2
  have HX2 : Hid (Box w2 w.heap.size [.slice t.va t.vn t.vc, .slice t.ra t.rn t.rc]) := HX1.out.below hb2
  clear hb2 HR HX1 HB1 x0 x1
  cases q2 with
  | false =>
    have HNO : Hid (¬ tabOk t) := fun hh => by have h := hq2.2 hh.2; cases h
    clear hq2
    go_wp2_with fail
    go_ret
    exact TabAns.no HNO.out HB2.out
  | true =>
  have HOK : Hid (tabOk t) := ⟨HVO.out, hq2.1 rfl⟩
  have x0 := HX2.out.2 0 _ rfl
  clear hq2 HVO
  go_wp2_with fail
  refine (HLV.out HOK.out _ HB2.out).mono ?_
  rintro e w3 ⟨g3, c3, rfl, hr3, hb3⟩
  have HB3 : Hid (Below w.heap.size w w3) := bl_trans HB2.out hb3
  have HX3 : Hid (Box w3 w.heap.size [.slice t.va t.vn t.vc, .slice t.ra t.rn t.rc]) := HX2.out.below hb3
  have HL3 : Hid (∀ k, k ≤ t.rn → (upTo t k).length ≤ 113 + k * 521) := fun k hk => upTo_len HOK.out k hk
  have HO3 : Hid (Own8 w3 (w.heap.size + 1) (.slice (some ⟨g3, 0, none⟩) (lineV t.var t.vn ++ [10]).length c3) (lineV t.var t.vn ++ [10]).length (upTo t 0)) := (show Own8 _ _ _ _ _ by have h := (hr3.mono (B' := (w.heap.size + 1)) (HX2.out.1)).own8; simpa [upTo, rowsTx] using h)
  obtain ⟨N3, hN3⟩ : ∃ N3, N3 = (lineV t.var t.vn ++ [10]).length := ⟨_, rfl⟩
  rw [← hN3] at HO3 ⊢
  have hr300 := HOK.out.2.1
  clear hb3 HLV HX2 HB2 x0 hr3 hN3
  have x1 : w3.cell? ⟨w.heap.size, 1, none⟩ = some (.slice t.ra t.rn t.rc) := HX3.out.2 1 _ rfl
  have hfin : ∀ (v : Value) (N : Nat) (W : World), Own8 W (w.heap.size + 1) v N (upTo t t.rn) → Below w.heap.size w W → TabAns t w (.returned v) W := fun v N W hO hb => by
    have hlen := hO.len
    have hle := HL3.out t.rn (Nat.le_refl _)
    obtain ⟨a', cp, rfl, hnw⟩ := hO.nw HBY.out (by omega)
    refine ⟨_, .inl ⟨HOK.out, rfl⟩, a', cp, ?_, ?_, hb⟩
    · show _ = Ending.returned (.slice a' (upTo t t.rn).length cp)
      rw [hlen]
    · show Nw W w.heap.size a' (upTo t t.rn).length (upTo t t.rn)
      rw [hlen]
      exact hnw.mono (Nat.le_succ _)
  have HFIN := hidQ hfin
  clear hfin
  by_cases hr0 : t.rn = 0
  · rw [hr0] at x1 HFIN
    clear hr0 hr300 HLC HLL HRR
    go_wp2_with fail
    go_loopw [3, 24] (fun x i wr => x = .slice (some ⟨g3, 0, none⟩) N3 c3 ∧ i = .int .i64 0 ∧ wr = w3) (fun _ _ _ => 0)
    case atStart => exact ⟨rfl, rfl, rfl⟩
    case round =>
      obtain ⟨rfl, rfl, hw⟩ := hrel
      subst hw
      go_wp2_with fail
      go_ret
      exact HFIN.out _ _ _ HO3.out HB3.out
  obtain ⟨b, off, ea, _, hlt, hc⟩ := HRR.out.resolve_left hr0
  have HC : Hid (∀ i, i < t.rn → w.cell? ⟨b, off + i, none⟩ = some (.slice (t.row i).a (t.row i).n (t.row i).cap)) := fun i hi => (by have h := hc i hi 0 _ rfl; rwa [Nat.mul_one] at h)
  rw [ea] at x1
  clear hc ea HRR
  go_wp2_with fail
  clear x1
  go_loopw [3, 24] (fun x i wr => ∃ (k N : Nat) (v : Value), k ≤ t.rn ∧ i = .int .i64 k ∧ v = x ∧ Hid (Own8 wr (w.heap.size + 1) v N (upTo t k)) ∧ Hid (Below w.heap.size w wr) ∧ (w.heap.size + 1) ≤ wr.heap.size) (fun _ i _ => t.rn - (intOf i).toNat)
  case atStart => exact ⟨0, N3, _, Nat.zero_le _, rfl, rfl, HO3, HB3, HX3.out.1⟩
  case round =>
    clear HO3 HB3 HX3
    obtain ⟨k, N, v, hk, rfl, rfl, HO, HB, hsz⟩ := hrel
    have hN : N ≤ 157000 := by
      have e1 := HO.out.len
      have e2 := HL3.out k hk
      omega
    by_cases hlk : k < t.rn
    rotate_left
    · obtain rfl : k = t.rn := by omega
      have hlkz : ¬ (t.rn : Int) < (t.rn : Int) := by omega
      go_wp2_with fail
      go_ret
      exact HFIN.out _ _ _ HO.out HB.out
    have hlkz : (k : Int) < (t.rn : Int) := by omega
    have y0 : wr.cell? ⟨b, off + k, none⟩ = some (.slice (t.row k).a (t.row k).n (t.row k).cap) := (HB.out.cell (p := ⟨b, off + k, none⟩) hlt).trans (HC.out k hlk)
    have Z := fun o => HLC.out HOK.out k hlk (wr.alloc o) (bl_trans HB.out (bl_a o))
    have hll := HLL.out HOK.out k hlk
    have HNK := hidQ (upTo_next t k)
    have hl1 : 0 < (lineC (t.row k).cel (t.row k).n ++ [10]).length := by simp
    have HBo : Hid (∀ o, Below w.heap.size w (wr.alloc o)) := fun o => bl_trans HB.out (bl_a o)
    have HOo : Hid (∀ o, Own8 (wr.alloc o) (w.heap.size + 1) v N (upTo t k)) := fun o => HO.out.below (bl_a o)
    generalize (lineC (t.row k).cel (t.row k).n ++ [10]) = L1 at *
    go_wp2_with fail
    refine (Z _).mono ?_
    rintro e w4 ⟨g4, c4, rfl, hr4, hb4⟩
    have HB4 : Hid (Below w.heap.size w w4) := bl_trans (HBo.out _) hb4
    have HO4 := hidQ (((HOo.out _).below hb4).1)
    have HN4 : Hid (∀ j u, (L1.map (Value.int .u8))[j]? = some u → w4.cell? ((⟨g4, 0, none⟩ : Addr).add j) = some u) := hr4.news
    have hs4 : (w.heap.size + 1) ≤ w4.heap.size := Nat.le_trans hsz (Nat.le_trans (by simp) hb4.size)
    clear Z hr4 hb4 HBo HOo y0 HO HB
    go_wp2_with (refine app8 rfl (.tmp 28) (.tmp 31) rfl (w.heap.size + 1) v N (upTo t k) rfl HO4 ⟨g4, 0, none⟩ L1.length _ L1 rfl rfl HN4 (by omega) (N + L1.length) rfl (upTo t k ++ L1) rfl (by omega) hs4 ?_; intro g5 c5 w5 HR5 _ _ HB5x; have HB5 : Hid (Below w.heap.size w w5) := HB4.out.trans (HB5x.out.mono (Nat.le_succ _)); have hs5 : (w.heap.size + 1) ≤ w5.heap.size := Nat.le_trans hs4 HB5x.out.size; clear HB5x HO4 HN4 hs4 HB4)
    have HO5 : Hid (Own8 w5 (w.heap.size + 1) (.slice (some ⟨g5, 0, none⟩) (N + L1.length) c5) (N + L1.length) (upTo t (k + 1))) := (show Own8 _ _ _ _ _ by rw [HNK.out]; exact HR5.out.own8)
    go_roundw
    case rel => exact ⟨k + 1, N + L1.length, _, by omega, by go_num, rfl, HO5, HB5, hs5⟩
    case measure => simp [intOf]; omega
end Go.Proofs.YtganfiajhokkmaaDoor

/- TbY -/
namespace Go.Proofs.YtganfiajhokkmaaDoor
open Go.RowKit Go.Deep
set_option maxRecDepth 100000

def t00 : TL := ⟨none, 0, 0, fun _ => ⟨none, 0, 0, []⟩, none, 0, 0, fun _ => ⟨none, 0, 0, fun _ => zCB⟩⟩
theorem t00_lies (w : World) : t00.lies 0 w := ⟨.inl rfl, fun _ hi => absurd hi (Nat.not_lt_zero _), Nat.zero_le _, .inl rfl, fun _ hi => absurd hi (Nat.not_lt_zero _), Nat.zero_le _⟩
theorem count_step (bs : List Int) (k : Nat) (hk : k < bs.length) : (bs.take (k + 1)).count 10 = (bs.take k).count 10 + if bs[k]?.getD 0 = 10 then 1 else 0 := by
  rw [List.take_add_one, List.count_append, List.getElem?_eq_getElem hk]
  simp only [Option.toList_some, Option.getD_some, List.count_singleton]
  by_cases h : bs[k] = 10
  · simp [h]
  · simp [h]
set_option maxHeartbeats 4000000 in
theorem walkLines (a : Option Addr) (len cap : Nat) (w : World) (hlen : len ≤ 9223372036854775807) (hC : Code w a len) (ht : Tab w) :
    Calls Tryd.prog 3 #[.slice a len cap] w fun e w' => e = .returned (.bool true) ∧ Below w.heap.size w w' := by
  have HCD : Hid (∀ W, Below w.heap.size w W → Code W a len) := fun W hW => by
    rcases hC with h | ⟨b, off, ha, hlt, hc⟩
    · exact .inl h
    · refine .inr ⟨b, off, ha, Nat.lt_of_lt_of_le hlt hW.size, fun i hi => ?_⟩
      rw [hW.cell (p := ⟨b, off + i, none⟩) hlt]
      exact hc i hi
  have HTB : Hid (∀ W, Below w.heap.size w W → Tab W) := fun W h => ht.below h
  have h0 : Calls Tryd.prog 4 #[.agg #[.slice none 0 0, .slice none 0 0]] w fun e w' => ∃ x c, e = .returned (.slice x 1 c) ∧ Below w.heap.size w w' := (implTableText_any t00 w (t00_lies w) ht).mono fun r w' hh => by
    obtain ⟨bs, hb, x, c, e, _, hbl⟩ := hh
    have hbs : bs = [10] := by
      rcases hb with ⟨_, h⟩ | ⟨h, _⟩
      · rw [h]
        exact tab_empty_text rfl rfl
      · exact absurd (tab_empty rfl rfl) h
    subst hbs
    exact ⟨x, c, e, hbl⟩
  have HDR : Hid (∀ W, Below w.heap.size w W → Calls Tryd.prog 5 #[.slice a len cap] W (TabDrawn W)) := fun W h => DrawTable_any a len cap W hlen (HCD.out W h)
  have HIM : Hid (∀ (t : TL) W, t.lies 0 W → Tab W → Calls Tryd.prog 4 #[.agg #[.slice t.va t.vn t.vc, .slice t.ra t.rn t.rc]] W (TabAns t W)) := fun t W h hT => implTableText_any t W h hT
  clear hC ht
  go_enter Tryd.func3, Tryd.ntmps3
  go_wp2_with fail
  refine h0.mono ?_
  rintro e w1 ⟨x1, c1, rfl, hb1⟩
  have HB1 : Hid (Below w.heap.size w w1) := hb1
  have hD := HDR.out w1 hb1
  clear h0 hb1
  go_wp2_with fail
  refine hD.mono ?_
  rintro e w2 ⟨t, rfl, hl, hb2⟩
  have HB2 : Hid (Below w.heap.size w w2) := bl_trans HB1.out hb2
  have HB5 : Hid (Below w2.heap.size w2 ((w2.alloc (.cells #[.slice none 0 0, .slice none 0 0] 27)).setCells w2.heap.size 0 [.slice t.va t.vn t.vc, .slice t.ra t.rn t.rc])) := below_sets _ (Nat.le_refl _) _ _ _ (bl_a _)
  have HX5 : Hid (Box ((w2.alloc (.cells #[.slice none 0 0, .slice none 0 0] 27)).setCells w2.heap.size 0 [.slice t.va t.vn t.vc, .slice t.ra t.rn t.rc]) w2.heap.size [.slice t.va t.vn t.vc, .slice t.ra t.rn t.rc]) := ((OB.new w2 #[.slice none 0 0, .slice none 0 0] 27).sets [.slice t.va t.vn t.vc, .slice t.ra t.rn t.rc] 0).box
  have HL5 : Hid (t.lies 0 ((w2.alloc (.cells #[.slice none 0 0, .slice none 0 0] 27)).setCells w2.heap.size 0 [.slice t.va t.vn t.vc, .slice t.ra t.rn t.rc])) := hl.upper (Upper.of_below HB5.out)
  have st : (w2.alloc (.cells #[.slice none 0 0, .slice none 0 0] 27)).there w2.heap.size 0 2 := (OB.new w2 #[.slice none 0 0, .slice none 0 0] 27).there 0 2 (by simp)
  have on : (#[.slice t.va t.vn t.vc, .slice t.ra t.rn t.rc] : Array Value).all (·.oneCell') = true := all_oneCell_toArray (cs := [.slice t.va t.vn t.vc, .slice t.ra t.rn t.rc]) (by simp [Value.oneCell'])
  have hvn : t.vn ≤ 1048576 := hl.2.2.1
  have hrn : t.rn ≤ 1048576 := hl.2.2.2.2.2
  clear hD hl hb2 HB1
  go_upto_region 4 with (with_reducible refine wpr_at ?_; refine wpList_store_mid rfl 27 _ _ rfl _ _ _ rfl rfl st (by kernel_rfl) on ?_; try simp only [Act.put])
  clear st on
  generalize ((w2.alloc (.cells #[.slice none 0 0, .slice none 0 0] 27)).setCells w2.heap.size 0 [.slice t.va t.vn t.vc, .slice t.ra t.rn t.rc]) = W5 at *
  have HBW : Hid (Below w.heap.size w W5) := bl_trans HB2.out HB5.out
  generalize w2.heap.size = q at *
  have lr : W5.rangeAt q 0 [.slice t.va t.vn t.vc, .slice t.ra t.rn t.rc] := HX5.out.range 0 _ rfl
  have hI := HIM.out t W5 HL5.out (HTB.out _ HBW.out)
  go_wp2_with (with_reducible refine wpr_at ?_; refine wpList_load_mid rfl 27 _ rfl _ _ rfl [.slice t.va t.vn t.vc, .slice t.ra t.rn t.rc] _ lr Tryd.underlying27 rfl (by kernel_rfl) ?_; try simp only [Act.put, List.setIfInBounds_toArray, List.set_cons_zero, List.set_cons_succ])
  refine hI.mono ?_
  rintro e w6 ⟨bs, hbs, ab, cb, rfl, hN6, hb6⟩
  have HBS : Hid ((tabOk t ∧ bs = tabTx t) ∨ ¬tabOk t ∧ bs = []) := hbs
  have HN : Hid (Bs w6 ab bs.length bs) := hN6.bs
  have HW6 : Hid (Below w.heap.size w w6) := bl_trans HBW.out hb6
  have HX6 : Hid (Box w6 q [.slice t.va t.vn t.vc, .slice t.ra t.rn t.rc]) := HX5.out.below hb6
  have cq0 := HX6.out.2 0 _ rfl
  have cq1 := HX6.out.2 1 _ rfl
  clear hbs hN6 hb6 lr hI HX5 HB5 HL5 HBW HB2
  by_cases hok : tabOk t
  · have HE : Hid (bs = tabTx t) := by
      rcases HBS.out with h | h
      · exact h.2
      · exact absurd hok h.1
    have HCT : Hid (bs.count 10 = t.rn + 1) := by
      show bs.count 10 = _
      rw [HE.out]
      exact tab_count hok
    have HNE : Hid (bs.length ≠ 0) := fun h => tab_some t (by rw [← HE.out]; exact List.eq_nil_of_length_eq_zero h)
    obtain ⟨L, hL⟩ : ∃ L, bs.length = L := ⟨_, rfl⟩
    have HLB : Hid (bs.length = L) := hL
    rw [hL] at HN ⊢
    have hL0 : ¬ L = 0 := fun h => HNE.out (HLB.out.trans h)
    have hLm : L ≤ 1048576 := HN.out.2.1
    clear hL hok HBS HE HNE
    obtain ⟨bb, off, rfl, hbl, hcell⟩ := HN.out.2.2.2.resolve_left hL0
    have HCE : Hid (∀ i, i < L → w6.cell? ⟨bb, off + i, none⟩ = some (.int .u8 (bs[i]?.getD 0))) := hcell
    clear hcell
    have hL0z : ¬ (L : Int) = 0 := by omega
    go_wp2_with fail
    go_loopw [5, 6] (fun x i wr => ∃ (k c : Nat), k ≤ L ∧ i = .int .i64 k ∧ x = .int .i64 c ∧ c ≤ k ∧ Hid (c = (bs.take k).count 10) ∧ wr = w6)
      (fun _ i _ => L - (intOf i).toNat)
    case atStart => exact ⟨0, 0, Nat.zero_le _, rfl, rfl, Nat.le_refl _, rfl, rfl⟩
    case round =>
      obtain ⟨k, c, hk, rfl, rfl, hck, HCK, rfl⟩ := hrel
      by_cases hlk : k < L
      · have hlkz : (k : Int) < (L : Int) := by omega
        have hcc := HCE.out k hlk
        have HST : Hid ((bs.take (k + 1)).count 10 = (bs.take k).count 10 + if bs[k]?.getD 0 = 10 then 1 else 0) := count_step bs k (by have := HLB.out; omega)
        generalize bs[k]?.getD 0 = v at *
        by_cases hv : v = 10
        · subst hv
          have HC1 : Hid (c + 1 = (bs.take (k + 1)).count 10) := (show _ = _ by rw [HST.out, HCK.out]; simp)
          go_wp2_with fail
          go_roundw
          case rel => exact ⟨k + 1, c + 1, by omega, by go_num, by go_num, by omega, HC1, trivial⟩
          case measure => simp [intOf]; omega
        · have HC1 : Hid (c = (bs.take (k + 1)).count 10) := (show _ = _ by rw [HST.out, HCK.out, if_neg hv]; rfl)
          go_wp2_with fail
          go_roundw
          case rel => exact ⟨k + 1, c, by omega, by go_num, rfl, by omega, HC1, trivial⟩
          case measure => simp [intOf]; omega
      · obtain rfl : k = L := by omega
        have hce : c = t.rn + 1 := by
          have h1 := HCK.out
          rw [List.take_of_length_le (by have := HLB.out; omega)] at h1
          exact h1.trans HCT.out
        subst hce
        go_wp2
        go_ret
        exact ⟨by simp, HW6.out⟩
  · have HE : bs = [] := by
      rcases HBS.out with h | h
      · exact absurd h.1 hok
      · exact h.2
    subst HE
    have hpos : 0 < t.rn + t.vn := by
      by_cases h : t.vn = 0
      · by_cases h' : t.rn = 0
        · exact absurd (tab_empty h h') hok
        · omega
      · omega
    clear HBS hok
    go_wp2
    go_ret
    exact ⟨by simp; omega, HW6.out⟩
end Go.Proofs.YtganfiajhokkmaaDoor

/- TbZ -/
namespace Go.Proofs.YtganfiajhokkmaaDoor
open Go.ChangeShapes Go.WideShapes Go.ChangeAt Go.RowKit Go.Joins
set_option maxRecDepth 100000

theorem door_metLines (os : Os) (args : Array Value) : laidMetH Tryd.prog Rows.fnLinesRow.laid ((World.doorLaid Tryd.prog 24 os).forCall (fun _ _ => 0) ⟨#[], args, []⟩).memory :=
  laidMetH_of_parts3 (fuel := 8) (laidMet_of_run' 8 (by kernel_rfl) (by kernel_rfl)) (by kernel_rfl) (by kernel_rfl)

theorem Tryd.cells102 : Tryd.prog.cellsOf 102 = 1 := by kernel_rfl
theorem tab_of_laid {W : World} (h : laidMetH Tryd.prog Rows.fnLinesRow.laid W) : Tab W := by
  rw [MakeChecks.laidMetH_plain _ _ _ (by kernel_rfl)] at h
  exact Lib.tabIs_of_head (k := .u64) (zs := Lib.pow10Tab) (rest := []) (g := 0) (t := 114) (n := 20) (by kernel_rfl) (by kernel_rfl) (by kernel_rfl) Tryd.underlying102 Tryd.cells102 (by kernel_rfl) (laidMet.tail (laidMet.tail h))

theorem liftedLines (os : Os) (started : os.Started) (H : Type) (enc : TypeId × Value → H) :
    ReturnsInHanded {} Tryd.checked os 3 .any (fun w args => (Rows.fnLinesSpec.pre enc Tryd.prog Tryd.f3 [] false w args ∧ laidMetH Tryd.prog Rows.fnLinesRow.laid w) ∧ sizedMet enc Tryd.prog Tryd.f3 (OpenSpec.ofChange Rows.fnLinesSpec) false w args)
      (Rows.fnLinesSpec.post enc Tryd.prog Tryd.f3 false true false false) := by
  refine returnsInHanded_of_change_and (C := Tryd.checked) (X := fun w _ => laidMetH Tryd.prog Rows.fnLinesRow.laid w) (fun _ _ _ hh h => h.of_heap hh) own started (by kernel_rfl) Tryd.func3
    (ChangeSpec.witness_shaped (enc := enc) (C := Tryd.checked) (os := os) (X := fun w _ => laidMetH Tryd.prog Rows.fnLinesRow.laid w) false (World.doorLaid Tryd.prog 24 os) #[.slice none 0 0] 8 rfl (World.shaped_of_RefB (by kernel_rfl) (by kernel_rfl)) (by kernel_rfl) (by kernel_rfl) (by kernel_rfl) (door_metLines os _)) ?_
  intro W base args ds gs before hval0 hW _ _ hL _
  have hval : ∀ (j : Nat) t v, Tryd.f3.params[j]? = some t → args[j]? = some v → Value.okWide Tryd.prog W .any base t v := hval0
  have hW' := hW
  obtain ⟨p, q, hA0, hV, rfl, hfz, hnd⟩ := hW
  have hA : DataW.TrodAll enc Tryd.prog W 0 (fun _ => true) true Tryd.f3.params.toList args.toList ds p := hA0
  rw [Tryd.params3] at hA hval
  obtain ⟨v0, vs0, d0, ds0, p0, q0, hargs, rfl, rfl, h0, r0⟩ := trodAll_cons hA
  obtain ⟨rfl, rfl, rfl⟩ := trodAll_nil r0
  obtain rfl : args = #[v0] := by cases args; simp_all
  obtain ⟨rfl, rfl⟩ := trodVars_none hV
  have k0 := h0
  have lt0 : ∀ x ∈ p0, x.block < W.heap.size := by obtain ⟨m, hm⟩ := k0; exact DataW.trod_lt m _ _ _ hm
  obtain ⟨a, len, cap, rfl, hlen, hC⟩ := open_code (hval 0 22 v0 rfl rfl) h0
  clear hA0 hval0
  refine (walkLines a len cap W hlen hC (tab_of_laid hL)).mono fun e W' ⟨he, bel⟩ => ?_
  subst he
  exact ⟨_, rfl, _, _, _, [], _, [], hW', trodAll_mk1 (shut_bool Tryd.underlying4 _), (trodAll_cons_mk (Below.trod laidOut (by kernel_rfl) (of_decide_eq_true (by kernel_rfl)) k0 bel lt0) trodAll_mk0), rfl, bel.frame _, fun h => by cases h⟩

theorem overLines : Rows.FnLinesSaid :=
  OpenClaim.holds_of_wide 3 Tryd.f3 rfl rfl rfl rfl rfl rfl rfl ⟨rfl, rfl, rfl, rfl, rfl⟩ rfl rfl rfl rfl rfl (by kernel_rfl) Tryd.func3 (by kernel_rfl)
    (of_decide_eq_true (by kernel_rfl)) (by unfold Func.isWrapper; first | (rw [if_pos (by decide +kernel)]; kernel_rfl) | (rw [if_neg (by decide +kernel)]; exact ⟨rfl, rfl⟩))
    (fun os started H enc _ => liftedLines os started H enc)

theorem provedLines : Rows.FnLinesCardSaid :=
  Claim7.holds_tied_plain_at .later [] [.data, .data, .data] true Rows.fnLinesCard.stood.harness false
    overLines (fun _ h => by cases h) (by kernel_rfl) (fun _ h => by cases h) fnLines_row_tie rfl ⟨rfl, rfl⟩ (by kernel_rfl) rfl
    (fun f fn hf hfn => by
      obtain rfl : f = 3 := Option.some.inj ((show Tryd.prog.funcNamed Rows.fnLinesRow.func = some 3 by kernel_rfl).symm.trans hf) |>.symm
      obtain rfl : fn = Tryd.f3 := (Option.some.inj (Tryd.func3.symm.trans hfn)).symm
      exact ⟨by kernel_rfl, fun j t ht => by
        rw [Tryd.params3] at ht
        have hm : t ∈ [22] := by simpa using Array.mem_of_getElem? ht
        have hall : ([22].all fun u => !Tryd.prog.wantsStandIn u) = true := by kernel_rfl
        exact (show Tryd.prog.wantsStandIn t = false by simpa using List.all_eq_true.1 hall t hm)⟩)
    (by kernel_rfl)
#print axioms provedLines
end Go.Proofs.YtganfiajhokkmaaDoor
