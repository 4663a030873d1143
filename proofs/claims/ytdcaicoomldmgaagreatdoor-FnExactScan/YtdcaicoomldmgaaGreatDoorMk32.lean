/- Texts put together: ShwI ShwJ StpF -/
import Derived.Test.YtdcaicoomldmgaaGreatDoorMk31
import Derived.Test.YtdcaicoomldmgaaGreatDoorShf
import Derived.WalkSmall
/- ShwI -/
namespace Go.Proofs.YtdcaicoomldmgaaGreatDoor
open Go.RowKit Go.Deep
set_option maxRecDepth 100000

/-- The library's table of powers of ten lies as it is written. -/
def Tab (w : World) : Prop := Lib.TabIs Tryz.prog w "internal/strconv.uint64pow10" .u64 Lib.pow10Tab
theorem tab_lt {w : World} (h : Tab w) : ∃ g, Tryz.prog.globalNamed "internal/strconv.uint64pow10" = some g ∧ g < w.heap.size := by
  unfold Tab Lib.TabIs World.var? at h
  cases hg : Tryz.prog.globalNamed "internal/strconv.uint64pow10" with
  | none => rw [hg] at h; cases h
  | some g =>
    refine ⟨g, rfl, ?_⟩
    apply Classical.byContradiction
    intro hn
    rw [hg] at h
    simp only [Option.bind_some] at h
    rw [Array.getElem?_eq_none (by omega)] at h
    cases h
theorem Tab.below {w w' : World} (h : Tab w) (hb : Below w.heap.size w w') : Tab w' := by
  obtain ⟨g, hg, hlt⟩ := tab_lt h
  exact var?_below hb hg hlt h

theorem below_grow (w : World) (k : Nat) (os : Array Obj) : Below w.heap.size w (Go.Sort.grow (w.drewN k) os) := by
  have h0 : Below w.heap.size w (w.drewN k) := below_drewN (Below.refl _ _) k
  refine ⟨h0.os, h0.tape, h0.output, ?_, fun b hb => ?_⟩
  · simp
  · rw [Go.Sort.heap_grow_old _ _ (by simpa using hb)]
    exact h0.block b hb

theorem decDigits_nums (n : Nat) : (Lib.decDigits n).map (fun b => (b.toNat : Int)) = digitsL n := by
  induction n using Nat.strongRecOn with
  | ind n ih =>
    rw [Lib.decDigits]
    split
    · rename_i h
      rw [digitsL_small h]
      simp
      omega
    · rename_i h
      rw [digitsL_step h, List.map_append, ih (n / 10) (by omega)]
      simp
      omega

/-- What a text is told as. -/
def StrRes (w : World) (bs : List Int) (e : Ending) (w' : World) : Prop := ∃ s, e = .returned (.string s) ∧ numsOf s = bs ∧ Below w.heap.size w w'
theorem itoa_any (n : Int) (w : World) (h0 : 0 ≤ n) (h1 : n ≤ 9223372036854775807) (ht : Tab w) :
    Calls Tryz.prog 98 #[.int .i64 n] w fun e w' => StrRes w (digitsL n.toNat) e w' := by
  refine (Tryz.strconv_Itoa n (by omega) h1 w ht).mono ?_
  rintro e w' ⟨rfl, k, os, rfl⟩
  refine ⟨_, rfl, ?_, below_grow _ _ _⟩
  have hn : ¬ n < 0 := by omega
  simp only [numsOf, Lib.itoa, hn, if_false]
  exact decDigits_nums n.toNat

theorem repeatL_nums (c : Nat) : (Lib.repeatL [48] c).map (fun b : UInt8 => (b.toNat : Int)) = List.replicate c 48 := by
  induction c with
  | zero => rfl
  | succ c ih =>
    rw [Lib.repeatL, List.map_append, ih, List.replicate_succ]
    rfl
theorem repeat0_any (c : Nat) (w : World) (h : c ≤ 1000) :
    Calls Tryz.prog 127 #[.string ⟨#[48]⟩, .int .i64 c] w fun e w' => StrRes w (List.replicate c 48) e w' := by
  refine (Tryz.strings_Repeat ⟨#[48]⟩ c w (by omega) (by show 1 * c ≤ _; omega)).mono ?_
  rintro e w' ⟨rfl, hb⟩
  exact ⟨_, rfl, by simp only [numsOf]; exact repeatL_nums c, hb⟩

theorem size_pos (n : Int) (w : World) (h : 0 ≤ n) : Calls Tryz.prog 126 #[.int .i64 n] w fun e w' => e = .returned (.int .i64 n) ∧ w' = w := by
  go_enter Tryz.func126, Tryz.ntmps126
  go_wp2
  go_ret
  exact ⟨rfl, rfl⟩
theorem size_neg (n : Int) (w : World) (h : 0 < n) (h1 : n ≤ 9223372036854775807) : Calls Tryz.prog 126 #[.int .i64 (-n)] w fun e w' => e = .returned (.int .i64 n) ∧ w' = w := by
  go_enter Tryz.func126, Tryz.ntmps126
  go_wp2
  go_ret
  exact ⟨rfl, rfl⟩

/-- A box of two. -/
def At2 (w : World) (b : Nat) (v0 v1 : Value) : Prop := b < w.heap.size ∧ w.cell? ⟨b, 0, none⟩ = some v0 ∧ w.cell? ⟨b, 1, none⟩ = some v1
theorem At2.below {w w' : World} {b : Nat} {v0 v1 : Value} (h : At2 w b v0 v1) (hb : Below w.heap.size w w') : At2 w' b v0 v1 := by
  obtain ⟨hl, h0, h1⟩ := h
  exact ⟨Nat.lt_of_lt_of_le hl hb.size, (hb.cell (p := ⟨b, 0, none⟩) hl).trans h0, (hb.cell (p := ⟨b, 1, none⟩) hl).trans h1⟩
theorem At2.new (w : World) (v0 v1 : Value) (t : TypeId) : At2 (w.alloc (.cells #[v0, v1] t)) w.heap.size v0 v1 := by
  refine ⟨by simp, by simp [go_sem], by simp [go_sem]⟩

theorem p10_nat (s : Nat) : p10 s = ((10 ^ s : Nat) : Int) := by
  induction s with
  | zero => rfl
  | succ s ih =>
    rw [Nat.pow_succ]
    simp only [p10, ih]
    omega
theorem numsOf_nil : numsOf ⟨#[]⟩ = [] := rfl

set_option maxHeartbeats 1000000 in
theorem text_pos (n : Int) (s : Nat) (w : World) (hs : s ≤ 6) (hn : 0 ≤ n) (hn' : n ≤ 1000000000000000) (ht : Tab w) :
    Calls Tryz.prog 100 #[.agg #[.int .i64 n, .int .i64 s]] w fun e w' => StrRes w (numL n s) e w' := by
  have P := fun w => tenTo_any s w hs
  have hp := p10_pos s
  have hp6 := p10_le hs
  have d0 : 0 ≤ n / p10 s := Int.ediv_nonneg hn (by omega)
  have d1 : n / p10 s ≤ n := Int.ediv_le_self _ hn
  have m0 : 0 ≤ n % p10 s := Int.emod_nonneg _ (by omega)
  have m1 : n % p10 s < p10 s := Int.emod_lt_of_pos _ (by omega)
  have I1 := fun w ht => itoa_any (n / p10 s) w d0 (by omega) ht
  have I2 := fun w ht => itoa_any (n % p10 s) w m0 (by omega) ht
  have hL1 := digitsL_len 16 (n / p10 s).toNat (by omega)
  have hL2 : s ≠ 0 → (digitsL (n % p10 s).toNat).length ≤ s := fun h0 => by
    have := digitsL_len (s - 1) (n % p10 s).toNat (by have := p10_nat s; rw [show s - 1 + 1 = s by omega]; omega)
    omega
  have HA := At2.new w (.int .i64 n) (.int .i64 s) 127
  have HT : Hid (Tab (w.alloc (.cells #[.int .i64 n, .int .i64 s] 127))) := ht.below (bl_a _)
  have SZ := fun w => size_pos n w hn
  unfold numL
  generalize digitsL (n / p10 s).toNat = d at *
  generalize digitsL (n % p10 s).toNat = f at *
  go_enter Tryz.func100, Tryz.ntmps100
  go_wp2_with fail
  refine (P _).mono ?_
  rintro e w1 ⟨rfl, rfl⟩
  go_wp2_with fail
  refine (SZ _).mono ?_
  rintro e w1 ⟨rfl, rfl⟩
  go_wp2_with fail
  refine (I1 _ HT.out).mono ?_
  rintro e w2 ⟨s1, rfl, hs1, hb1⟩
  obtain ⟨ha0, ha1, ha2⟩ := HA.below hb1
  have HB2 : Hid (Below w.heap.size w w2) := bl_trans (bl_a _) hb1
  have HT2 : Hid (Tab w2) := HT.out.below hb1
  have HS1 : Hid (numsOf s1 = d) := hs1
  have hz1 : s1.size ≤ 17 := by rw [← numsOf_len, hs1]; omega
  clear hb1 hs1 HT HA I1 P
  by_cases hs0 : s = 0
  · go_wp2_with fail
    go_ret
    refine ⟨_, rfl, ?_, HB2.out⟩
    simp [HS1.out, numsOf_append, numsOf_nil]
  · go_wp2_with fail
    refine (SZ _).mono ?_
    rintro e w3 ⟨rfl, rfl⟩
    go_wp2_with fail
    refine (I2 _ HT2.out).mono ?_
    rintro e w4 ⟨s2, rfl, hs2, hb4⟩
    have ha4 := (hb4.cell (p := ⟨w.heap.size, 1, none⟩) ha0).trans ha2
    have HB4 : Hid (Below w.heap.size w w4) := bl_trans HB2.out hb4
    have hz : s2.size = f.length := by rw [← numsOf_len, hs2]
    have HS2 : Hid (numsOf s2 = f) := hs2
    clear hb4 hs2 I2 HT2 SZ
    have hf := hL2 hs0
    have R : ∀ c : Int, c = ((s - f.length : Nat) : Int) → ∀ w, Calls Tryz.prog 127 #[.string ⟨#[48]⟩, .int .i64 c] w fun e w' => StrRes w (List.replicate (s - f.length) 48) e w' := fun c hc w => by
      rw [hc]
      exact repeat0_any (s - f.length) w (by omega)
    go_wp2_with fail
    refine (R _ (by omega) _).mono ?_
    rintro e w5 ⟨s3, rfl, hs3, hb5⟩
    have hz3 : s3.size ≤ 6 := by rw [← numsOf_len, hs3]; simp; omega
    have HB5 : Hid (Below w.heap.size w w5) := bl_trans HB4.out hb5
    have HS3 : Hid (numsOf s3 = List.replicate (s - f.length) 48) := hs3
    clear hb5 hs3 R
    go_wp2_with fail
    go_ret
    refine ⟨_, rfl, ?_, HB5.out⟩
    simp only [numsOf_append, numsOf_nil, HS1.out, HS2.out, HS3.out]
    simp [numsOf]
set_option maxHeartbeats 1000000 in
theorem text_neg (n : Int) (s : Nat) (w : World) (hs : s ≤ 6) (hn1 : 0 < n) (hn' : n ≤ 1000000000000000) (ht : Tab w) :
    Calls Tryz.prog 100 #[.agg #[.int .i64 (-n), .int .i64 s]] w fun e w' => StrRes w (45 :: numL n s) e w' := by
  have hn : 0 ≤ n := by omega
  have P := fun w => tenTo_any s w hs
  have hp := p10_pos s
  have hp6 := p10_le hs
  have d0 : 0 ≤ n / p10 s := Int.ediv_nonneg hn (by omega)
  have d1 : n / p10 s ≤ n := Int.ediv_le_self _ hn
  have m0 : 0 ≤ n % p10 s := Int.emod_nonneg _ (by omega)
  have m1 : n % p10 s < p10 s := Int.emod_lt_of_pos _ (by omega)
  have I1 := fun w ht => itoa_any (n / p10 s) w d0 (by omega) ht
  have I2 := fun w ht => itoa_any (n % p10 s) w m0 (by omega) ht
  have hL1 := digitsL_len 16 (n / p10 s).toNat (by omega)
  have hL2 : s ≠ 0 → (digitsL (n % p10 s).toNat).length ≤ s := fun h0 => by
    have := digitsL_len (s - 1) (n % p10 s).toNat (by have := p10_nat s; rw [show s - 1 + 1 = s by omega]; omega)
    omega
  have HA := At2.new w (.int .i64 (-n)) (.int .i64 s) 127
  have HT : Hid (Tab (w.alloc (.cells #[.int .i64 (-n), .int .i64 s] 127))) := ht.below (bl_a _)
  have SZ := fun w => size_neg n w hn1 (by omega)
  unfold numL
  generalize digitsL (n / p10 s).toNat = d at *
  generalize digitsL (n % p10 s).toNat = f at *
  go_enter Tryz.func100, Tryz.ntmps100
  go_wp2_with fail
  refine (P _).mono ?_
  rintro e w1 ⟨rfl, rfl⟩
  go_wp2_with fail
  refine (SZ _).mono ?_
  rintro e w1 ⟨rfl, rfl⟩
  go_wp2_with fail
  refine (I1 _ HT.out).mono ?_
  rintro e w2 ⟨s1, rfl, hs1, hb1⟩
  obtain ⟨ha0, ha1, ha2⟩ := HA.below hb1
  have HB2 : Hid (Below w.heap.size w w2) := bl_trans (bl_a _) hb1
  have HT2 : Hid (Tab w2) := HT.out.below hb1
  have HS1 : Hid (numsOf s1 = d) := hs1
  have hz1 : s1.size ≤ 17 := by rw [← numsOf_len, hs1]; omega
  clear hb1 hs1 HT HA I1 P
  by_cases hs0 : s = 0
  · go_wp2_with fail
    go_ret
    refine ⟨_, rfl, ?_, HB2.out⟩
    simp [HS1.out, numsOf_append]
    rfl
  · go_wp2_with fail
    refine (SZ _).mono ?_
    rintro e w3 ⟨rfl, rfl⟩
    go_wp2_with fail
    refine (I2 _ HT2.out).mono ?_
    rintro e w4 ⟨s2, rfl, hs2, hb4⟩
    have ha4 := (hb4.cell (p := ⟨w.heap.size, 1, none⟩) ha0).trans ha2
    have HB4 : Hid (Below w.heap.size w w4) := bl_trans HB2.out hb4
    have hz : s2.size = f.length := by rw [← numsOf_len, hs2]
    have HS2 : Hid (numsOf s2 = f) := hs2
    clear hb4 hs2 I2 HT2 SZ
    have hf := hL2 hs0
    have R : ∀ c : Int, c = ((s - f.length : Nat) : Int) → ∀ w, Calls Tryz.prog 127 #[.string ⟨#[48]⟩, .int .i64 c] w fun e w' => StrRes w (List.replicate (s - f.length) 48) e w' := fun c hc w => by
      rw [hc]
      exact repeat0_any (s - f.length) w (by omega)
    go_wp2_with fail
    refine (R _ (by omega) _).mono ?_
    rintro e w5 ⟨s3, rfl, hs3, hb5⟩
    have hz3 : s3.size ≤ 6 := by rw [← numsOf_len, hs3]; simp; omega
    have HB5 : Hid (Below w.heap.size w w5) := bl_trans HB4.out hb5
    have HS3 : Hid (numsOf s3 = List.replicate (s - f.length) 48) := hs3
    clear hb5 hs3 R
    go_wp2_with fail
    go_ret
    refine ⟨_, rfl, ?_, HB5.out⟩
    simp only [numsOf_append, HS1.out, HS2.out, HS3.out]
    simp [numsOf]
end Go.Proofs.YtdcaicoomldmgaaGreatDoor

/- ShwJ -/
namespace Go.Proofs.YtdcaicoomldmgaaGreatDoor
open Go.RowKit Go.Deep
set_option maxRecDepth 100000

theorem conv_res {w w1 : World} (S : ByteArray) (N : Nat) {bs : List Int} (hb : Below w.heap.size w w1) (hN : S.size = N) (hn : numsOf S = bs) (hl : bs.length ≤ 1048576) :
    TxRes w bs (.returned (.slice (some ⟨w1.heap.size, 0, none⟩) N (grownCap w1 N 0 5))) (Lib.bytesWorld w1 5 S) := by
  have hs : S.size = bs.length := by rw [← hn, numsOf_len]
  have := Tx.conv w1 S 5 (by omega)
  rw [hn, hs] at this
  rw [← hN, hs]
  exact ⟨_, _, rfl, this.nw.mono hb.size, bl_trans hb (bytesWorld_below _ _ _)⟩

theorem size_name (st : ByteArray) : (({ data := #[60] } : ByteArray) ++ st ++ { data := #[62] }).size = 1 + st.size + 1 := by
  rw [ByteArray.size_append, ByteArray.size_append]
  rfl
theorem size_blank (st : ByteArray) : (({ data := #[95, 58] } : ByteArray) ++ st).size = 2 + st.size := by
  rw [ByteArray.size_append]
  rfl
theorem text_any (n s : Int) (w : World) (h : numOk n s = true) (ht : Tab w) :
    Calls Tryz.prog 100 #[.agg #[.int .i64 n, .int .i64 s]] w fun e w' => StrRes w (showL 3 n s []) e w' := by
  have hb := numOk_bounds h
  obtain ⟨t, rfl⟩ : ∃ t : Nat, s = t := ⟨s.toNat, by omega⟩
  by_cases hn : n < 0
  · obtain ⟨m, rfl⟩ : ∃ m, n = -m := ⟨-n, by omega⟩
    have := text_neg m t w (by omega) (by omega) (by omega) ht
    have e : showL 3 (-m) t [] = 45 :: numL m t := by simp [showL]; omega
    rw [e]
    exact this
  · have := text_pos n t w (by omega) (by omega) (by omega) ht
    have e : showL 3 n t [] = numL n t := by simp [showL, hn]
    rw [e]
    exact this

set_option maxHeartbeats 1000000 in
theorem implShow_any (k n s : Int) (a : Option Addr) (len cap : Nat) (bs : List Int) (w : World) (hB : Bs w a len bs) (h1 : -9223372036854775808 ≤ n) (h2 : n ≤ 9223372036854775807) (h3 : -9223372036854775808 ≤ s) (h4 : s ≤ 9223372036854775807) (ht : Tab w) :
    Calls Tryz.prog 59 #[.agg #[.int .i64 k, .slice a len cap, .int .i64 n, .int .i64 s]] w fun e w' => TxRes w (shownL k n s bs) e w' := by
  have T := fun o => implTermOk_any k n s a len cap bs (w.alloc o) (hB.below (bl_a o)) h1 h2 h3 h4
  have hcv := fun (w : World) (s : ByteArray) => Lib.run_convert_string_bytes (P := Tryz.prog) w 9 45 5 s Tryz.underlying9 Tryz.underlying45 Tryz.underlying5
  have HA := At4.new w (.int .i64 k) (.slice a len cap) (.int .i64 n) (.int .i64 s) 52
  have HT : Hid (Tab (w.alloc (.cells #[.int .i64 k, .slice a len cap, .int .i64 n, .int .i64 s] 52))) := ht.below (bl_a _)
  have HBs : Hid (Bs (w.alloc (.cells #[.int .i64 k, .slice a len cap, .int .i64 n, .int .i64 s] 52)) a len bs) := hB.below (bl_a _)
  have HY : Hid (Byt bs) := hB.byt
  have HL : Hid (bs.length = len) := hB.1
  cases hok : termOk k bs n s
  · have e : shownL k n s bs = [] := by simp [shownL, hok]
    rw [e]
    rw [hok] at T
    clear hB hcv HA HT HBs
    go_enter Tryz.func59, Tryz.ntmps59
    go_wp2_with fail
    refine (T _).mono ?_
    rintro e w1 ⟨rfl, hb1⟩
    have HB1 : Hid (Below w.heap.size w w1) := bl_trans (bl_a _) hb1
    clear hb1 T
    go_wp2_with fail
    go_ret
    exact ⟨none, 0, rfl, Nw.nil _ _, HB1.out⟩
  · have e : shownL k n s bs = showL k n s bs := by simp [shownL, hok]
    rw [e]
    have hln := showL_len hok
    have HYY : Hid (Byt (showL k n s bs)) := showL_byt HY.out
    rw [hok] at T
    have HOK := hok
    unfold termOk at hok
    clear hB ht
    split at hok
    · rename_i hk
      subst hk
      have HE : Hid (showL 0 n s bs = 60 :: (bs ++ [62])) := by show _ = _; simp [showL]
      have hz : (strOfNums bs).size ≤ 12 := by rw [strOfNums_size]; simp [nameOk] at hok; omega
      have HN : Hid (numsOf (strOfNums bs) = bs) := numsOf_nums HY.out
      generalize showL 0 n s bs = L at *
      clear hok HOK HT
      go_enter Tryz.func59, Tryz.ntmps59
      go_wp2_with fail
      refine (T _).mono ?_
      rintro e w1 ⟨rfl, hb1⟩
      obtain ⟨a0, a1, a2, a3, a4⟩ := HA.below hb1
      have hv := (HBs.out.below hb1).str (cap := cap)
      have HB1 : Hid (Below w.heap.size w w1) := bl_trans (bl_a _) hb1
      clear hb1 T HA HBs
      generalize strOfNums bs = st at *
      go_wp2_with fail
      go_ret
      refine conv_res ({ data := #[60] } ++ st ++ { data := #[62] }) (1 + st.size + 1) (bs := L) HB1.out (size_name st) ?_ (by omega)
      rw [HE.out]
      simp only [numsOf_append, HN.out]
      simp [numsOf]
    split at hok
    · rename_i k0 hk
      subst hk
      have HE : Hid (showL 1 n s bs = 95 :: 58 :: digitsL n.toNat) := by show _ = _; simp [showL]
      have hn : 0 ≤ n := by simp at hok; omega
      have I := fun w ht => itoa_any n w hn h2 ht
      have hL := digitsL_len 18 n.toNat (by omega)
      generalize showL 1 n s bs = L at *
      generalize digitsL n.toNat = d at *
      clear hok HOK
      go_enter Tryz.func59, Tryz.ntmps59
      go_wp2_with fail
      refine (T _).mono ?_
      rintro e w1 ⟨rfl, hb1⟩
      obtain ⟨a0, a1, a2, a3, a4⟩ := HA.below hb1
      have HB1 : Hid (Below w.heap.size w w1) := bl_trans (bl_a _) hb1
      have HT1 : Hid (Tab w1) := HT.out.below hb1
      clear hb1 T HA HBs HT
      go_wp2_with fail
      refine (I _ HT1.out).mono ?_
      rintro e w2 ⟨st, rfl, hst, hb2⟩
      have HB2 : Hid (Below w.heap.size w w2) := bl_trans HB1.out hb2
      have HN : Hid (numsOf st = d) := hst
      have hz : st.size ≤ 19 := by rw [← numsOf_len, hst]; omega
      clear hb2 hst I HT1 HB1
      go_wp2_with fail
      go_ret
      refine conv_res ({ data := #[95, 58] } ++ st) (2 + st.size) (bs := L) HB2.out (size_blank st) ?_ (by omega)
      rw [HE.out]
      simp only [numsOf_append, HN.out]
      simp [numsOf]
    split at hok
    · rename_i k0 k1 hk
      subst hk
      have HE : Hid (showL 2 n s bs = 34 :: (esc bs ++ [34])) := by show _ = _; simp [showL]
      have Q := fun w hB => quoted_any a len cap bs w hB
      generalize showL 2 n s bs = L at *
      generalize (34 :: (esc bs ++ [34])) = L2 at *
      obtain rfl : L = L2 := HE.out
      clear hok HOK HT HE
      go_enter Tryz.func59, Tryz.ntmps59
      go_wp2_with fail
      refine (T _).mono ?_
      rintro e w1 ⟨rfl, hb1⟩
      obtain ⟨a0, a1, a2, a3, a4⟩ := HA.below hb1
      have HB1 : Hid (Below w.heap.size w w1) := bl_trans (bl_a _) hb1
      have HBs1 : Hid (Bs w1 a len bs) := HBs.out.below hb1
      clear hb1 T HA HBs
      go_wp2_with fail
      refine (Q _ HBs1.out).mono ?_
      intro e w2 hR
      have HR := (hR.later HB1.out).tx HYY.out (by omega)
      clear hR Q
      obtain ⟨x, cp, rfl, hr, hbl⟩ := HR
      have HR : Hid (Nw w2 w.heap.size x L.length L) := hr
      have HB : Hid (Below w.heap.size w w2) := hbl
      clear hr hbl
      go_wp2_with fail
      go_ret
      exact ⟨x, cp, rfl, HR.out, HB.out⟩
    split at hok
    · rename_i k0 k1 k2 hk
      subst hk
      have HE : Hid (showL 3 n s bs = showL 3 n s []) := by show _ = _; simp [showL]
      simp only [Bool.and_eq_true] at hok
      have X := fun w ht => text_any n s w hok.2 ht
      have D := fun w => decimal_any 3 n s a len cap w
      rw [HE.out] at hln HYY ⊢
      clear HE HOK hok
      generalize showL 3 n s [] = L at *
      go_enter Tryz.func59, Tryz.ntmps59
      go_wp2_with fail
      refine (T _).mono ?_
      rintro e w1 ⟨rfl, hb1⟩
      obtain ⟨a0, a1, a2, a3, a4⟩ := HA.below hb1
      have HB1 : Hid (Below w.heap.size w w1) := bl_trans (bl_a _) hb1
      have HT1 : Hid (Tab w1) := HT.out.below hb1
      clear hb1 T HA HBs HT
      go_wp2_with fail
      refine (D _).mono ?_
      rintro e w1' ⟨rfl, o1, o2, rfl⟩
      have HB1' : Hid (Below w.heap.size w ((w1.alloc o1).alloc o2)) := bl_alloc (bl_alloc HB1.out _) _
      have HT1' : Hid (Tab ((w1.alloc o1).alloc o2)) := HT1.out.below (bl_alloc (bl_a _) _)
      go_wp2_with fail
      refine (X _ HT1'.out).mono ?_
      rintro e w2 ⟨st, rfl, hst, hb2⟩
      have HB2 : Hid (Below w.heap.size w w2) := bl_trans HB1'.out hb2
      have HN : Hid (numsOf st = L) := hst
      have hz : st.size ≤ 64 := by rw [← numsOf_len, hst]; omega
      clear hb2 hst X HT1 HB1 HB1' HT1'
      go_wp2_with fail
      go_ret
      exact conv_res st st.size (bs := L) HB2.out rfl HN.out (by omega)
    · cases hok
end Go.Proofs.YtdcaicoomldmgaaGreatDoor

/- StpF -/
namespace Go.Proofs.YtdcaicoomldmgaaGreatDoor
open Go.RowKit Go.Deep
set_option maxRecDepth 100000

/-- What digits are worth. -/
def valL (l : List Int) : Nat := l.foldl (fun a d => a * 10 + (d - 48).toNat) 0
theorem valL_snoc (l : List Int) (d : Int) : valL (l ++ [d]) = valL l * 10 + (d - 48).toNat := by simp [valL]
theorem valL_digits (n : Nat) : valL (digitsL n) = n := by
  induction n using Nat.strongRecOn with
  | ind n ih =>
    by_cases h : n < 10
    · rw [digitsL_small h]
      simp [valL]
      omega
    · rw [digitsL_step h, valL_snoc, ih (n / 10) (by omega)]
      omega
theorem valL_zeros (m : Nat) (l : List Int) : valL (List.replicate m 48 ++ l) = valL l := by
  induction m with
  | zero => simp
  | succ m ih =>
    rw [List.replicate_succ, List.cons_append]
    simp only [valL, List.foldl_cons] at ih ⊢
    simpa using ih
theorem digitsL_mem (n : Nat) : ∀ d ∈ digitsL n, 48 ≤ d ∧ d ≤ 57 := by
  induction n using Nat.strongRecOn with
  | ind n ih =>
    intro d hd
    by_cases h : n < 10
    · rw [digitsL_small h] at hd
      simp only [List.mem_cons, List.not_mem_nil, or_false] at hd
      omega
    · rw [digitsL_step h, List.mem_append] at hd
      rcases hd with hd | hd
      · exact ih (n / 10) (by omega) d hd
      · simp only [List.mem_cons, List.not_mem_nil, or_false] at hd
        omega
theorem split_at {a a' f f' : List Int} {p : Int} (ha : p ∉ a) (ha' : p ∉ a') (h : a ++ p :: f = a' ++ p :: f') : a = a' ∧ f = f' := by
  induction a generalizing a' with
  | nil =>
    cases a' with
    | nil => simpa using h
    | cons x a' =>
      simp only [List.nil_append, List.cons_append, List.cons.injEq] at h
      exact absurd (by rw [h.1]; exact List.mem_cons_self ..) ha'
  | cons y a ih =>
    cases a' with
    | nil =>
      simp only [List.nil_append, List.cons_append, List.cons.injEq] at h
      exact absurd (by rw [← h.1]; exact List.mem_cons_self ..) ha
    | cons x a' =>
      simp only [List.cons_append, List.cons.injEq] at h
      have := ih (fun hm => ha (List.mem_cons_of_mem _ hm)) (fun hm => ha' (List.mem_cons_of_mem _ hm)) h.2
      exact ⟨by rw [h.1, this.1], this.2⟩
theorem dig_no (n : Nat) : (46 : Int) ∉ digitsL n := fun h => by have := digitsL_mem n 46 h; omega

theorem p10_pow (s : Nat) : p10 s = ((10 ^ s : Nat) : Int) := by
  induction s with
  | zero => rfl
  | succ s ih =>
    show p10 s * 10 = _
    rw [ih, Nat.pow_succ]
    push_cast
    rfl
theorem frac_len (n : Int) (s : Nat) (hs : 1 ≤ s) : (List.replicate (s - (digitsL (n % p10 s).toNat).length) (48 : Int) ++ digitsL (n % p10 s).toNat).length = s := by
  have hp : 0 < p10 s := by
    rw [p10_pow]
    exact_mod_cast Nat.pow_pos (by omega)
  have h1 := Int.emod_nonneg n (by omega : p10 s ≠ 0)
  have h2 := Int.emod_lt_of_pos n hp
  have hlt : (n % p10 s).toNat < 10 ^ (s - 1 + 1) := by
    rw [show s - 1 + 1 = s by omega]
    rw [p10_pow] at h1 h2 ⊢
    omega
  have := digitsL_len (s - 1) _ hlt
  rw [List.length_append, List.length_replicate]
  omega
theorem numL_inj {n n' : Int} {s s' : Nat} (h0 : 0 ≤ n) (h0' : 0 ≤ n') (h : numL n s = numL n' s') : n = n' ∧ s = s' := by
  unfold numL at h
  by_cases hs : s = 0
  · by_cases hs' : s' = 0
    · subst hs hs'
      simp only [if_true, List.append_nil] at h
      have := congrArg valL h
      rw [valL_digits, valL_digits] at this
      have e : p10 0 = 1 := rfl
      rw [e, Int.ediv_one, Int.ediv_one] at this
      exact ⟨by omega, rfl⟩
    · rw [if_pos hs, if_neg hs', List.append_nil] at h
      exact absurd (by rw [h]; simp) (dig_no (n / p10 s).toNat)
  · by_cases hs' : s' = 0
    · rw [if_neg hs, if_pos hs', List.append_nil] at h
      exact absurd (by rw [← h]; simp) (dig_no (n' / p10 s').toNat)
    · rw [if_neg hs, if_neg hs'] at h
      obtain ⟨e1, e2⟩ := split_at (dig_no _) (dig_no _) h
      have l1 := congrArg List.length e2
      rw [frac_len n s (by omega), frac_len n' s' (by omega)] at l1
      subst l1
      have v1 := congrArg valL e1
      have v2 := congrArg valL e2
      rw [valL_digits, valL_digits] at v1
      rw [valL_zeros, valL_zeros, valL_digits, valL_digits] at v2
      have hp : 0 < p10 s := by
        rw [p10_pow]
        exact_mod_cast Nat.pow_pos (by omega)
      have a1 := Int.emod_nonneg n (by omega : p10 s ≠ 0)
      have a2 := Int.emod_nonneg n' (by omega : p10 s ≠ 0)
      have b1 := Int.ediv_nonneg h0 (Int.le_of_lt hp)
      have b2 := Int.ediv_nonneg h0' (Int.le_of_lt hp)
      have c1 := Int.mul_ediv_add_emod n (p10 s)
      have c2 := Int.mul_ediv_add_emod n' (p10 s)
      have d1 : n / p10 s = n' / p10 s := by omega
      have d2 : n % p10 s = n' % p10 s := by omega
      rw [d1, d2] at c1
      exact ⟨by omega, rfl⟩
/-- Back from what is escaped. -/
def unesc : Bool → List Int → List Int
  | _, [] => []
  | true, a :: l => a :: unesc false l
  | false, a :: l => if a = 92 then unesc true l else a :: unesc false l
theorem unesc_esc (bs : List Int) : unesc false (esc bs) = bs := by
  induction bs with
  | nil => rfl
  | cons b bs ih =>
    have e : esc (b :: bs) = (if b = 34 ∨ b = 92 then [92, b] else [b]) ++ esc bs := rfl
    rw [e]
    split
    · simp only [List.cons_append, List.nil_append]
      rw [unesc, if_pos rfl, unesc, ih]
    · rename_i h
      simp only [List.cons_append, List.nil_append]
      rw [unesc, if_neg (by omega), ih]
theorem num_head (n : Int) (s : Nat) : ∃ d r, numL n s = d :: r ∧ 48 ≤ d ∧ d ≤ 57 := by
  unfold numL
  have h1 := digitsL_mem (n / p10 s).toNat
  cases hd : digitsL (n / p10 s).toNat with
  | nil =>
    have := digitsL_pos (n / p10 s).toNat
    rw [hd] at this
    simp at this
  | cons d r =>
    rw [hd] at h1
    exact ⟨d, _, rfl, h1 d (List.mem_cons_self ..)⟩
theorem termOk_cases {k n s : Int} {bs : List Int} (h : termOk k bs n s = true) : (k = 0 ∧ n = 0 ∧ s = 0) ∨ (k = 1 ∧ bs = [] ∧ 0 ≤ n ∧ s = 0) ∨ (k = 2 ∧ n = 0 ∧ s = 0) ∨ (k = 3 ∧ bs = [] ∧ 0 ≤ s) := by
  unfold termOk at h
  split at h
  · rename_i hk
    simp only [Bool.and_eq_true, beq_iff_eq] at h
    exact .inl ⟨hk, h.1.2, h.2⟩
  split at h
  · rename_i hk
    simp only [Bool.and_eq_true, beq_iff_eq, decide_eq_true_eq] at h
    exact .inr (.inl ⟨hk, List.eq_nil_of_length_eq_zero h.1.1.1, h.1.1.2, h.2⟩)
  split at h
  · rename_i hk
    simp only [Bool.and_eq_true, beq_iff_eq] at h
    exact .inr (.inr (.inl ⟨hk, h.1.2, h.2⟩))
  split at h
  · rename_i hk
    simp only [Bool.and_eq_true, beq_iff_eq, numOk, decide_eq_true_eq] at h
    exact .inr (.inr (.inr ⟨hk, List.eq_nil_of_length_eq_zero h.1, h.2.1.1.1.1⟩))
  · cases h
theorem show3_head (n s : Int) (bs : List Int) : ∃ d r, showL 3 n s bs = d :: r ∧ (d = 45 ∨ 48 ≤ d ∧ d ≤ 57) := by
  by_cases hn : n < 0
  · exact ⟨45, numL (-n) s.toNat, by simp [showL, hn], .inl rfl⟩
  · obtain ⟨d, r, e, h⟩ := num_head n s.toNat
    exact ⟨d, r, by simp [showL, hn, e], .inr h⟩
theorem show3_inj {n n' s s' : Int} {bs bs' : List Int} (hs : 0 ≤ s) (hs' : 0 ≤ s') (h : showL 3 n s bs = showL 3 n' s' bs') : n = n' ∧ s = s' := by
  by_cases hn : n < 0
  · by_cases hn' : n' < 0
    · simp [showL, hn, hn'] at h
      have := numL_inj (by omega) (by omega) h
      omega
    · obtain ⟨d, r, e, hd⟩ := num_head n' s'.toNat
      simp [showL, hn, hn', e] at h
      omega
  · by_cases hn' : n' < 0
    · obtain ⟨d, r, e, hd⟩ := num_head n s.toNat
      simp [showL, hn, hn', e] at h
      omega
    · simp [showL, hn, hn'] at h
      have := numL_inj (by omega) (by omega) h
      omega
/-- What is shown of a term that may be. -/
def TD.shown (x : TD) : List Int := shownL x.k x.n x.s x.bs
theorem TD.shown_good {x : TD} (hx : x.good) : x.shown = showL x.k x.n x.s x.bs := by
  unfold TD.shown shownL
  rw [if_pos (show termOk x.k x.bs x.n x.s = true from hx.1)]
theorem TD.shown_inj {x y : TD} (hx : x.good) (hy : y.good) (h : x.shown = y.shown) : x = y := by
  rw [TD.shown_good hx, TD.shown_good hy] at h
  obtain ⟨k, bs, n, s⟩ := x
  obtain ⟨k', bs', n', s'⟩ := y
  have c := termOk_cases (show termOk k bs n s = true from hx.1)
  have c' := termOk_cases (show termOk k' bs' n' s' = true from hy.1)
  simp only at h
  clear hx hy
  rcases c with ⟨rfl, rfl, rfl⟩ | ⟨rfl, rfl, hn, rfl⟩ | ⟨rfl, rfl, rfl⟩ | ⟨rfl, rfl, hs⟩
  · rcases c' with ⟨rfl, rfl, rfl⟩ | ⟨rfl, rfl, hn', rfl⟩ | ⟨rfl, rfl, rfl⟩ | ⟨rfl, rfl, hs'⟩
    · simp [showL] at h
      rw [h]
    · simp [showL] at h
    · simp [showL] at h
    · obtain ⟨d, r, e, hd⟩ := show3_head n' s' []
      rw [e] at h
      simp [showL] at h
      omega
  · rcases c' with ⟨rfl, rfl, rfl⟩ | ⟨rfl, rfl, hn', rfl⟩ | ⟨rfl, rfl, rfl⟩ | ⟨rfl, rfl, hs'⟩
    · simp [showL] at h
    · simp [showL] at h
      have := congrArg valL h
      rw [valL_digits, valL_digits] at this
      rw [show n = n' by omega]
    · simp [showL] at h
    · obtain ⟨d, r, e, hd⟩ := show3_head n' s' []
      rw [e] at h
      simp [showL] at h
      omega
  · rcases c' with ⟨rfl, rfl, rfl⟩ | ⟨rfl, rfl, hn', rfl⟩ | ⟨rfl, rfl, rfl⟩ | ⟨rfl, rfl, hs'⟩
    · simp [showL] at h
    · simp [showL] at h
    · simp [showL] at h
      have := congrArg (unesc false) h
      rw [unesc_esc, unesc_esc] at this
      rw [this]
    · obtain ⟨d, r, e, hd⟩ := show3_head n' s' []
      rw [e] at h
      simp [showL] at h
      omega
  · obtain ⟨d, r, e, hd⟩ := show3_head n s []
    rcases c' with ⟨rfl, rfl, rfl⟩ | ⟨rfl, rfl, hn', rfl⟩ | ⟨rfl, rfl, rfl⟩ | ⟨rfl, rfl, hs'⟩
    · rw [e] at h
      simp [showL] at h
      omega
    · rw [e] at h
      simp [showL] at h
      omega
    · rw [e] at h
      simp [showL] at h
      omega
    · obtain ⟨e1, e2⟩ := show3_inj hs hs' h
      rw [e1, e2]
end Go.Proofs.YtdcaicoomldmgaaGreatDoor
