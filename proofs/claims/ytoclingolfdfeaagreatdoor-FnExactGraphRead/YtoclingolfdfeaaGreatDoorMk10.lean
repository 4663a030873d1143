/- Texts put together: ShwI ShwJ RdE -/
import Derived.Test.YtoclingolfdfeaaGreatDoorMk06
import Derived.Test.YtoclingolfdfeaaGreatDoorShf
import Derived.WalkSmall
import Derived.Test.YtoclingolfdfeaaGreatDoorMk09
/- ShwI -/
namespace Go.Proofs.YtoclingolfdfeaaGreatDoor
open Go.RowKit Go.Deep
set_option maxRecDepth 100000

/-- The library's table of powers of ten lies as it is written. -/
def Tab (w : World) : Prop := Lib.TabIs Tryz.prog w "internal/strconv.uint64pow10" .u64 Lib.pow10Tab
theorem tab_lt {w : World} (h : Tab w) : ∃ g, Tryz.prog.globalNamed "internal/strconv.uint64pow10" = some g ∧ g < w.heap.size := by
  unfold Tab Lib.TabIs World.var? at h
  cases hg : Tryz.prog.globalNamed "internal/strconv.uint64pow10" with
  | none => rw [hg] at h; cases h
  | some g =>
    refine ⟨g, rfl, ?_⟩
    apply Classical.byContradiction
    intro hn
    rw [hg] at h
    simp only [Option.bind_some] at h
    rw [Array.getElem?_eq_none (by omega)] at h
    cases h
theorem Tab.below {w w' : World} (h : Tab w) (hb : Below w.heap.size w w') : Tab w' := by
  obtain ⟨g, hg, hlt⟩ := tab_lt h
  exact var?_below hb hg hlt h

theorem below_grow (w : World) (k : Nat) (os : Array Obj) : Below w.heap.size w (Go.Sort.grow (w.drewN k) os) := by
  have h0 : Below w.heap.size w (w.drewN k) := below_drewN (Below.refl _ _) k
  refine ⟨h0.os, h0.tape, h0.output, ?_, fun b hb => ?_⟩
  · simp
  · rw [Go.Sort.heap_grow_old _ _ (by simpa using hb)]
    exact h0.block b hb

theorem decDigits_nums (n : Nat) : (Lib.decDigits n).map (fun b => (b.toNat : Int)) = digitsL n := by
  induction n using Nat.strongRecOn with
  | ind n ih =>
    rw [Lib.decDigits]
    split
    · rename_i h
      rw [digitsL_small h]
      simp
      omega
    · rename_i h
      rw [digitsL_step h, List.map_append, ih (n / 10) (by omega)]
      simp
      omega

/-- What a text is told as. -/
def StrRes (w : World) (bs : List Int) (e : Ending) (w' : World) : Prop := ∃ s, e = .returned (.string s) ∧ numsOf s = bs ∧ Below w.heap.size w w'
theorem itoa_any (n : Int) (w : World) (h0 : 0 ≤ n) (h1 : n ≤ 9223372036854775807) (ht : Tab w) :
    Calls Tryz.prog 29 #[.int .i64 n] w fun e w' => StrRes w (digitsL n.toNat) e w' := by
  refine (Tryz.strconv_Itoa n (by omega) h1 w ht).mono ?_
  rintro e w' ⟨rfl, k, os, rfl⟩
  refine ⟨_, rfl, ?_, below_grow _ _ _⟩
  have hn : ¬ n < 0 := by omega
  simp only [numsOf, Lib.itoa, hn, if_false]
  exact decDigits_nums n.toNat

theorem repeatL_nums (c : Nat) : (Lib.repeatL [48] c).map (fun b : UInt8 => (b.toNat : Int)) = List.replicate c 48 := by
  induction c with
  | zero => rfl
  | succ c ih =>
    rw [Lib.repeatL, List.map_append, ih, List.replicate_succ]
    rfl
theorem repeat0_any (c : Nat) (w : World) (h : c ≤ 1000) :
    Calls Tryz.prog 65 #[.string ⟨#[48]⟩, .int .i64 c] w fun e w' => StrRes w (List.replicate c 48) e w' := by
  refine (Tryz.strings_Repeat ⟨#[48]⟩ c w (by omega) (by show 1 * c ≤ _; omega)).mono ?_
  rintro e w' ⟨rfl, hb⟩
  exact ⟨_, rfl, by simp only [numsOf]; exact repeatL_nums c, hb⟩

theorem size_pos (n : Int) (w : World) (h : 0 ≤ n) : Calls Tryz.prog 64 #[.int .i64 n] w fun e w' => e = .returned (.int .i64 n) ∧ w' = w := by
  go_enter Tryz.func64, Tryz.ntmps64
  go_wp2
  go_ret
  exact ⟨rfl, rfl⟩
theorem size_neg (n : Int) (w : World) (h : 0 < n) (h1 : n ≤ 9223372036854775807) : Calls Tryz.prog 64 #[.int .i64 (-n)] w fun e w' => e = .returned (.int .i64 n) ∧ w' = w := by
  go_enter Tryz.func64, Tryz.ntmps64
  go_wp2
  go_ret
  exact ⟨rfl, rfl⟩

/-- A box of two. -/
def At2 (w : World) (b : Nat) (v0 v1 : Value) : Prop := b < w.heap.size ∧ w.cell? ⟨b, 0, none⟩ = some v0 ∧ w.cell? ⟨b, 1, none⟩ = some v1
theorem At2.below {w w' : World} {b : Nat} {v0 v1 : Value} (h : At2 w b v0 v1) (hb : Below w.heap.size w w') : At2 w' b v0 v1 := by
  obtain ⟨hl, h0, h1⟩ := h
  exact ⟨Nat.lt_of_lt_of_le hl hb.size, (hb.cell (p := ⟨b, 0, none⟩) hl).trans h0, (hb.cell (p := ⟨b, 1, none⟩) hl).trans h1⟩
theorem At2.new (w : World) (v0 v1 : Value) (t : TypeId) : At2 (w.alloc (.cells #[v0, v1] t)) w.heap.size v0 v1 := by
  refine ⟨by simp, by simp [go_sem], by simp [go_sem]⟩

theorem p10_nat (s : Nat) : p10 s = ((10 ^ s : Nat) : Int) := by
  induction s with
  | zero => rfl
  | succ s ih =>
    rw [Nat.pow_succ]
    simp only [p10, ih]
    omega
theorem numsOf_nil : numsOf ⟨#[]⟩ = [] := rfl

set_option maxHeartbeats 1000000 in
theorem text_pos (n : Int) (s : Nat) (w : World) (hs : s ≤ 6) (hn : 0 ≤ n) (hn' : n ≤ 1000000000000000) (ht : Tab w) :
    Calls Tryz.prog 32 #[.agg #[.int .i64 n, .int .i64 s]] w fun e w' => StrRes w (numL n s) e w' := by
  have P := fun w => tenTo_any s w hs
  have hp := p10_pos s
  have hp6 := p10_le hs
  have d0 : 0 ≤ n / p10 s := Int.ediv_nonneg hn (by omega)
  have d1 : n / p10 s ≤ n := Int.ediv_le_self _ hn
  have m0 : 0 ≤ n % p10 s := Int.emod_nonneg _ (by omega)
  have m1 : n % p10 s < p10 s := Int.emod_lt_of_pos _ (by omega)
  have I1 := fun w ht => itoa_any (n / p10 s) w d0 (by omega) ht
  have I2 := fun w ht => itoa_any (n % p10 s) w m0 (by omega) ht
  have hL1 := digitsL_len 16 (n / p10 s).toNat (by omega)
  have hL2 : s ≠ 0 → (digitsL (n % p10 s).toNat).length ≤ s := fun h0 => by
    have := digitsL_len (s - 1) (n % p10 s).toNat (by have := p10_nat s; rw [show s - 1 + 1 = s by omega]; omega)
    omega
  have HA := At2.new w (.int .i64 n) (.int .i64 s) 52
  have HT : Hid (Tab (w.alloc (.cells #[.int .i64 n, .int .i64 s] 52))) := ht.below (bl_a _)
  have SZ := fun w => size_pos n w hn
  unfold numL
  generalize digitsL (n / p10 s).toNat = d at *
  generalize digitsL (n % p10 s).toNat = f at *
  go_enter Tryz.func32, Tryz.ntmps32
  go_wp2_with fail
  refine (P _).mono ?_
  rintro e w1 ⟨rfl, rfl⟩
  go_wp2_with fail
  refine (SZ _).mono ?_
  rintro e w1 ⟨rfl, rfl⟩
  go_wp2_with fail
  refine (I1 _ HT.out).mono ?_
  rintro e w2 ⟨s1, rfl, hs1, hb1⟩
  obtain ⟨ha0, ha1, ha2⟩ := HA.below hb1
  have HB2 : Hid (Below w.heap.size w w2) := bl_trans (bl_a _) hb1
  have HT2 : Hid (Tab w2) := HT.out.below hb1
  have HS1 : Hid (numsOf s1 = d) := hs1
  have hz1 : s1.size ≤ 17 := by rw [← numsOf_len, hs1]; omega
  clear hb1 hs1 HT HA I1 P
  by_cases hs0 : s = 0
  · go_wp2_with fail
    go_ret
    refine ⟨_, rfl, ?_, HB2.out⟩
    simp [HS1.out, numsOf_append, numsOf_nil]
  · go_wp2_with fail
    refine (SZ _).mono ?_
    rintro e w3 ⟨rfl, rfl⟩
    go_wp2_with fail
    refine (I2 _ HT2.out).mono ?_
    rintro e w4 ⟨s2, rfl, hs2, hb4⟩
    have ha4 := (hb4.cell (p := ⟨w.heap.size, 1, none⟩) ha0).trans ha2
    have HB4 : Hid (Below w.heap.size w w4) := bl_trans HB2.out hb4
    have hz : s2.size = f.length := by rw [← numsOf_len, hs2]
    have HS2 : Hid (numsOf s2 = f) := hs2
    clear hb4 hs2 I2 HT2 SZ
    have hf := hL2 hs0
    have R : ∀ c : Int, c = ((s - f.length : Nat) : Int) → ∀ w, Calls Tryz.prog 65 #[.string ⟨#[48]⟩, .int .i64 c] w fun e w' => StrRes w (List.replicate (s - f.length) 48) e w' := fun c hc w => by
      rw [hc]
      exact repeat0_any (s - f.length) w (by omega)
    go_wp2_with fail
    refine (R _ (by omega) _).mono ?_
    rintro e w5 ⟨s3, rfl, hs3, hb5⟩
    have hz3 : s3.size ≤ 6 := by rw [← numsOf_len, hs3]; simp; omega
    have HB5 : Hid (Below w.heap.size w w5) := bl_trans HB4.out hb5
    have HS3 : Hid (numsOf s3 = List.replicate (s - f.length) 48) := hs3
    clear hb5 hs3 R
    go_wp2_with fail
    go_ret
    refine ⟨_, rfl, ?_, HB5.out⟩
    simp only [numsOf_append, numsOf_nil, HS1.out, HS2.out, HS3.out]
    simp [numsOf]
set_option maxHeartbeats 1000000 in
theorem text_neg (n : Int) (s : Nat) (w : World) (hs : s ≤ 6) (hn1 : 0 < n) (hn' : n ≤ 1000000000000000) (ht : Tab w) :
    Calls Tryz.prog 32 #[.agg #[.int .i64 (-n), .int .i64 s]] w fun e w' => StrRes w (45 :: numL n s) e w' := by
  have hn : 0 ≤ n := by omega
  have P := fun w => tenTo_any s w hs
  have hp := p10_pos s
  have hp6 := p10_le hs
  have d0 : 0 ≤ n / p10 s := Int.ediv_nonneg hn (by omega)
  have d1 : n / p10 s ≤ n := Int.ediv_le_self _ hn
  have m0 : 0 ≤ n % p10 s := Int.emod_nonneg _ (by omega)
  have m1 : n % p10 s < p10 s := Int.emod_lt_of_pos _ (by omega)
  have I1 := fun w ht => itoa_any (n / p10 s) w d0 (by omega) ht
  have I2 := fun w ht => itoa_any (n % p10 s) w m0 (by omega) ht
  have hL1 := digitsL_len 16 (n / p10 s).toNat (by omega)
  have hL2 : s ≠ 0 → (digitsL (n % p10 s).toNat).length ≤ s := fun h0 => by
    have := digitsL_len (s - 1) (n % p10 s).toNat (by have := p10_nat s; rw [show s - 1 + 1 = s by omega]; omega)
    omega
  have HA := At2.new w (.int .i64 (-n)) (.int .i64 s) 52
  have HT : Hid (Tab (w.alloc (.cells #[.int .i64 (-n), .int .i64 s] 52))) := ht.below (bl_a _)
  have SZ := fun w => size_neg n w hn1 (by omega)
  unfold numL
  generalize digitsL (n / p10 s).toNat = d at *
  generalize digitsL (n % p10 s).toNat = f at *
  go_enter Tryz.func32, Tryz.ntmps32
  go_wp2_with fail
  refine (P _).mono ?_
  rintro e w1 ⟨rfl, rfl⟩
  go_wp2_with fail
  refine (SZ _).mono ?_
  rintro e w1 ⟨rfl, rfl⟩
  go_wp2_with fail
  refine (I1 _ HT.out).mono ?_
  rintro e w2 ⟨s1, rfl, hs1, hb1⟩
  obtain ⟨ha0, ha1, ha2⟩ := HA.below hb1
  have HB2 : Hid (Below w.heap.size w w2) := bl_trans (bl_a _) hb1
  have HT2 : Hid (Tab w2) := HT.out.below hb1
  have HS1 : Hid (numsOf s1 = d) := hs1
  have hz1 : s1.size ≤ 17 := by rw [← numsOf_len, hs1]; omega
  clear hb1 hs1 HT HA I1 P
  by_cases hs0 : s = 0
  · go_wp2_with fail
    go_ret
    refine ⟨_, rfl, ?_, HB2.out⟩
    simp [HS1.out, numsOf_append]
    rfl
  · go_wp2_with fail
    refine (SZ _).mono ?_
    rintro e w3 ⟨rfl, rfl⟩
    go_wp2_with fail
    refine (I2 _ HT2.out).mono ?_
    rintro e w4 ⟨s2, rfl, hs2, hb4⟩
    have ha4 := (hb4.cell (p := ⟨w.heap.size, 1, none⟩) ha0).trans ha2
    have HB4 : Hid (Below w.heap.size w w4) := bl_trans HB2.out hb4
    have hz : s2.size = f.length := by rw [← numsOf_len, hs2]
    have HS2 : Hid (numsOf s2 = f) := hs2
    clear hb4 hs2 I2 HT2 SZ
    have hf := hL2 hs0
    have R : ∀ c : Int, c = ((s - f.length : Nat) : Int) → ∀ w, Calls Tryz.prog 65 #[.string ⟨#[48]⟩, .int .i64 c] w fun e w' => StrRes w (List.replicate (s - f.length) 48) e w' := fun c hc w => by
      rw [hc]
      exact repeat0_any (s - f.length) w (by omega)
    go_wp2_with fail
    refine (R _ (by omega) _).mono ?_
    rintro e w5 ⟨s3, rfl, hs3, hb5⟩
    have hz3 : s3.size ≤ 6 := by rw [← numsOf_len, hs3]; simp; omega
    have HB5 : Hid (Below w.heap.size w w5) := bl_trans HB4.out hb5
    have HS3 : Hid (numsOf s3 = List.replicate (s - f.length) 48) := hs3
    clear hb5 hs3 R
    go_wp2_with fail
    go_ret
    refine ⟨_, rfl, ?_, HB5.out⟩
    simp only [numsOf_append, HS1.out, HS2.out, HS3.out]
    simp [numsOf]
end Go.Proofs.YtoclingolfdfeaaGreatDoor

/- ShwJ -/
namespace Go.Proofs.YtoclingolfdfeaaGreatDoor
open Go.RowKit Go.Deep
set_option maxRecDepth 100000

theorem conv_res {w w1 : World} (S : ByteArray) (N : Nat) {bs : List Int} (hb : Below w.heap.size w w1) (hN : S.size = N) (hn : numsOf S = bs) (hl : bs.length ≤ 1048576) :
    TxRes w bs (.returned (.slice (some ⟨w1.heap.size, 0, none⟩) N (grownCap w1 N 0 5))) (Lib.bytesWorld w1 5 S) := by
  have hs : S.size = bs.length := by rw [← hn, numsOf_len]
  have := Tx.conv w1 S 5 (by omega)
  rw [hn, hs] at this
  rw [← hN, hs]
  exact ⟨_, _, rfl, this.nw.mono hb.size, bl_trans hb (bytesWorld_below _ _ _)⟩

theorem size_name (st : ByteArray) : (({ data := #[60] } : ByteArray) ++ st ++ { data := #[62] }).size = 1 + st.size + 1 := by
  rw [ByteArray.size_append, ByteArray.size_append]
  rfl
theorem size_blank (st : ByteArray) : (({ data := #[95, 58] } : ByteArray) ++ st).size = 2 + st.size := by
  rw [ByteArray.size_append]
  rfl
theorem text_any (n s : Int) (w : World) (h : numOk n s = true) (ht : Tab w) :
    Calls Tryz.prog 32 #[.agg #[.int .i64 n, .int .i64 s]] w fun e w' => StrRes w (showL 3 n s []) e w' := by
  have hb := numOk_bounds h
  obtain ⟨t, rfl⟩ : ∃ t : Nat, s = t := ⟨s.toNat, by omega⟩
  by_cases hn : n < 0
  · obtain ⟨m, rfl⟩ : ∃ m, n = -m := ⟨-n, by omega⟩
    have := text_neg m t w (by omega) (by omega) (by omega) ht
    have e : showL 3 (-m) t [] = 45 :: numL m t := by simp [showL]; omega
    rw [e]
    exact this
  · have := text_pos n t w (by omega) (by omega) (by omega) ht
    have e : showL 3 n t [] = numL n t := by simp [showL, hn]
    rw [e]
    exact this

set_option maxHeartbeats 1000000 in
theorem implShow_any (k n s : Int) (a : Option Addr) (len cap : Nat) (bs : List Int) (w : World) (hB : Bs w a len bs) (h1 : -9223372036854775808 ≤ n) (h2 : n ≤ 9223372036854775807) (h3 : -9223372036854775808 ≤ s) (h4 : s ≤ 9223372036854775807) (ht : Tab w) :
    Calls Tryz.prog 7 #[.agg #[.int .i64 k, .slice a len cap, .int .i64 n, .int .i64 s]] w fun e w' => TxRes w (shownL k n s bs) e w' := by
  have T := fun o => implTermOk_any k n s a len cap bs (w.alloc o) (hB.below (bl_a o)) h1 h2 h3 h4
  have hcv := fun (w : World) (s : ByteArray) => Lib.run_convert_string_bytes (P := Tryz.prog) w 9 22 5 s Tryz.underlying9 Tryz.underlying22 Tryz.underlying5
  have HA := At4.new w (.int .i64 k) (.slice a len cap) (.int .i64 n) (.int .i64 s) 24
  have HT : Hid (Tab (w.alloc (.cells #[.int .i64 k, .slice a len cap, .int .i64 n, .int .i64 s] 24))) := ht.below (bl_a _)
  have HBs : Hid (Bs (w.alloc (.cells #[.int .i64 k, .slice a len cap, .int .i64 n, .int .i64 s] 24)) a len bs) := hB.below (bl_a _)
  have HY : Hid (Byt bs) := hB.byt
  have HL : Hid (bs.length = len) := hB.1
  cases hok : termOk k bs n s
  · have e : shownL k n s bs = [] := by simp [shownL, hok]
    rw [e]
    rw [hok] at T
    clear hB hcv HA HT HBs
    go_enter Tryz.func7, Tryz.ntmps7
    go_wp2_with fail
    refine (T _).mono ?_
    rintro e w1 ⟨rfl, hb1⟩
    have HB1 : Hid (Below w.heap.size w w1) := bl_trans (bl_a _) hb1
    clear hb1 T
    go_wp2_with fail
    go_ret
    exact ⟨none, 0, rfl, Nw.nil _ _, HB1.out⟩
  · have e : shownL k n s bs = showL k n s bs := by simp [shownL, hok]
    rw [e]
    have hln := showL_len hok
    have HYY : Hid (Byt (showL k n s bs)) := showL_byt HY.out
    rw [hok] at T
    have HOK := hok
    unfold termOk at hok
    clear hB ht
    split at hok
    · rename_i hk
      subst hk
      have HE : Hid (showL 0 n s bs = 60 :: (bs ++ [62])) := by show _ = _; simp [showL]
      have hz : (strOfNums bs).size ≤ 12 := by rw [strOfNums_size]; simp [nameOk] at hok; omega
      have HN : Hid (numsOf (strOfNums bs) = bs) := numsOf_nums HY.out
      generalize showL 0 n s bs = L at *
      clear hok HOK HT
      go_enter Tryz.func7, Tryz.ntmps7
      go_wp2_with fail
      refine (T _).mono ?_
      rintro e w1 ⟨rfl, hb1⟩
      obtain ⟨a0, a1, a2, a3, a4⟩ := HA.below hb1
      have hv := (HBs.out.below hb1).str (cap := cap)
      have HB1 : Hid (Below w.heap.size w w1) := bl_trans (bl_a _) hb1
      clear hb1 T HA HBs
      generalize strOfNums bs = st at *
      go_wp2_with fail
      go_ret
      refine conv_res ({ data := #[60] } ++ st ++ { data := #[62] }) (1 + st.size + 1) (bs := L) HB1.out (size_name st) ?_ (by omega)
      rw [HE.out]
      simp only [numsOf_append, HN.out]
      simp [numsOf]
    split at hok
    · rename_i k0 hk
      subst hk
      have HE : Hid (showL 1 n s bs = 95 :: 58 :: digitsL n.toNat) := by show _ = _; simp [showL]
      have hn : 0 ≤ n := by simp at hok; omega
      have I := fun w ht => itoa_any n w hn h2 ht
      have hL := digitsL_len 18 n.toNat (by omega)
      generalize showL 1 n s bs = L at *
      generalize digitsL n.toNat = d at *
      clear hok HOK
      go_enter Tryz.func7, Tryz.ntmps7
      go_wp2_with fail
      refine (T _).mono ?_
      rintro e w1 ⟨rfl, hb1⟩
      obtain ⟨a0, a1, a2, a3, a4⟩ := HA.below hb1
      have HB1 : Hid (Below w.heap.size w w1) := bl_trans (bl_a _) hb1
      have HT1 : Hid (Tab w1) := HT.out.below hb1
      clear hb1 T HA HBs HT
      go_wp2_with fail
      refine (I _ HT1.out).mono ?_
      rintro e w2 ⟨st, rfl, hst, hb2⟩
      have HB2 : Hid (Below w.heap.size w w2) := bl_trans HB1.out hb2
      have HN : Hid (numsOf st = d) := hst
      have hz : st.size ≤ 19 := by rw [← numsOf_len, hst]; omega
      clear hb2 hst I HT1 HB1
      go_wp2_with fail
      go_ret
      refine conv_res ({ data := #[95, 58] } ++ st) (2 + st.size) (bs := L) HB2.out (size_blank st) ?_ (by omega)
      rw [HE.out]
      simp only [numsOf_append, HN.out]
      simp [numsOf]
    split at hok
    · rename_i k0 k1 hk
      subst hk
      have HE : Hid (showL 2 n s bs = 34 :: (esc bs ++ [34])) := by show _ = _; simp [showL]
      have Q := fun w hB => quoted_any a len cap bs w hB
      generalize showL 2 n s bs = L at *
      generalize (34 :: (esc bs ++ [34])) = L2 at *
      obtain rfl : L = L2 := HE.out
      clear hok HOK HT HE
      go_enter Tryz.func7, Tryz.ntmps7
      go_wp2_with fail
      refine (T _).mono ?_
      rintro e w1 ⟨rfl, hb1⟩
      obtain ⟨a0, a1, a2, a3, a4⟩ := HA.below hb1
      have HB1 : Hid (Below w.heap.size w w1) := bl_trans (bl_a _) hb1
      have HBs1 : Hid (Bs w1 a len bs) := HBs.out.below hb1
      clear hb1 T HA HBs
      go_wp2_with fail
      refine (Q _ HBs1.out).mono ?_
      intro e w2 hR
      have HR := (hR.later HB1.out).tx HYY.out (by omega)
      clear hR Q
      obtain ⟨x, cp, rfl, hr, hbl⟩ := HR
      have HR : Hid (Nw w2 w.heap.size x L.length L) := hr
      have HB : Hid (Below w.heap.size w w2) := hbl
      clear hr hbl
      go_wp2_with fail
      go_ret
      exact ⟨x, cp, rfl, HR.out, HB.out⟩
    split at hok
    · rename_i k0 k1 k2 hk
      subst hk
      have HE : Hid (showL 3 n s bs = showL 3 n s []) := by show _ = _; simp [showL]
      simp only [Bool.and_eq_true] at hok
      have X := fun w ht => text_any n s w hok.2 ht
      have D := fun w => decimal_any 3 n s a len cap w
      rw [HE.out] at hln HYY ⊢
      clear HE HOK hok
      generalize showL 3 n s [] = L at *
      go_enter Tryz.func7, Tryz.ntmps7
      go_wp2_with fail
      refine (T _).mono ?_
      rintro e w1 ⟨rfl, hb1⟩
      obtain ⟨a0, a1, a2, a3, a4⟩ := HA.below hb1
      have HB1 : Hid (Below w.heap.size w w1) := bl_trans (bl_a _) hb1
      have HT1 : Hid (Tab w1) := HT.out.below hb1
      clear hb1 T HA HBs HT
      go_wp2_with fail
      refine (D _).mono ?_
      rintro e w1' ⟨rfl, o1, o2, rfl⟩
      have HB1' : Hid (Below w.heap.size w ((w1.alloc o1).alloc o2)) := bl_alloc (bl_alloc HB1.out _) _
      have HT1' : Hid (Tab ((w1.alloc o1).alloc o2)) := HT1.out.below (bl_alloc (bl_a _) _)
      go_wp2_with fail
      refine (X _ HT1'.out).mono ?_
      rintro e w2 ⟨st, rfl, hst, hb2⟩
      have HB2 : Hid (Below w.heap.size w w2) := bl_trans HB1'.out hb2
      have HN : Hid (numsOf st = L) := hst
      have hz : st.size ≤ 64 := by rw [← numsOf_len, hst]; omega
      clear hb2 hst X HT1 HB1 HB1' HT1'
      go_wp2_with fail
      go_ret
      exact conv_res st st.size (bs := L) HB2.out rfl HN.out (by omega)
    · cases hok
end Go.Proofs.YtoclingolfdfeaaGreatDoor

/- RdE -/
namespace Go.Proofs.YtoclingolfdfeaaGreatDoor
open Go.RowKit Go.Deep
set_option maxRecDepth 100000

theorem atoi_bounds {l : List UInt8} {v : Int} (h : Lib.atoiAll l = .ok v) : -9223372036854775808 ≤ v ∧ v ≤ 9223372036854775807 := by
  cases l with
  | nil => simp [Lib.atoiAll] at h
  | cons c r =>
    simp only [Lib.atoiAll] at h
    split at h
    · cases h
    · cases h
    · rename_i u hu
      split at h
      · cases h
      · split at h
        · cases h
        · rename_i h1 h2
          simp only [Lib.NumEnd.ok.injEq] at h
          by_cases hn : c.toNat = 45
          · rw [if_pos hn] at h
            have : u ≤ 9223372036854775808 := by
              apply Nat.le_of_not_lt
              intro hx
              exact h2 ⟨hn, hx⟩
            omega
          · rw [if_neg hn] at h
            have : u < 9223372036854775808 := by
              apply Nat.lt_of_not_le
              intro hx
              exact h1 ⟨hn, hx⟩
            omega
theorem frac_digits (m : Int) (k : Nat) : ∀ x ∈ List.replicate (k - (digitsL (m % p10 k).toNat).length) (48 : Int) ++ digitsL (m % p10 k).toNat, 48 ≤ x ∧ x ≤ 57 := by
  intro x hx
  rcases List.mem_append.1 hx with hx | hx
  · rw [(List.mem_replicate.1 hx).2]; omega
  · exact digitsL_mem _ x hx
/-- The digits of a number, without its point. -/
theorem num_parts (m : Int) (k : Nat) (h0 : 0 ≤ m) : ((cutDot (numL m k)).1 ++ (cutDot (numL m k)).2) ≠ [] ∧ (∀ x ∈ (cutDot (numL m k)).1 ++ (cutDot (numL m k)).2, 48 ≤ x ∧ x ≤ 57) ∧ (valL ((cutDot (numL m k)).1 ++ (cutDot (numL m k)).2) : Int) = m ∧ (cutDot (numL m k)).2.length = k := by
  have hc := candB_num m k h0
  unfold candB at hc
  simp only [Prod.mk.injEq] at hc
  refine ⟨?_, ?_, hc.1, by have := hc.2; omega⟩
  · rw [numL_cut]
    have := digitsL_pos (m / p10 k).toNat
    intro e
    have h2 := congrArg List.length e
    rw [List.length_append, List.length_nil] at h2
    simp only at h2
    omega
  · rw [numL_cut]
    intro x hx
    rcases List.mem_append.1 hx with hx | hx
    · exact digitsL_mem _ x hx
    · split at hx
      · cases hx
      · exact frac_digits m k x hx
theorem num_read {raw : List Int} {n s : Int} (h : numOf raw = some (n, s)) {a b : ByteArray} (ha : numsOf a = (cutDot raw).1) (hb : numsOf b = (cutDot raw).2) : Lib.atoiAll (a ++ b).data.toList = .ok n ∧ (b.size : Int) = s := by
  obtain ⟨hok, hsh⟩ := numOf_some.1 h
  obtain ⟨b1, b2, b3, b4⟩ := numOk_bounds hok
  have eU : numsU (a ++ b).data.toList = (cutDot raw).1 ++ (cutDot raw).2 := by rw [← numsOf_u, numsOf_append, ha, hb]
  have eL : b.size = (cutDot raw).2.length := by rw [← hb, numsOf_len]
  by_cases hn : n < 0
  · have e : raw = 45 :: numL (-n) s.toNat := by rw [← hsh]; simp [showL, hn]
    have e1 : cutDot raw = (45 :: (cutDot (numL (-n) s.toNat)).1, (cutDot (numL (-n) s.toNat)).2) := by rw [e]; simp [cutDot]
    obtain ⟨p1, p2, p3, p4⟩ := num_parts (-n) s.toNat (by omega)
    rw [e1] at eU eL
    have hA := atoi_minus (l := (a ++ b).data.toList) (D := (cutDot (numL (-n) s.toNat)).1 ++ (cutDot (numL (-n) s.toNat)).2) (by rw [eU]; rfl) p1 p2 (by omega)
    refine ⟨by rw [hA, p3]; simp, ?_⟩
    simp only at eL
    rw [eL, p4]
    omega
  · have e : raw = numL n s.toNat := by rw [← hsh]; simp [showL, hn]
    obtain ⟨p1, p2, p3, p4⟩ := num_parts n s.toNat (by omega)
    rw [e] at eU eL
    have hA := atoi_digits (l := (a ++ b).data.toList) eU p1 p2 (by omega)
    refine ⟨by rw [hA, p3], ?_⟩
    rw [eL, p4]
    omega

theorem cutDot_len : ∀ l : List Int, (cutDot l).1.length + (cutDot l).2.length ≤ l.length
  | [] => by simp [cutDot]
  | b :: r => by
    have := cutDot_len r
    unfold cutDot
    split <;> simp <;> omega
/-- A box of four that may be written. -/
def Bx4 (w : World) (b : Nat) (v0 v1 v2 v3 : Value) : Prop := At4 w b v0 v1 v2 v3 ∧ w.frozen? ⟨b, 0, none⟩ = false ∧ w.frozen? ⟨b, 1, none⟩ = false ∧ w.frozen? ⟨b, 2, none⟩ = false ∧ w.frozen? ⟨b, 3, none⟩ = false
theorem Bx4.new (w : World) (v0 v1 v2 v3 : Value) (t : TypeId) : Bx4 (w.alloc (.cells #[v0, v1, v2, v3] t)) w.heap.size v0 v1 v2 v3 := by
  refine ⟨At4.new _ _ _ _ _ _, ?_, ?_, ?_, ?_⟩ <;> simp [go_sem]
theorem Bx4.below {w w' : World} {b : Nat} {v0 v1 v2 v3 : Value} (h : Bx4 w b v0 v1 v2 v3) (hb : Below w.heap.size w w') : Bx4 w' b v0 v1 v2 v3 := by
  obtain ⟨h0, f0, f1, f2, f3⟩ := h
  have hl := h0.1
  exact ⟨h0.below hb, (hb.frozen (p := ⟨b, 0, none⟩) hl).trans f0, (hb.frozen (p := ⟨b, 1, none⟩) hl).trans f1, (hb.frozen (p := ⟨b, 2, none⟩) hl).trans f2, (hb.frozen (p := ⟨b, 3, none⟩) hl).trans f3⟩
/-- What numberIn answers: a number, or nothing; the one that is written so, if there is one. -/
def NumRes (raw : List Int) (w : World) (e : Ending) (w' : World) : Prop :=
  ∃ k n s : Int, e = .returned (.agg #[.int .i64 k, .slice none 0 0, .int .i64 n, .int .i64 s]) ∧ (k = 3 ∨ k = 0) ∧ -9223372036854775808 ≤ n ∧ n ≤ 9223372036854775807 ∧ 0 ≤ s ∧ s ≤ 1048576 ∧ (∀ n' s', numOf raw = some (n', s') → k = 3 ∧ n = n' ∧ s = s') ∧ Below w.heap.size w w'
theorem numberIn_any (t : ByteArray) (w : World) (hs : t.size ≤ 1048576) (hE : Errs w) :
    Calls Tryz.prog 140 #[.string t] w (NumRes (numsOf t) w) := by
  have HE : Hid (Errs w) := hE
  clear hE
  go_enter Tryz.func140, Tryz.ntmps140
  go_wp2_with fail
  refine (cut_any t _ hs).mono ?_
  rintro e w1 ⟨a, b, q, rfl, h1, h2, h3⟩
  have HB0 := (Bx4.new w (.int .i64 0) (.slice none 0 0) (.int .i64 0) (.int .i64 0) 24).below h3
  have HE1 : Hid (Errs w1) := (HE.out.below (bl_a _)).below h3
  have H1 : Hid (numsOf a = (cutDot (numsOf t)).1) := h1
  have H2 : Hid (numsOf b = (cutDot (numsOf t)).2) := h2
  have HW : Hid (Below w.heap.size w w1) := bl_trans (bl_a _) h3
  have hsz : a.size + b.size ≤ t.size := by
    have e1 := congrArg List.length h1
    have e2 := congrArg List.length h2
    rw [numsOf_len] at e1 e2
    have := cutDot_len (numsOf t)
    rw [numsOf_len] at this
    omega
  clear h1 h2 h3 HE
  go_wp2_with fail
  refine (atoi_any (a ++ b) _ (by rw [ByteArray.size_append]; omega) HE1.out).mono ?_
  rintro e w2 (⟨v, hv, rfl, hb⟩ | ⟨v, ty, p, hv, rfl, hb⟩)
  · have HV : Hid (Lib.atoiAll (a ++ b).data.toList = .ok v) := hv
    obtain ⟨⟨a0, a1, a2, a3, a4⟩, f0, f1, f2, f3⟩ := HB0.below hb
    have HW2 : Hid (Below w.heap.size w w2) := bl_trans HW.out hb
    clear hv hb HE1 HB0 HW
    go_wp2_with fail
    refine bodyPost_ret (v := .agg #[.int .i64 3, .slice none 0 0, .int .i64 v, .int .i64 b.size]) (by simp [results, Tryz.results140, go_sem, *]) rfl ?_
    have hvb := atoi_bounds HV.out
    refine ⟨3, v, b.size, rfl, .inl rfl, hvb.1, hvb.2, by omega, by omega, fun n' s' hn => ?_, ?_⟩
    · have hr := num_read hn H1.out H2.out
      rw [HV.out] at hr
      simp only [Lib.NumEnd.ok.injEq] at hr
      exact ⟨rfl, hr.1, hr.2⟩
    · exact bl_set (bl_set (bl_set (bl_set HW2.out (Nat.le_refl _) _) (Nat.le_refl _) _) (Nat.le_refl _) _) (Nat.le_refl _) _
  · have HV : Hid (∀ u, Lib.atoiAll (a ++ b).data.toList ≠ .ok u) := hv
    obtain ⟨⟨a0, a1, a2, a3, a4⟩, f0, f1, f2, f3⟩ := HB0.below hb
    have HW2 : Hid (Below w.heap.size w w2) := bl_trans HW.out hb
    clear hv hb HE1 HB0 HW
    go_wp2_with fail
    refine bodyPost_ret (v := .agg #[.int .i64 0, .slice none 0 0, .int .i64 0, .int .i64 0]) (by simp [results, Tryz.results140, go_sem, *]) rfl ?_
    refine ⟨0, 0, 0, rfl, .inr rfl, by omega, by omega, by omega, by omega, fun n' s' hn => ?_, ?_⟩
    · exact absurd (num_read hn H1.out H2.out).1 (HV.out n')
    · exact bl_set (bl_set (bl_set (bl_set HW2.out (Nat.le_refl _) _) (Nat.le_refl _) _) (Nat.le_refl _) _) (Nat.le_refl _) _
/-- What blankIn answers. -/
def BlankRes (p : List Int) (w : World) (e : Ending) (w' : World) : Prop :=
  ∃ k n : Int, e = .returned (.agg #[.int .i64 k, .slice none 0 0, .int .i64 n, .int .i64 0]) ∧ (k = 1 ∨ k = 0) ∧ -9223372036854775808 ≤ n ∧ n ≤ 9223372036854775807 ∧ (∀ n' : Nat, blankOf p = some n' → k = 1 ∧ n = n') ∧ Below w.heap.size w w'
theorem blankIn_any (t : ByteArray) (w : World) (h2 : 2 ≤ t.size) (hs : t.size ≤ 1048576) (hE : Errs w) :
    Calls Tryz.prog 144 #[.string t] w (BlankRes ((numsOf t).drop 2) w) := by
  have HE1 : Hid (Errs (w.alloc (.cells #[.int .i64 0, .slice none 0 0, .int .i64 0, .int .i64 0] 24))) := hE.below (bl_a _)
  have HB0 := Bx4.new w (.int .i64 0) (.slice none 0 0) (.int .i64 0) (.int .i64 0) 24
  have HS : Hid (numsOf (t.extract 2 t.size) = (numsOf t).drop 2) := by
    show _ = _
    rw [nums_extract, List.take_of_length_le]
    rw [List.length_drop, numsOf_len]
    omega
  have hz : (t.extract 2 t.size).size ≤ 1048576 := by
    have := congrArg List.length HS.out
    rw [numsOf_len, List.length_drop, numsOf_len] at this
    omega
  clear hE
  generalize hx : t.extract 2 t.size = x at *
  go_enter Tryz.func144, Tryz.ntmps144
  go_wp2_with fail
  refine (atoi_any x _ hz HE1.out).mono ?_
  rintro e w2 (⟨v, hv, rfl, hb⟩ | ⟨v, ty, p, hv, rfl, hb⟩)
  · have HV : Hid (Lib.atoiAll x.data.toList = .ok v) := hv
    obtain ⟨⟨a0, a1, a2, a3, a4⟩, f0, f1, f2, f3⟩ := HB0.below hb
    have HW2 : Hid (Below w.heap.size w w2) := bl_trans (bl_a _) hb
    clear hv hb HE1 HB0
    go_wp2_with fail
    refine bodyPost_ret (v := .agg #[.int .i64 1, .slice none 0 0, .int .i64 v, .int .i64 0]) (by simp [results, Tryz.results144, go_sem, *]) rfl ?_
    have hvb := atoi_bounds HV.out
    refine ⟨1, v, rfl, .inl rfl, hvb.1, hvb.2, fun n' hn => ?_, ?_⟩
    · obtain ⟨h9, hd⟩ := blankOf_some.1 hn
      have hp := digitsL_pos n'
      have := atoi_digits (l := x.data.toList) (D := digitsL n') (by rw [← numsOf_u, HS.out, hd]) (by intro e; rw [e] at hp; simp at hp) (digitsL_mem n') (by rw [valL_digits]; omega)
      rw [HV.out, valL_digits] at this
      simp only [Lib.NumEnd.ok.injEq] at this
      exact ⟨rfl, this⟩
    · exact bl_set (bl_set (bl_set (bl_set HW2.out (Nat.le_refl _) _) (Nat.le_refl _) _) (Nat.le_refl _) _) (Nat.le_refl _) _
  · have HV : Hid (∀ u, Lib.atoiAll x.data.toList ≠ .ok u) := hv
    obtain ⟨⟨a0, a1, a2, a3, a4⟩, f0, f1, f2, f3⟩ := HB0.below hb
    have HW2 : Hid (Below w.heap.size w w2) := bl_trans (bl_a _) hb
    clear hv hb HE1 HB0
    go_wp2_with fail
    refine bodyPost_ret (v := .agg #[.int .i64 0, .slice none 0 0, .int .i64 0, .int .i64 0]) (by simp [results, Tryz.results144, go_sem, *]) rfl ?_
    refine ⟨0, 0, rfl, .inr rfl, by omega, by omega, fun n' hn => ?_, ?_⟩
    · obtain ⟨h9, hd⟩ := blankOf_some.1 hn
      have hp := digitsL_pos n'
      have := atoi_digits (l := x.data.toList) (D := digitsL n') (by rw [← numsOf_u, HS.out, hd]) (by intro e; rw [e] at hp; simp at hp) (digitsL_mem n') (by rw [valL_digits]; omega)
      exact absurd this (HV.out _)
    · exact bl_set (bl_set (bl_set (bl_set HW2.out (Nat.le_refl _) _) (Nat.le_refl _) _) (Nat.le_refl _) _) (Nat.le_refl _) _

theorem hasPrefix_one (t : ByteArray) (c : UInt8) : Lib.hasPrefix t.data.toList [c] = ((numsOf t)[0]? == some (c.toNat : Int)) := by
  rw [numsOf_u]
  unfold numsU Lib.hasPrefix
  cases t.data.toList with
  | nil => rfl
  | cons b l =>
    rw [Bool.eq_iff_iff]
    simp
    constructor
    · rintro rfl; rfl
    · intro h
      exact (UInt8.toNat_inj.1 (by omega)).symm
/-- beginsName of the program. -/
theorem beginsName_any (t : ByteArray) (w : World) (h1 : 1 ≤ t.size) (hs : t.size ≤ 1048576) :
    Calls Tryz.prog 141 #[.string t] w fun e w' => e = .returned (.bool (nameOk (((numsOf t).drop 1).take (pieceLen ((numsOf t).drop 1))) && ((((numsOf t).drop 1).drop (pieceLen ((numsOf t).drop 1)))[0]? == some 62))) ∧ Below w.heap.size w w' := by
  have hL := pieceLen_le ((numsOf t).drop 1)
  rw [List.length_drop, numsOf_len] at hL
  have W := fun w => withPiece_any t 1 w h1 hs
  have hcv := fun (w : World) (s : ByteArray) => Lib.run_convert_string_bytes (P := Tryz.prog) w 9 22 5 s Tryz.underlying9 Tryz.underlying22 Tryz.underlying5
  generalize hP : pieceLen ((numsOf t).drop 1) = P at *
  have e1 : (t.extract 0 (1 + P)).size = 1 + P := by rw [← numsOf_len, nums_extract, List.drop_zero, List.length_take, numsOf_len]; omega
  have e2 : numsOf ((t.extract 0 (1 + P)).extract 1 (1 + P)) = ((numsOf t).drop 1).take P := by
    rw [nums_extract, nums_extract, List.drop_zero, List.drop_take, List.take_take]
    congr 1
    omega
  have e3 : ((t.extract 0 (1 + P)).extract 1 (1 + P)).size = P := by
    rw [← numsOf_len, e2, List.length_take, List.length_drop, numsOf_len]
    omega
  have e4 : numsOf (t.extract (1 + P) t.size) = ((numsOf t).drop 1).drop P := by
    rw [nums_extract, List.drop_drop, List.take_of_length_le]
    rw [List.length_drop, numsOf_len]
    omega
  have HP := fun w => Tryz.strings_HasPrefix (t.extract (1 + P) t.size) ⟨#[62]⟩ w
  have e5 : Lib.hasPrefix (t.extract (1 + P) t.size).data.toList [62] = ((((numsOf t).drop 1).drop P)[0]? == some 62) := by
    rw [hasPrefix_one, e4]
    rfl
  have HP' : ∀ w, Calls Tryz.prog 90 #[.string (t.extract (1 + P) t.size), .string ⟨#[62]⟩] w fun e w' => e = .returned (.bool ((((numsOf t).drop 1).drop P)[0]? == some 62)) ∧ w' = w := fun w => by
    have := HP w
    rw [show (⟨#[62]⟩ : ByteArray).data.toList = [62] from rfl, e5] at this
    exact this
  have N := fun w : World => isName_any (some ⟨w.heap.size, 0, none⟩) P (grownCap w P 0 5) (((numsOf t).drop 1).take P) (Lib.bytesWorld w 5 ((t.extract 0 (1 + P)).extract 1 (1 + P))) (by
    have := (Tx.conv w ((t.extract 0 (1 + P)).extract 1 (1 + P)) 5 (by rw [e3]; omega)).1
    rw [e2, e3] at this
    exact this)
  generalize nameOk (((numsOf t).drop 1).take P) = q at *
  generalize ((((numsOf t).drop 1).drop P)[0]? == some 62) = q2 at *
  generalize hR : t.extract 0 (1 + P) = R at *
  generalize hS : R.extract 1 (1 + P) = S at *
  clear e2 e4 e5 HP
  have hb1 : ¬ (1 : Int) + P < 1 := by omega
  have hb2 : (1 : Int) + P ≤ t.size := by omega
  cases q
  · go_enter Tryz.func141, Tryz.ntmps141
    go_wp2_with fail
    refine (W _).mono ?_
    rintro e w1 ⟨rfl, rfl⟩
    go_wp2_with fail
    refine (N _).mono ?_
    rintro e w2 ⟨rfl, rfl⟩
    go_wp2_with fail
    go_ret
    exact ⟨rfl, bytesWorld_below _ _ _⟩
  · go_enter Tryz.func141, Tryz.ntmps141
    go_wp2_with fail
    refine (W _).mono ?_
    rintro e w1 ⟨rfl, rfl⟩
    go_wp2_with fail
    refine (N _).mono ?_
    rintro e w2 ⟨rfl, rfl⟩
    go_wp2_with fail
    refine (HP' _).mono ?_
    rintro e w3 ⟨rfl, rfl⟩
    go_wp2_with fail
    go_ret
    exact ⟨by simp, bytesWorld_below _ _ _⟩
end Go.Proofs.YtoclingolfdfeaaGreatDoor
