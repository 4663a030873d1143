/- Show: strconv.Itoa and strings.Repeat in this text's words; the program's decimal.text and Show. -/
import Derived.Test.YtmpiadlmkeimdaaDoorShwH
import Derived.Test.YtmpiadlmkeimdaaDoorShf
import Derived.WalkSmall
namespace Go.Proofs.YtmpiadlmkeimdaaDoor
open Go.RowKit Go.Deep
set_option maxRecDepth 100000

/-- The library's table of powers of ten lies as it is written. -/
def Tab (w : World) : Prop := Lib.TabIs Tryd.prog w "internal/strconv.uint64pow10" .u64 Lib.pow10Tab
theorem tab_lt {w : World} (h : Tab w) : ∃ g, Tryd.prog.globalNamed "internal/strconv.uint64pow10" = some g ∧ g < w.heap.size := by
  unfold Tab Lib.TabIs World.var? at h
  cases hg : Tryd.prog.globalNamed "internal/strconv.uint64pow10" with
  | none => rw [hg] at h; cases h
  | some g =>
    refine ⟨g, rfl, ?_⟩
    apply Classical.byContradiction
    intro hn
    rw [hg] at h
    simp only [Option.bind_some] at h
    rw [Array.getElem?_eq_none (by omega)] at h
    cases h
theorem Tab.below {w w' : World} (h : Tab w) (hb : Below w.heap.size w w') : Tab w' := by
  obtain ⟨g, hg, hlt⟩ := tab_lt h
  exact var?_below hb hg hlt h

theorem below_grow (w : World) (k : Nat) (os : Array Obj) : Below w.heap.size w (Go.Sort.grow (w.drewN k) os) := by
  have h0 : Below w.heap.size w (w.drewN k) := below_drewN (Below.refl _ _) k
  refine ⟨h0.os, h0.tape, h0.output, ?_, fun b hb => ?_⟩
  · simp
  · rw [Go.Sort.heap_grow_old _ _ (by simpa using hb)]
    exact h0.block b hb

theorem decDigits_nums (n : Nat) : (Lib.decDigits n).map (fun b => (b.toNat : Int)) = digitsL n := by
  induction n using Nat.strongRecOn with
  | ind n ih =>
    rw [Lib.decDigits]
    split
    · rename_i h
      rw [digitsL_small h]
      simp
      omega
    · rename_i h
      rw [digitsL_step h, List.map_append, ih (n / 10) (by omega)]
      simp
      omega

/-- What a text is told as. -/
def StrRes (w : World) (bs : List Int) (e : Ending) (w' : World) : Prop := ∃ s, e = .returned (.string s) ∧ numsOf s = bs ∧ Below w.heap.size w w'
theorem itoa_any (n : Int) (w : World) (h0 : 0 ≤ n) (h1 : n ≤ 9223372036854775807) (ht : Tab w) :
    Calls Tryd.prog 25 #[.int .i64 n] w fun e w' => StrRes w (digitsL n.toNat) e w' := by
  refine (Tryd.strconv_Itoa n (by omega) h1 w ht).mono ?_
  rintro e w' ⟨rfl, k, os, rfl⟩
  refine ⟨_, rfl, ?_, below_grow _ _ _⟩
  have hn : ¬ n < 0 := by omega
  simp only [numsOf, Lib.itoa, hn, if_false]
  exact decDigits_nums n.toNat

theorem repeatL_nums (c : Nat) : (Lib.repeatL [48] c).map (fun b : UInt8 => (b.toNat : Int)) = List.replicate c 48 := by
  induction c with
  | zero => rfl
  | succ c ih =>
    rw [Lib.repeatL, List.map_append, ih, List.replicate_succ]
    rfl
theorem repeat0_any (c : Nat) (w : World) (h : c ≤ 1000) :
    Calls Tryd.prog 46 #[.string ⟨#[48]⟩, .int .i64 c] w fun e w' => StrRes w (List.replicate c 48) e w' := by
  refine (Tryd.strings_Repeat ⟨#[48]⟩ c w (by omega) (by show 1 * c ≤ _; omega)).mono ?_
  rintro e w' ⟨rfl, hb⟩
  exact ⟨_, rfl, by simp only [numsOf]; exact repeatL_nums c, hb⟩

theorem size_pos (n : Int) (w : World) (h : 0 ≤ n) : Calls Tryd.prog 45 #[.int .i64 n] w fun e w' => e = .returned (.int .i64 n) ∧ w' = w := by
  go_enter Tryd.func45, Tryd.ntmps45
  go_wp2
  go_ret
  exact ⟨rfl, rfl⟩
theorem size_neg (n : Int) (w : World) (h : 0 < n) (h1 : n ≤ 9223372036854775807) : Calls Tryd.prog 45 #[.int .i64 (-n)] w fun e w' => e = .returned (.int .i64 n) ∧ w' = w := by
  go_enter Tryd.func45, Tryd.ntmps45
  go_wp2
  go_ret
  exact ⟨rfl, rfl⟩

/-- A box of two. -/
def At2 (w : World) (b : Nat) (v0 v1 : Value) : Prop := b < w.heap.size ∧ w.cell? ⟨b, 0, none⟩ = some v0 ∧ w.cell? ⟨b, 1, none⟩ = some v1
theorem At2.below {w w' : World} {b : Nat} {v0 v1 : Value} (h : At2 w b v0 v1) (hb : Below w.heap.size w w') : At2 w' b v0 v1 := by
  obtain ⟨hl, h0, h1⟩ := h
  exact ⟨Nat.lt_of_lt_of_le hl hb.size, (hb.cell (p := ⟨b, 0, none⟩) hl).trans h0, (hb.cell (p := ⟨b, 1, none⟩) hl).trans h1⟩
theorem At2.new (w : World) (v0 v1 : Value) (t : TypeId) : At2 (w.alloc (.cells #[v0, v1] t)) w.heap.size v0 v1 := by
  refine ⟨by simp, by simp [go_sem], by simp [go_sem]⟩

theorem p10_nat (s : Nat) : p10 s = ((10 ^ s : Nat) : Int) := by
  induction s with
  | zero => rfl
  | succ s ih =>
    rw [Nat.pow_succ]
    simp only [p10, ih]
    omega
theorem numsOf_nil : numsOf ⟨#[]⟩ = [] := rfl

set_option maxHeartbeats 1000000 in
theorem text_pos (n : Int) (s : Nat) (w : World) (hs : s ≤ 6) (hn : 0 ≤ n) (hn' : n ≤ 1000000000000000) (ht : Tab w) :
    Calls Tryd.prog 28 #[.agg #[.int .i64 n, .int .i64 s]] w fun e w' => StrRes w (numL n s) e w' := by
  have P := fun w => tenTo_any s w hs
  have hp := p10_pos s
  have hp6 := p10_le hs
  have d0 : 0 ≤ n / p10 s := Int.ediv_nonneg hn (by omega)
  have d1 : n / p10 s ≤ n := Int.ediv_le_self _ hn
  have m0 : 0 ≤ n % p10 s := Int.emod_nonneg _ (by omega)
  have m1 : n % p10 s < p10 s := Int.emod_lt_of_pos _ (by omega)
  have I1 := fun w ht => itoa_any (n / p10 s) w d0 (by omega) ht
  have I2 := fun w ht => itoa_any (n % p10 s) w m0 (by omega) ht
  have hL1 := digitsL_len 16 (n / p10 s).toNat (by omega)
  have hL2 : s ≠ 0 → (digitsL (n % p10 s).toNat).length ≤ s := fun h0 => by
    have := digitsL_len (s - 1) (n % p10 s).toNat (by have := p10_nat s; rw [show s - 1 + 1 = s by omega]; omega)
    omega
  have HA := At2.new w (.int .i64 n) (.int .i64 s) 51
  have HT : Hid (Tab (w.alloc (.cells #[.int .i64 n, .int .i64 s] 51))) := ht.below (bl_a _)
  have SZ := fun w => size_pos n w hn
  unfold numL
  generalize digitsL (n / p10 s).toNat = d at *
  generalize digitsL (n % p10 s).toNat = f at *
  go_enter Tryd.func28, Tryd.ntmps28
  go_wp2_with fail
  refine (P _).mono ?_
  rintro e w1 ⟨rfl, rfl⟩
  go_wp2_with fail
  refine (SZ _).mono ?_
  rintro e w1 ⟨rfl, rfl⟩
  go_wp2_with fail
  refine (I1 _ HT.out).mono ?_
  rintro e w2 ⟨s1, rfl, hs1, hb1⟩
  obtain ⟨ha0, ha1, ha2⟩ := HA.below hb1
  have HB2 : Hid (Below w.heap.size w w2) := bl_trans (bl_a _) hb1
  have HT2 : Hid (Tab w2) := HT.out.below hb1
  have HS1 : Hid (numsOf s1 = d) := hs1
  have hz1 : s1.size ≤ 17 := by rw [← numsOf_len, hs1]; omega
  clear hb1 hs1 HT HA I1 P
  by_cases hs0 : s = 0
  · go_wp2_with fail
    go_ret
    refine ⟨_, rfl, ?_, HB2.out⟩
    simp [HS1.out, numsOf_append, numsOf_nil]
  · go_wp2_with fail
    refine (SZ _).mono ?_
    rintro e w3 ⟨rfl, rfl⟩
    go_wp2_with fail
    refine (I2 _ HT2.out).mono ?_
    rintro e w4 ⟨s2, rfl, hs2, hb4⟩
    have ha4 := (hb4.cell (p := ⟨w.heap.size, 1, none⟩) ha0).trans ha2
    have HB4 : Hid (Below w.heap.size w w4) := bl_trans HB2.out hb4
    have hz : s2.size = f.length := by rw [← numsOf_len, hs2]
    have HS2 : Hid (numsOf s2 = f) := hs2
    clear hb4 hs2 I2 HT2 SZ
    have hf := hL2 hs0
    have R : ∀ c : Int, c = ((s - f.length : Nat) : Int) → ∀ w, Calls Tryd.prog 46 #[.string ⟨#[48]⟩, .int .i64 c] w fun e w' => StrRes w (List.replicate (s - f.length) 48) e w' := fun c hc w => by
      rw [hc]
      exact repeat0_any (s - f.length) w (by omega)
    go_wp2_with fail
    refine (R _ (by omega) _).mono ?_
    rintro e w5 ⟨s3, rfl, hs3, hb5⟩
    have hz3 : s3.size ≤ 6 := by rw [← numsOf_len, hs3]; simp; omega
    have HB5 : Hid (Below w.heap.size w w5) := bl_trans HB4.out hb5
    have HS3 : Hid (numsOf s3 = List.replicate (s - f.length) 48) := hs3
    clear hb5 hs3 R
    go_wp2_with fail
    go_ret
    refine ⟨_, rfl, ?_, HB5.out⟩
    simp only [numsOf_append, numsOf_nil, HS1.out, HS2.out, HS3.out]
    simp [numsOf]
set_option maxHeartbeats 1000000 in
theorem text_neg (n : Int) (s : Nat) (w : World) (hs : s ≤ 6) (hn1 : 0 < n) (hn' : n ≤ 1000000000000000) (ht : Tab w) :
    Calls Tryd.prog 28 #[.agg #[.int .i64 (-n), .int .i64 s]] w fun e w' => StrRes w (45 :: numL n s) e w' := by
  have hn : 0 ≤ n := by omega
  have P := fun w => tenTo_any s w hs
  have hp := p10_pos s
  have hp6 := p10_le hs
  have d0 : 0 ≤ n / p10 s := Int.ediv_nonneg hn (by omega)
  have d1 : n / p10 s ≤ n := Int.ediv_le_self _ hn
  have m0 : 0 ≤ n % p10 s := Int.emod_nonneg _ (by omega)
  have m1 : n % p10 s < p10 s := Int.emod_lt_of_pos _ (by omega)
  have I1 := fun w ht => itoa_any (n / p10 s) w d0 (by omega) ht
  have I2 := fun w ht => itoa_any (n % p10 s) w m0 (by omega) ht
  have hL1 := digitsL_len 16 (n / p10 s).toNat (by omega)
  have hL2 : s ≠ 0 → (digitsL (n % p10 s).toNat).length ≤ s := fun h0 => by
    have := digitsL_len (s - 1) (n % p10 s).toNat (by have := p10_nat s; rw [show s - 1 + 1 = s by omega]; omega)
    omega
  have HA := At2.new w (.int .i64 (-n)) (.int .i64 s) 51
  have HT : Hid (Tab (w.alloc (.cells #[.int .i64 (-n), .int .i64 s] 51))) := ht.below (bl_a _)
  have SZ := fun w => size_neg n w hn1 (by omega)
  unfold numL
  generalize digitsL (n / p10 s).toNat = d at *
  generalize digitsL (n % p10 s).toNat = f at *
  go_enter Tryd.func28, Tryd.ntmps28
  go_wp2_with fail
  refine (P _).mono ?_
  rintro e w1 ⟨rfl, rfl⟩
  go_wp2_with fail
  refine (SZ _).mono ?_
  rintro e w1 ⟨rfl, rfl⟩
  go_wp2_with fail
  refine (I1 _ HT.out).mono ?_
  rintro e w2 ⟨s1, rfl, hs1, hb1⟩
  obtain ⟨ha0, ha1, ha2⟩ := HA.below hb1
  have HB2 : Hid (Below w.heap.size w w2) := bl_trans (bl_a _) hb1
  have HT2 : Hid (Tab w2) := HT.out.below hb1
  have HS1 : Hid (numsOf s1 = d) := hs1
  have hz1 : s1.size ≤ 17 := by rw [← numsOf_len, hs1]; omega
  clear hb1 hs1 HT HA I1 P
  by_cases hs0 : s = 0
  · go_wp2_with fail
    go_ret
    refine ⟨_, rfl, ?_, HB2.out⟩
    simp [HS1.out, numsOf_append]
    rfl
  · go_wp2_with fail
    refine (SZ _).mono ?_
    rintro e w3 ⟨rfl, rfl⟩
    go_wp2_with fail
    refine (I2 _ HT2.out).mono ?_
    rintro e w4 ⟨s2, rfl, hs2, hb4⟩
    have ha4 := (hb4.cell (p := ⟨w.heap.size, 1, none⟩) ha0).trans ha2
    have HB4 : Hid (Below w.heap.size w w4) := bl_trans HB2.out hb4
    have hz : s2.size = f.length := by rw [← numsOf_len, hs2]
    have HS2 : Hid (numsOf s2 = f) := hs2
    clear hb4 hs2 I2 HT2 SZ
    have hf := hL2 hs0
    have R : ∀ c : Int, c = ((s - f.length : Nat) : Int) → ∀ w, Calls Tryd.prog 46 #[.string ⟨#[48]⟩, .int .i64 c] w fun e w' => StrRes w (List.replicate (s - f.length) 48) e w' := fun c hc w => by
      rw [hc]
      exact repeat0_any (s - f.length) w (by omega)
    go_wp2_with fail
    refine (R _ (by omega) _).mono ?_
    rintro e w5 ⟨s3, rfl, hs3, hb5⟩
    have hz3 : s3.size ≤ 6 := by rw [← numsOf_len, hs3]; simp; omega
    have HB5 : Hid (Below w.heap.size w w5) := bl_trans HB4.out hb5
    have HS3 : Hid (numsOf s3 = List.replicate (s - f.length) 48) := hs3
    clear hb5 hs3 R
    go_wp2_with fail
    go_ret
    refine ⟨_, rfl, ?_, HB5.out⟩
    simp only [numsOf_append, HS1.out, HS2.out, HS3.out]
    simp [numsOf]
end Go.Proofs.YtmpiadlmkeimdaaDoor
