/- Texts put together: RdE RdF RdG -/
import Derived.Test.YtiodiooaaojbhaaGreatDoorNk17
import Derived.Test.YtiodiooaaojbhaaGreatDoorNk16
/- RdE -/
namespace Go.Proofs.YtiodiooaaojbhaaGreatDoor
open Go.RowKit Go.Deep
set_option maxRecDepth 100000

theorem atoi_bounds {l : List UInt8} {v : Int} (h : Lib.atoiAll l = .ok v) : -9223372036854775808 ≤ v ∧ v ≤ 9223372036854775807 := by
  cases l with
  | nil => simp [Lib.atoiAll] at h
  | cons c r =>
    simp only [Lib.atoiAll] at h
    split at h
    · cases h
    · cases h
    · rename_i u hu
      split at h
      · cases h
      · split at h
        · cases h
        · rename_i h1 h2
          simp only [Lib.NumEnd.ok.injEq] at h
          by_cases hn : c.toNat = 45
          · rw [if_pos hn] at h
            have : u ≤ 9223372036854775808 := by
              apply Nat.le_of_not_lt
              intro hx
              exact h2 ⟨hn, hx⟩
            omega
          · rw [if_neg hn] at h
            have : u < 9223372036854775808 := by
              apply Nat.lt_of_not_le
              intro hx
              exact h1 ⟨hn, hx⟩
            omega
theorem frac_digits (m : Int) (k : Nat) : ∀ x ∈ List.replicate (k - (digitsL (m % p10 k).toNat).length) (48 : Int) ++ digitsL (m % p10 k).toNat, 48 ≤ x ∧ x ≤ 57 := by
  intro x hx
  rcases List.mem_append.1 hx with hx | hx
  · rw [(List.mem_replicate.1 hx).2]; omega
  · exact digitsL_mem _ x hx
/-- The digits of a number, without its point. -/
theorem num_parts (m : Int) (k : Nat) (h0 : 0 ≤ m) : ((cutDot (numL m k)).1 ++ (cutDot (numL m k)).2) ≠ [] ∧ (∀ x ∈ (cutDot (numL m k)).1 ++ (cutDot (numL m k)).2, 48 ≤ x ∧ x ≤ 57) ∧ (valL ((cutDot (numL m k)).1 ++ (cutDot (numL m k)).2) : Int) = m ∧ (cutDot (numL m k)).2.length = k := by
  have hc := candB_num m k h0
  unfold candB at hc
  simp only [Prod.mk.injEq] at hc
  refine ⟨?_, ?_, hc.1, by have := hc.2; omega⟩
  · rw [numL_cut]
    have := digitsL_pos (m / p10 k).toNat
    intro e
    have h2 := congrArg List.length e
    rw [List.length_append, List.length_nil] at h2
    simp only at h2
    omega
  · rw [numL_cut]
    intro x hx
    rcases List.mem_append.1 hx with hx | hx
    · exact digitsL_mem _ x hx
    · split at hx
      · cases hx
      · exact frac_digits m k x hx
theorem num_read {raw : List Int} {n s : Int} (h : numOf raw = some (n, s)) {a b : ByteArray} (ha : numsOf a = (cutDot raw).1) (hb : numsOf b = (cutDot raw).2) : Lib.atoiAll (a ++ b).data.toList = .ok n ∧ (b.size : Int) = s := by
  obtain ⟨hok, hsh⟩ := numOf_some.1 h
  obtain ⟨b1, b2, b3, b4⟩ := numOk_bounds hok
  have eU : numsU (a ++ b).data.toList = (cutDot raw).1 ++ (cutDot raw).2 := by rw [← numsOf_u, numsOf_append, ha, hb]
  have eL : b.size = (cutDot raw).2.length := by rw [← hb, numsOf_len]
  by_cases hn : n < 0
  · have e : raw = 45 :: numL (-n) s.toNat := by rw [← hsh]; simp [showL, hn]
    have e1 : cutDot raw = (45 :: (cutDot (numL (-n) s.toNat)).1, (cutDot (numL (-n) s.toNat)).2) := by rw [e]; simp [cutDot]
    obtain ⟨p1, p2, p3, p4⟩ := num_parts (-n) s.toNat (by omega)
    rw [e1] at eU eL
    have hA := atoi_minus (l := (a ++ b).data.toList) (D := (cutDot (numL (-n) s.toNat)).1 ++ (cutDot (numL (-n) s.toNat)).2) (by rw [eU]; rfl) p1 p2 (by omega)
    refine ⟨by rw [hA, p3]; simp, ?_⟩
    simp only at eL
    rw [eL, p4]
    omega
  · have e : raw = numL n s.toNat := by rw [← hsh]; simp [showL, hn]
    obtain ⟨p1, p2, p3, p4⟩ := num_parts n s.toNat (by omega)
    rw [e] at eU eL
    have hA := atoi_digits (l := (a ++ b).data.toList) eU p1 p2 (by omega)
    refine ⟨by rw [hA, p3], ?_⟩
    rw [eL, p4]
    omega

theorem cutDot_len : ∀ l : List Int, (cutDot l).1.length + (cutDot l).2.length ≤ l.length
  | [] => by simp [cutDot]
  | b :: r => by
    have := cutDot_len r
    unfold cutDot
    split <;> simp <;> omega
/-- A box of four that may be written. -/
def Bx4 (w : World) (b : Nat) (v0 v1 v2 v3 : Value) : Prop := At4 w b v0 v1 v2 v3 ∧ w.frozen? ⟨b, 0, none⟩ = false ∧ w.frozen? ⟨b, 1, none⟩ = false ∧ w.frozen? ⟨b, 2, none⟩ = false ∧ w.frozen? ⟨b, 3, none⟩ = false
theorem Bx4.new (w : World) (v0 v1 v2 v3 : Value) (t : TypeId) : Bx4 (w.alloc (.cells #[v0, v1, v2, v3] t)) w.heap.size v0 v1 v2 v3 := by
  refine ⟨At4.new _ _ _ _ _ _, ?_, ?_, ?_, ?_⟩ <;> simp [go_sem]
theorem Bx4.below {w w' : World} {b : Nat} {v0 v1 v2 v3 : Value} (h : Bx4 w b v0 v1 v2 v3) (hb : Below w.heap.size w w') : Bx4 w' b v0 v1 v2 v3 := by
  obtain ⟨h0, f0, f1, f2, f3⟩ := h
  have hl := h0.1
  exact ⟨h0.below hb, (hb.frozen (p := ⟨b, 0, none⟩) hl).trans f0, (hb.frozen (p := ⟨b, 1, none⟩) hl).trans f1, (hb.frozen (p := ⟨b, 2, none⟩) hl).trans f2, (hb.frozen (p := ⟨b, 3, none⟩) hl).trans f3⟩
/-- What numberIn answers: a number, or nothing; the one that is written so, if there is one. -/
def NumRes (raw : List Int) (w : World) (e : Ending) (w' : World) : Prop :=
  ∃ k n s : Int, e = .returned (.agg #[.int .i64 k, .slice none 0 0, .int .i64 n, .int .i64 s]) ∧ (k = 3 ∨ k = 0) ∧ -9223372036854775808 ≤ n ∧ n ≤ 9223372036854775807 ∧ 0 ≤ s ∧ s ≤ 1048576 ∧ (∀ n' s', numOf raw = some (n', s') → k = 3 ∧ n = n' ∧ s = s') ∧ Below w.heap.size w w'
theorem numberIn_any (t : ByteArray) (w : World) (hs : t.size ≤ 1048576) (hE : Errs w) :
    Calls Tryz.prog 70 #[.string t] w (NumRes (numsOf t) w) := by
  have HE : Hid (Errs w) := hE
  clear hE
  go_enter Tryz.func70, Tryz.ntmps70
  go_wp2_with fail
  refine (cut_any t _ hs).mono ?_
  rintro e w1 ⟨a, b, q, rfl, h1, h2, h3⟩
  have HB0 := (Bx4.new w (.int .i64 0) (.slice none 0 0) (.int .i64 0) (.int .i64 0) 43).below h3
  have HE1 : Hid (Errs w1) := (HE.out.below (bl_a _)).below h3
  have H1 : Hid (numsOf a = (cutDot (numsOf t)).1) := h1
  have H2 : Hid (numsOf b = (cutDot (numsOf t)).2) := h2
  have HW : Hid (Below w.heap.size w w1) := bl_trans (bl_a _) h3
  have hsz : a.size + b.size ≤ t.size := by
    have e1 := congrArg List.length h1
    have e2 := congrArg List.length h2
    rw [numsOf_len] at e1 e2
    have := cutDot_len (numsOf t)
    rw [numsOf_len] at this
    omega
  clear h1 h2 h3 HE
  go_wp2_with fail
  refine (atoi_any (a ++ b) _ (by rw [ByteArray.size_append]; omega) HE1.out).mono ?_
  rintro e w2 (⟨v, hv, rfl, hb⟩ | ⟨v, ty, p, hv, rfl, hb⟩)
  · have HV : Hid (Lib.atoiAll (a ++ b).data.toList = .ok v) := hv
    obtain ⟨⟨a0, a1, a2, a3, a4⟩, f0, f1, f2, f3⟩ := HB0.below hb
    have HW2 : Hid (Below w.heap.size w w2) := bl_trans HW.out hb
    clear hv hb HE1 HB0 HW
    go_wp2_with fail
    refine bodyPost_ret (v := .agg #[.int .i64 3, .slice none 0 0, .int .i64 v, .int .i64 b.size]) (by simp [results, Tryz.results70, go_sem, *]) rfl ?_
    have hvb := atoi_bounds HV.out
    refine ⟨3, v, b.size, rfl, .inl rfl, hvb.1, hvb.2, by omega, by omega, fun n' s' hn => ?_, ?_⟩
    · have hr := num_read hn H1.out H2.out
      rw [HV.out] at hr
      simp only [Lib.NumEnd.ok.injEq] at hr
      exact ⟨rfl, hr.1, hr.2⟩
    · exact bl_set (bl_set (bl_set (bl_set HW2.out (Nat.le_refl _) _) (Nat.le_refl _) _) (Nat.le_refl _) _) (Nat.le_refl _) _
  · have HV : Hid (∀ u, Lib.atoiAll (a ++ b).data.toList ≠ .ok u) := hv
    obtain ⟨⟨a0, a1, a2, a3, a4⟩, f0, f1, f2, f3⟩ := HB0.below hb
    have HW2 : Hid (Below w.heap.size w w2) := bl_trans HW.out hb
    clear hv hb HE1 HB0 HW
    go_wp2_with fail
    refine bodyPost_ret (v := .agg #[.int .i64 0, .slice none 0 0, .int .i64 0, .int .i64 0]) (by simp [results, Tryz.results70, go_sem, *]) rfl ?_
    refine ⟨0, 0, 0, rfl, .inr rfl, by omega, by omega, by omega, by omega, fun n' s' hn => ?_, ?_⟩
    · exact absurd (num_read hn H1.out H2.out).1 (HV.out n')
    · exact bl_set (bl_set (bl_set (bl_set HW2.out (Nat.le_refl _) _) (Nat.le_refl _) _) (Nat.le_refl _) _) (Nat.le_refl _) _
/-- What blankIn answers. -/
def BlankRes (p : List Int) (w : World) (e : Ending) (w' : World) : Prop :=
  ∃ k n : Int, e = .returned (.agg #[.int .i64 k, .slice none 0 0, .int .i64 n, .int .i64 0]) ∧ (k = 1 ∨ k = 0) ∧ -9223372036854775808 ≤ n ∧ n ≤ 9223372036854775807 ∧ (∀ n' : Nat, blankOf p = some n' → k = 1 ∧ n = n') ∧ Below w.heap.size w w'
theorem blankIn_any (t : ByteArray) (w : World) (h2 : 2 ≤ t.size) (hs : t.size ≤ 1048576) (hE : Errs w) :
    Calls Tryz.prog 75 #[.string t] w (BlankRes ((numsOf t).drop 2) w) := by
  have HE1 : Hid (Errs (w.alloc (.cells #[.int .i64 0, .slice none 0 0, .int .i64 0, .int .i64 0] 43))) := hE.below (bl_a _)
  have HB0 := Bx4.new w (.int .i64 0) (.slice none 0 0) (.int .i64 0) (.int .i64 0) 43
  have HS : Hid (numsOf (t.extract 2 t.size) = (numsOf t).drop 2) := by
    show _ = _
    rw [nums_extract, List.take_of_length_le]
    rw [List.length_drop, numsOf_len]
    omega
  have hz : (t.extract 2 t.size).size ≤ 1048576 := by
    have := congrArg List.length HS.out
    rw [numsOf_len, List.length_drop, numsOf_len] at this
    omega
  clear hE
  generalize hx : t.extract 2 t.size = x at *
  go_enter Tryz.func75, Tryz.ntmps75
  go_wp2_with fail
  refine (atoi_any x _ hz HE1.out).mono ?_
  rintro e w2 (⟨v, hv, rfl, hb⟩ | ⟨v, ty, p, hv, rfl, hb⟩)
  · have HV : Hid (Lib.atoiAll x.data.toList = .ok v) := hv
    obtain ⟨⟨a0, a1, a2, a3, a4⟩, f0, f1, f2, f3⟩ := HB0.below hb
    have HW2 : Hid (Below w.heap.size w w2) := bl_trans (bl_a _) hb
    clear hv hb HE1 HB0
    go_wp2_with fail
    refine bodyPost_ret (v := .agg #[.int .i64 1, .slice none 0 0, .int .i64 v, .int .i64 0]) (by simp [results, Tryz.results75, go_sem, *]) rfl ?_
    have hvb := atoi_bounds HV.out
    refine ⟨1, v, rfl, .inl rfl, hvb.1, hvb.2, fun n' hn => ?_, ?_⟩
    · obtain ⟨h9, hd⟩ := blankOf_some.1 hn
      have hp := digitsL_pos n'
      have := atoi_digits (l := x.data.toList) (D := digitsL n') (by rw [← numsOf_u, HS.out, hd]) (by intro e; rw [e] at hp; simp at hp) (digitsL_mem n') (by rw [valL_digits]; omega)
      rw [HV.out, valL_digits] at this
      simp only [Lib.NumEnd.ok.injEq] at this
      exact ⟨rfl, this⟩
    · exact bl_set (bl_set (bl_set (bl_set HW2.out (Nat.le_refl _) _) (Nat.le_refl _) _) (Nat.le_refl _) _) (Nat.le_refl _) _
  · have HV : Hid (∀ u, Lib.atoiAll x.data.toList ≠ .ok u) := hv
    obtain ⟨⟨a0, a1, a2, a3, a4⟩, f0, f1, f2, f3⟩ := HB0.below hb
    have HW2 : Hid (Below w.heap.size w w2) := bl_trans (bl_a _) hb
    clear hv hb HE1 HB0
    go_wp2_with fail
    refine bodyPost_ret (v := .agg #[.int .i64 0, .slice none 0 0, .int .i64 0, .int .i64 0]) (by simp [results, Tryz.results75, go_sem, *]) rfl ?_
    refine ⟨0, 0, rfl, .inr rfl, by omega, by omega, fun n' hn => ?_, ?_⟩
    · obtain ⟨h9, hd⟩ := blankOf_some.1 hn
      have hp := digitsL_pos n'
      have := atoi_digits (l := x.data.toList) (D := digitsL n') (by rw [← numsOf_u, HS.out, hd]) (by intro e; rw [e] at hp; simp at hp) (digitsL_mem n') (by rw [valL_digits]; omega)
      exact absurd this (HV.out _)
    · exact bl_set (bl_set (bl_set (bl_set HW2.out (Nat.le_refl _) _) (Nat.le_refl _) _) (Nat.le_refl _) _) (Nat.le_refl _) _

theorem hasPrefix_one (t : ByteArray) (c : UInt8) : Lib.hasPrefix t.data.toList [c] = ((numsOf t)[0]? == some (c.toNat : Int)) := by
  rw [numsOf_u]
  unfold numsU Lib.hasPrefix
  cases t.data.toList with
  | nil => rfl
  | cons b l =>
    rw [Bool.eq_iff_iff]
    simp
    constructor
    · rintro rfl; rfl
    · intro h
      exact (UInt8.toNat_inj.1 (by omega)).symm
/-- beginsName of the program. -/
theorem beginsName_any (t : ByteArray) (w : World) (h1 : 1 ≤ t.size) (hs : t.size ≤ 1048576) :
    Calls Tryz.prog 71 #[.string t] w fun e w' => e = .returned (.bool (nameOk (((numsOf t).drop 1).take (pieceLen ((numsOf t).drop 1))) && ((((numsOf t).drop 1).drop (pieceLen ((numsOf t).drop 1)))[0]? == some 62))) ∧ Below w.heap.size w w' := by
  have hL := pieceLen_le ((numsOf t).drop 1)
  rw [List.length_drop, numsOf_len] at hL
  have W := fun w => withPiece_any t 1 w h1 hs
  have hcv := fun (w : World) (s : ByteArray) => Lib.run_convert_string_bytes (P := Tryz.prog) w 9 22 5 s Tryz.underlying9 Tryz.underlying22 Tryz.underlying5
  generalize hP : pieceLen ((numsOf t).drop 1) = P at *
  have e1 : (t.extract 0 (1 + P)).size = 1 + P := by rw [← numsOf_len, nums_extract, List.drop_zero, List.length_take, numsOf_len]; omega
  have e2 : numsOf ((t.extract 0 (1 + P)).extract 1 (1 + P)) = ((numsOf t).drop 1).take P := by
    rw [nums_extract, nums_extract, List.drop_zero, List.drop_take, List.take_take]
    congr 1
    omega
  have e3 : ((t.extract 0 (1 + P)).extract 1 (1 + P)).size = P := by
    rw [← numsOf_len, e2, List.length_take, List.length_drop, numsOf_len]
    omega
  have e4 : numsOf (t.extract (1 + P) t.size) = ((numsOf t).drop 1).drop P := by
    rw [nums_extract, List.drop_drop, List.take_of_length_le]
    rw [List.length_drop, numsOf_len]
    omega
  have HP := fun w => Tryz.strings_HasPrefix (t.extract (1 + P) t.size) ⟨#[62]⟩ w
  have e5 : Lib.hasPrefix (t.extract (1 + P) t.size).data.toList [62] = ((((numsOf t).drop 1).drop P)[0]? == some 62) := by
    rw [hasPrefix_one, e4]
    rfl
  have HP' : ∀ w, Calls Tryz.prog 74 #[.string (t.extract (1 + P) t.size), .string ⟨#[62]⟩] w fun e w' => e = .returned (.bool ((((numsOf t).drop 1).drop P)[0]? == some 62)) ∧ w' = w := fun w => by
    have := HP w
    rw [show (⟨#[62]⟩ : ByteArray).data.toList = [62] from rfl, e5] at this
    exact this
  have N := fun w : World => isName_any (some ⟨w.heap.size, 0, none⟩) P (grownCap w P 0 5) (((numsOf t).drop 1).take P) (Lib.bytesWorld w 5 ((t.extract 0 (1 + P)).extract 1 (1 + P))) (by
    have := (Tx.conv w ((t.extract 0 (1 + P)).extract 1 (1 + P)) 5 (by rw [e3]; omega)).1
    rw [e2, e3] at this
    exact this)
  generalize nameOk (((numsOf t).drop 1).take P) = q at *
  generalize ((((numsOf t).drop 1).drop P)[0]? == some 62) = q2 at *
  generalize hR : t.extract 0 (1 + P) = R at *
  generalize hS : R.extract 1 (1 + P) = S at *
  clear e2 e4 e5 HP
  have hb1 : ¬ (1 : Int) + P < 1 := by omega
  have hb2 : (1 : Int) + P ≤ t.size := by omega
  cases q
  · go_enter Tryz.func71, Tryz.ntmps71
    go_wp2_with fail
    refine (W _).mono ?_
    rintro e w1 ⟨rfl, rfl⟩
    go_wp2_with fail
    refine (N _).mono ?_
    rintro e w2 ⟨rfl, rfl⟩
    go_wp2_with fail
    go_ret
    exact ⟨rfl, bytesWorld_below _ _ _⟩
  · go_enter Tryz.func71, Tryz.ntmps71
    go_wp2_with fail
    refine (W _).mono ?_
    rintro e w1 ⟨rfl, rfl⟩
    go_wp2_with fail
    refine (N _).mono ?_
    rintro e w2 ⟨rfl, rfl⟩
    go_wp2_with fail
    refine (HP' _).mono ?_
    rintro e w3 ⟨rfl, rfl⟩
    go_wp2_with fail
    go_ret
    exact ⟨by simp, bytesWorld_below _ _ _⟩
end Go.Proofs.YtiodiooaaojbhaaGreatDoor

/- RdF -/
namespace Go.Proofs.YtiodiooaaojbhaaGreatDoor
open Go.RowKit Go.Deep
set_option maxRecDepth 100000

theorem strB_ne {a b : List Int} (ha : Byt a) (hb : Byt b) (h : a ≠ b) : strOfNums a ≠ strOfNums b := fun e => h (by rw [← numsOf_nums ha, ← numsOf_nums hb, e])
theorem strB_ne2 {a b : List Int} (ha : Byt a) (hb : Byt b) (h : a ≠ b) : (strOfNums a).toList ≠ (strOfNums b).toList := fun e => h (by
  rw [Lib.strOfNums_toList, Lib.strOfNums_toList] at e
  rw [← numsOf_nums ha, ← numsOf_nums hb]
  show (a.map fun n => UInt8.ofNat n.toNat).map _ = (b.map fun n => UInt8.ofNat n.toNat).map _
  exact congrArg _ e)
theorem bytesEq_any (a b : Option Addr) (la lb ca cb : Nat) (xs ys : List Int) (w : World) (hA : Bs w a la xs) (hB : Bs w b lb ys) :
    Calls Tryz.prog 101 #[.slice a la ca, .slice b lb cb] w fun e w' => e = .returned (.bool (decide (xs = ys))) ∧ w' = w := by
  have c1 : (convert 22 9 (.slice a la ca)).run Tryz.prog w = .ok (.string (strOfNums xs)) w := hA.str
  have c2 : (convert 22 9 (.slice b lb cb)).run Tryz.prog w = .ok (.string (strOfNums ys)) w := hB.str
  by_cases h : xs = ys
  · rw [h] at c1
    have e : decide (xs = ys) = true := decide_eq_true h
    rw [e]
    clear h hA hB e
    go_enter Tryz.func101, Tryz.ntmps101
    go_wp2_with fail
    go_ret
    exact ⟨rfl, rfl⟩
  · have hs := strB_ne hA.byt hB.byt h
    have hs0 := strB_ne2 hA.byt hB.byt h
    have hs1 : ((strOfNums xs).toList == (strOfNums ys).toList) = false := beq_false_of_ne hs0
    have hs2 : decide (strOfNums xs = strOfNums ys) = false := decide_eq_false hs
    have e : decide (xs = ys) = false := decide_eq_false h
    rw [e]
    clear h hA hB e
    go_enter Tryz.func101, Tryz.ntmps101
    go_wp2_with fail
    go_ret
    exact ⟨rfl, rfl⟩

/-- What a reader gives up with. -/
def refused (c p : Int) : Ending := .panicked [{ v := .iface 36 (.agg #[.int .i64 c, .int .i64 p]), recovered := false }]
/-- A token as the program has it. -/
def tokV (k : Int) (p : Int) (raw : ByteArray) (tk tn ts : Int) (a : Option Addr) (len cap : Nat) : Value := .agg #[.int .i64 k, .int .i64 p, .string raw, .int .i64 tk, .slice a len cap, .int .i64 tn, .int .i64 ts]

/-- A box of seven that may be written. -/
def At7 (w : World) (b : Nat) (v0 v1 v2 v3 v4 v5 v6 : Value) : Prop :=
  b < w.heap.size ∧ w.cell? ⟨b, 0, none⟩ = some v0 ∧ w.cell? ⟨b, 1, none⟩ = some v1 ∧ w.cell? ⟨b, 2, none⟩ = some v2 ∧ w.cell? ⟨b, 3, none⟩ = some v3 ∧ w.cell? ⟨b, 4, none⟩ = some v4 ∧ w.cell? ⟨b, 5, none⟩ = some v5 ∧ w.cell? ⟨b, 6, none⟩ = some v6
theorem At7.below {w w' : World} {b : Nat} {v0 v1 v2 v3 v4 v5 v6 : Value} (h : At7 w b v0 v1 v2 v3 v4 v5 v6) (hb : Below w.heap.size w w') : At7 w' b v0 v1 v2 v3 v4 v5 v6 := by
  obtain ⟨hl, h0, h1, h2, h3, h4, h5, h6⟩ := h
  exact ⟨Nat.lt_of_lt_of_le hl hb.size, (hb.cell (p := ⟨b, 0, none⟩) hl).trans h0, (hb.cell (p := ⟨b, 1, none⟩) hl).trans h1, (hb.cell (p := ⟨b, 2, none⟩) hl).trans h2, (hb.cell (p := ⟨b, 3, none⟩) hl).trans h3, (hb.cell (p := ⟨b, 4, none⟩) hl).trans h4, (hb.cell (p := ⟨b, 5, none⟩) hl).trans h5, (hb.cell (p := ⟨b, 6, none⟩) hl).trans h6⟩
def Bx7 (w : World) (b : Nat) (v0 v1 v2 v3 v4 v5 v6 : Value) : Prop := At7 w b v0 v1 v2 v3 v4 v5 v6 ∧ w.frozen? ⟨b, 0, none⟩ = false ∧ w.frozen? ⟨b, 1, none⟩ = false ∧ w.frozen? ⟨b, 2, none⟩ = false ∧ w.frozen? ⟨b, 3, none⟩ = false ∧ w.frozen? ⟨b, 4, none⟩ = false ∧ w.frozen? ⟨b, 5, none⟩ = false ∧ w.frozen? ⟨b, 6, none⟩ = false
theorem Bx7.new (w : World) (v0 v1 v2 v3 v4 v5 v6 : Value) (t : TypeId) : Bx7 (w.alloc (.cells #[v0, v1, v2, v3, v4, v5, v6] t)) w.heap.size v0 v1 v2 v3 v4 v5 v6 := by
  refine ⟨⟨by simp, ?_, ?_, ?_, ?_, ?_, ?_, ?_⟩, ?_, ?_, ?_, ?_, ?_, ?_, ?_⟩ <;> simp [go_sem]
theorem Bx7.below {w w' : World} {b : Nat} {v0 v1 v2 v3 v4 v5 v6 : Value} (h : Bx7 w b v0 v1 v2 v3 v4 v5 v6) (hb : Below w.heap.size w w') : Bx7 w' b v0 v1 v2 v3 v4 v5 v6 := by
  obtain ⟨h0, f0, f1, f2, f3, f4, f5, f6⟩ := h
  have hl := h0.1
  exact ⟨h0.below hb, (hb.frozen (p := ⟨b, 0, none⟩) hl).trans f0, (hb.frozen (p := ⟨b, 1, none⟩) hl).trans f1, (hb.frozen (p := ⟨b, 2, none⟩) hl).trans f2, (hb.frozen (p := ⟨b, 3, none⟩) hl).trans f3, (hb.frozen (p := ⟨b, 4, none⟩) hl).trans f4, (hb.frozen (p := ⟨b, 5, none⟩) hl).trans f5, (hb.frozen (p := ⟨b, 6, none⟩) hl).trans f6⟩
theorem termToken_no (p : Nat) (raw : ByteArray) (k n s : Int) (a : Option Addr) (len cap : Nat) (tx : List Int) (w : World) (hB : Bs w a len tx) (hr : raw.size ≤ 1048576)
    (h1 : -9223372036854775808 ≤ n) (h2 : n ≤ 9223372036854775807) (h3 : -9223372036854775808 ≤ s) (h4 : s ≤ 9223372036854775807) (ht : Tab w) (h : shownL k n s tx ≠ numsOf raw) :
    Calls Tryz.prog 69 #[.int .i64 p, .string raw, .agg #[.int .i64 k, .slice a len cap, .int .i64 n, .int .i64 s]] w fun e w' => e = refused 2 p ∧ Below w.heap.size w w' := by
  have hcv := fun (w : World) (s : ByteArray) => Lib.run_convert_string_bytes (P := Tryz.prog) w 9 22 5 s Tryz.underlying9 Tryz.underlying22 Tryz.underlying5
  have S := fun w hB ht => implShow_any k n s a len cap tx w hB h1 h2 h3 h4 ht
  have HC : ∀ w : World, Hid (Bs (Lib.bytesWorld w 5 raw) (some ⟨w.heap.size, 0, none⟩) raw.size (numsOf raw)) := fun w => (Tx.conv w raw 5 hr).1
  have HS : ∀ (w w1 : World) (b : Option Addr) (m : Nat), Nw w1 w.heap.size b m (shownL k n s tx) → Hid (Bs w1 b m (shownL k n s tx)) := fun w w1 b m h => h.bs
  unfold refused
  generalize shownL k n s tx = X at *
  generalize hN : numsOf raw = Y at *
  clear hN
  have HB2 : ∀ o1 o2, Hid (Bs ((w.alloc o1).alloc o2) a len tx) := fun o1 o2 => hB.below (bl_alloc (bl_a _) _)
  have HT2 : ∀ o1 o2, Hid (Tab ((w.alloc o1).alloc o2)) := fun o1 o2 => ht.below (bl_alloc (bl_a _) _)
  have hd : decide (X = Y) = false := decide_eq_false h
  clear hB ht h
  go_enter Tryz.func69, Tryz.ntmps69
  go_wp2_with fail
  refine (S _ (HB2 _ _).out (HT2 _ _).out).mono ?_
  rintro e w1 ⟨b, c, rfl, hX, hb⟩
  have HX : Hid (Bs (Lib.bytesWorld w1 5 raw) b X.length X) := (HS _ _ _ _ hX).out.below (bytesWorld_below _ _ _)
  have HW : Hid (Below w.heap.size w (Lib.bytesWorld w1 5 raw)) := bl_trans (bl_trans (bl_alloc (bl_a _) _) hb) (bytesWorld_below _ _ _)
  have HY := ((Bx4.new w (.int .i64 k) (.slice a len cap) (.int .i64 n) (.int .i64 s) 43).below (bl_a (.cells #[.int .i64 0, .int .i64 0, .string ⟨#[]⟩, .int .i64 0, .slice none 0 0, .int .i64 0, .int .i64 0] 65))).below (bl_trans hb (bytesWorld_below w1 5 raw))
  have HZ := (Bx7.new (w.alloc (.cells #[.int .i64 k, .slice a len cap, .int .i64 n, .int .i64 s] 43)) (.int .i64 0) (.int .i64 0) (.string ⟨#[]⟩) (.int .i64 0) (.slice none 0 0) (.int .i64 0) (.int .i64 0) 65).below (bl_trans hb (bytesWorld_below w1 5 raw))
  clear hX hb HB2 HT2 S HS
  go_wp2_with fail
  refine (bytesEq_any _ _ _ _ _ _ X Y _ HX.out (HC w1).out).mono ?_
  rintro e w2 ⟨rfl, rfl⟩
  rw [hd]
  clear HX HC hcv
  clear HY HZ
  go_wp2_with fail
  exact ⟨rfl, rfl, HW.out⟩
theorem termToken_yes (p : Nat) (raw : ByteArray) (k n s : Int) (a : Option Addr) (len cap : Nat) (tx : List Int) (w : World) (hB : Bs w a len tx) (hr : raw.size ≤ 1048576)
    (h1 : -9223372036854775808 ≤ n) (h2 : n ≤ 9223372036854775807) (h3 : -9223372036854775808 ≤ s) (h4 : s ≤ 9223372036854775807) (ht : Tab w) (h : shownL k n s tx = numsOf raw) :
    Calls Tryz.prog 69 #[.int .i64 p, .string raw, .agg #[.int .i64 k, .slice a len cap, .int .i64 n, .int .i64 s]] w fun e w' => e = .returned (tokV 0 p raw k n s a len cap) ∧ Below w.heap.size w w' := by
  have hcv := fun (w : World) (s : ByteArray) => Lib.run_convert_string_bytes (P := Tryz.prog) w 9 22 5 s Tryz.underlying9 Tryz.underlying22 Tryz.underlying5
  have S := fun w hB ht => implShow_any k n s a len cap tx w hB h1 h2 h3 h4 ht
  have HC : ∀ w : World, Hid (Bs (Lib.bytesWorld w 5 raw) (some ⟨w.heap.size, 0, none⟩) raw.size (numsOf raw)) := fun w => (Tx.conv w raw 5 hr).1
  have HS : ∀ (w w1 : World) (b : Option Addr) (m : Nat), Nw w1 w.heap.size b m (shownL k n s tx) → Hid (Bs w1 b m (shownL k n s tx)) := fun w w1 b m h => h.bs
  unfold tokV
  generalize shownL k n s tx = X at *
  generalize hN : numsOf raw = Y at *
  clear hN
  have HB2 : ∀ o1 o2, Hid (Bs ((w.alloc o1).alloc o2) a len tx) := fun o1 o2 => hB.below (bl_alloc (bl_a _) _)
  have HT2 : ∀ o1 o2, Hid (Tab ((w.alloc o1).alloc o2)) := fun o1 o2 => ht.below (bl_alloc (bl_a _) _)
  have hd : decide (X = Y) = true := decide_eq_true h
  clear hB ht h
  go_enter Tryz.func69, Tryz.ntmps69
  go_wp2_with fail
  refine (S _ (HB2 _ _).out (HT2 _ _).out).mono ?_
  rintro e w1 ⟨b, c, rfl, hX, hb⟩
  have HX : Hid (Bs (Lib.bytesWorld w1 5 raw) b X.length X) := (HS _ _ _ _ hX).out.below (bytesWorld_below _ _ _)
  have HW : Hid (Below w.heap.size w (Lib.bytesWorld w1 5 raw)) := bl_trans (bl_trans (bl_alloc (bl_a _) _) hb) (bytesWorld_below _ _ _)
  have HY := ((Bx4.new w (.int .i64 k) (.slice a len cap) (.int .i64 n) (.int .i64 s) 43).below (bl_a (.cells #[.int .i64 0, .int .i64 0, .string ⟨#[]⟩, .int .i64 0, .slice none 0 0, .int .i64 0, .int .i64 0] 65))).below (bl_trans hb (bytesWorld_below w1 5 raw))
  have HZ := (Bx7.new (w.alloc (.cells #[.int .i64 k, .slice a len cap, .int .i64 n, .int .i64 s] 43)) (.int .i64 0) (.int .i64 0) (.string ⟨#[]⟩) (.int .i64 0) (.slice none 0 0) (.int .i64 0) (.int .i64 0) 65).below (bl_trans hb (bytesWorld_below w1 5 raw))
  clear hX hb HB2 HT2 S HS
  go_wp2_with fail
  refine (bytesEq_any _ _ _ _ _ _ X Y _ HX.out (HC w1).out).mono ?_
  rintro e w2 ⟨rfl, rfl⟩
  rw [hd]
  clear HX HC hcv
  obtain ⟨⟨a0, a1, a2, a3, a4⟩, f0, f1, f2, f3⟩ := HY
  obtain ⟨⟨b0, b1, b2, b3, b4, b5, b6, b7⟩, g0, g1, g2, g3, g4, g5, g6⟩ := HZ
  simp only [World.size_alloc] at b0 b1 b2 b3 b4 b5 b6 b7 g0 g1 g2 g3 g4 g5 g6
  go_wp2_with fail
  refine bodyPost_ret (v := .agg #[.int .i64 0, .int .i64 p, .string raw, .int .i64 k, .slice a len cap, .int .i64 n, .int .i64 s]) (by simp [results, Tryz.results69, go_sem, *]) rfl ?_
  refine ⟨rfl, ?_⟩
  exact bl_set (bl_set (bl_set (bl_set (bl_set (bl_set (bl_set HW.out (by simp) _) (by simp) _) (by simp) _) (by simp) _) (by simp) _) (by simp) _) (by simp) _
end Go.Proofs.YtiodiooaaojbhaaGreatDoor

/- RdG -/
namespace Go.Proofs.YtiodiooaaojbhaaGreatDoor
open Go.RowKit Go.Deep
set_option maxRecDepth 100000

/-- The signs, as the program has them. -/
def signS : ByteArray := ⟨#[46, 123, 125, 40, 41, 42, 43, 45, 47, 61, 60, 38, 124]⟩
theorem sign_index : ∀ n : Nat, n < 256 → (decide (0 ≤ Lib.indexByte signS.data.toList n.toUInt8)) = signB (n : Int) := by decide +kernel
theorem isSign_any (b : Int) (w : World) (h0 : 0 ≤ b) (h1 : b ≤ 255) : Calls Tryz.prog 79 #[.string ⟨#[46, 123, 125, 40, 41, 42, 43, 45, 47, 61, 60, 38, 124]⟩, .int .u8 b] w fun e w' => ∃ i : Int, e = .returned (.int .i64 i) ∧ decide (0 ≤ i) = signB b ∧ w' = w := by
  refine (Tryz.strings_IndexByte signS b w).mono ?_
  rintro e w' ⟨rfl, rfl⟩
  refine ⟨_, rfl, ?_, rfl⟩
  have := sign_index b.toNat (by omega)
  rw [Int.toNat_of_nonneg h0] at this
  exact this
theorem hasPrefix_two (t : ByteArray) (c d : UInt8) : Lib.hasPrefix t.data.toList [c, d] = ((numsOf t)[0]? == some (c.toNat : Int) && (numsOf t)[1]? == some (d.toNat : Int)) := by
  have eq : ∀ x y : UInt8, (x == y) = ((y.toNat : Int) == (x.toNat : Int)) := fun x y => by
    rw [Bool.eq_iff_iff, beq_iff_eq, beq_iff_eq]
    constructor
    · rintro rfl; rfl
    · intro h; exact (UInt8.toNat_inj.1 (by omega)).symm
  rw [numsOf_u]
  unfold numsU Lib.hasPrefix
  cases t.data.toList with
  | nil => rfl
  | cons b l =>
    cases l with
    | nil =>
      rw [List.isPrefixOf_cons_cons]
      simp
    | cons b' l =>
      rw [List.isPrefixOf_cons_cons, List.isPrefixOf_cons_cons, eq, eq]
      simp [Option.some_beq_some]
/-- What tokenAt answers at a place. -/
def TokRes (o : Option PT) (p : Nat) (w : World) (e : Ending) (w' : World) : Prop :=
  Below w.heap.size w w' ∧ match o with
  | none => e = refused 2 p
  | some t => ∃ raw a len cap, e = .returned (tokV t.kind p raw t.td.k t.td.n t.td.s a len cap) ∧ numsOf raw = t.raw ∧ Nw w' w.heap.size a len t.td.bs

/-- A sign. -/
theorem tokenAt_sign (s : ByteArray) (p : Nat) (w : World) (R : ByteArray) (b : Int) (hR : s.extract p s.size = R) (hp : p < s.size) (h0 : 0 < R.size) (_hz : R.size ≤ 1048576) (hb : ((R[0].toNat : Nat) : Int) = b) (hb1 : 0 ≤ b) (hb2 : b ≤ 255)
    (d1 : digit b = false) (d2 : (b == 45) = false) (d3 : (b == 60) = false) (d4 : (b == 34) = false) (d5 : (b == 63) = false) (d6 : great b = false) (d7 : Lib.hasPrefix R.data.toList [95, 58] = false) (d8 : signB b = true) :
    Calls Tryz.prog 37 #[.string s, .int .i64 p] w (TokRes (some ⟨3, [b], td0⟩) p w) := by
  have HX : Hid (numsOf (R.extract 0 1) = [b]) := by
    show _ = _
    rw [nums_extract, List.drop_zero, ← List.drop_zero (l := numsOf R), nums_drop R 0 h0, ← hb]
    rfl
  have HP := fun w => Tryz.strings_HasPrefix R ⟨#[95, 58]⟩ w
  rw [show (⟨#[95, 58]⟩ : ByteArray).data.toList = [95, 58] from rfl, d7] at HP
  have IS := fun w => isSign_any b w hb1 hb2
  rw [d8] at IS
  clear d8
  clear d7
  go_enter Tryz.func37, Tryz.ntmps37
  go_wp2_with (first | (go_at_call 66; refine (digit_any _ _).mono ?_; rintro e w1 ⟨rfl, rfl⟩; try rw [hb]; try rw [d1]) | (go_at_call 74; refine (HP _).mono ?_; rintro e w2 ⟨rfl, rfl⟩) | (go_at_call 77; refine (great_any _ _).mono ?_; rintro e w3 ⟨rfl, rfl⟩; try rw [hb]; try rw [d6]) | (go_at_call 79; refine (IS _).mono ?_; rintro e w4 ⟨i, rfl, hi, rfl⟩))
  refine bodyPost_ret (v := .agg #[.int .i64 3, .int .i64 p, .string (R.extract 0 1), .int .i64 0, .slice none 0 0, .int .i64 0, .int .i64 0]) (by simp [results, Tryz.results37, go_sem, *]) rfl ?_
  exact ⟨bl_a _, R.extract 0 1, none, 0, 0, rfl, HX.out, Nw.nil _ _⟩

/-- No token. -/
theorem tokenAt_none (s : ByteArray) (p : Nat) (w : World) (R : ByteArray) (b : Int) (hR : s.extract p s.size = R) (hp : p < s.size) (h0 : 0 < R.size) (_hz : R.size ≤ 1048576) (hb : ((R[0].toNat : Nat) : Int) = b) (hb1 : 0 ≤ b) (hb2 : b ≤ 255)
    (d1 : digit b = false) (d2 : (b == 45) = false) (d3 : (b == 60) = false) (d4 : (b == 34) = false) (d5 : (b == 63) = false) (d6 : great b = false) (d7 : Lib.hasPrefix R.data.toList [95, 58] = false) (d8 : signB b = false) :
    Calls Tryz.prog 37 #[.string s, .int .i64 p] w (TokRes none p w) := by
  have HP := fun w => Tryz.strings_HasPrefix R ⟨#[95, 58]⟩ w
  rw [show (⟨#[95, 58]⟩ : ByteArray).data.toList = [95, 58] from rfl, d7] at HP
  have IS := fun w => isSign_any b w hb1 hb2
  rw [d8] at IS
  clear d8
  clear d7
  go_enter Tryz.func37, Tryz.ntmps37
  go_wp2_with (first | (go_at_call 66; refine (digit_any _ _).mono ?_; rintro e w1 ⟨rfl, rfl⟩; try rw [hb]; try rw [d1]) | (go_at_call 74; refine (HP _).mono ?_; rintro e w2 ⟨rfl, rfl⟩) | (go_at_call 77; refine (great_any _ _).mono ?_; rintro e w3 ⟨rfl, rfl⟩; try rw [hb]; try rw [d6]) | (go_at_call 79; refine (IS _).mono ?_; rintro e w4 ⟨i, rfl, hi, rfl⟩))
  exact ⟨rfl, bl_a _, rfl⟩

/-- A minus that no digit follows. -/
theorem tokenAt_sign45 (s : ByteArray) (p : Nat) (w : World) (R : ByteArray) (b : Int) (hR : s.extract p s.size = R) (hp : p < s.size) (h0 : 0 < R.size) (_hz : R.size ≤ 1048576) (hb : ((R[0].toNat : Nat) : Int) = b) (hb1 : 0 ≤ b) (hb2 : b ≤ 255) (d1 : digit b = false) (d2 : (b == 45) = true) (d3 : (b == 60) = false) (d4 : (b == 34) = false) (d5 : (b == 63) = false) (qd : digitHd ((numsOf R).drop 1) = false) (d6 : great b = false) (d7 : Lib.hasPrefix R.data.toList [95, 58] = false) (d8 : signB b = true) :
    Calls Tryz.prog 37 #[.string s, .int .i64 p] w (TokRes (some ⟨3, [b], td0⟩) p w) := by
  have HX : Hid (numsOf (R.extract 0 1) = [b]) := by
    show _ = _
    rw [nums_extract, List.drop_zero, ← List.drop_zero (l := numsOf R), nums_drop R 0 h0, ← hb]
    rfl
  have HP := fun w => Tryz.strings_HasPrefix R ⟨#[95, 58]⟩ w
  rw [show (⟨#[95, 58]⟩ : ByteArray).data.toList = [95, 58] from rfl, d7] at HP
  have IS := fun w => isSign_any b w hb1 hb2
  rw [d8] at IS
  clear d8
  clear d7
  go_enter Tryz.func37, Tryz.ntmps37
  go_wp2_with (first | (go_at_call 66; refine (digit_any _ _).mono ?_; rintro e w1 ⟨rfl, rfl⟩; try rw [hb]; try rw [d1]) | (go_at_call 67; refine (isDigitAt_any R 1 _).mono ?_; rintro e w1 ⟨rfl, rfl⟩; rw [qd]) | (go_at_call 74; refine (HP _).mono ?_; rintro e w2 ⟨rfl, rfl⟩) | (go_at_call 77; refine (great_any _ _).mono ?_; rintro e w3 ⟨rfl, rfl⟩; try rw [hb]; try rw [d6]) | (go_at_call 79; refine (IS _).mono ?_; rintro e w4 ⟨i, rfl, hi, rfl⟩))
  refine bodyPost_ret (v := .agg #[.int .i64 3, .int .i64 p, .string (R.extract 0 1), .int .i64 0, .slice none 0 0, .int .i64 0, .int .i64 0]) (by simp [results, Tryz.results37, go_sem, *]) rfl ?_
  exact ⟨bl_a _, R.extract 0 1, none, 0, 0, rfl, HX.out, Nw.nil _ _⟩

/-- A word of great letters. -/
theorem tokenAt_word (s : ByteArray) (p : Nat) (w : World) (R : ByteArray) (b : Int) (hR : s.extract p s.size = R) (hp : p < s.size) (h0 : 0 < R.size) (hz : R.size ≤ 1048576) (hb : ((R[0].toNat : Nat) : Int) = b) (_hb1 : 0 ≤ b) (_hb2 : b ≤ 255)
    (d1 : digit b = false) (d2 : (b == 45) = false) (d3 : (b == 60) = false) (d4 : (b == 34) = false) (d5 : (b == 63) = false) (d6 : great b = true) (d7 : Lib.hasPrefix R.data.toList [95, 58] = false) :
    Calls Tryz.prog 37 #[.string s, .int .i64 p] w (TokRes (some ⟨2, (numsOf R).take (greatLen (numsOf R)), td0⟩) p w) := by
  have WL := fun w => wordLength_any R w hz
  have hL := greatLen_le (numsOf R)
  rw [numsOf_len] at hL
  generalize hG : greatLen (numsOf R) = G at *
  have HX : Hid (numsOf (R.extract 0 G) = (numsOf R).take G) := by
    show _ = _
    rw [nums_extract, List.drop_zero, Nat.sub_zero]
  clear hG
  have HP := fun w => Tryz.strings_HasPrefix R ⟨#[95, 58]⟩ w
  rw [show (⟨#[95, 58]⟩ : ByteArray).data.toList = [95, 58] from rfl, d7] at HP
  clear d7
  go_enter Tryz.func37, Tryz.ntmps37
  go_wp2_with (first | (go_at_call 66; refine (digit_any _ _).mono ?_; rintro e w1 ⟨rfl, rfl⟩; try rw [hb]; try rw [d1]) | (go_at_call 74; refine (HP _).mono ?_; rintro e w2 ⟨rfl, rfl⟩) | (go_at_call 77; refine (great_any _ _).mono ?_; rintro e w3 ⟨rfl, rfl⟩; try rw [hb]; try rw [d6]) | (go_at_call 78; refine (WL _).mono ?_; rintro e w4 ⟨rfl, rfl⟩))
  refine bodyPost_ret (v := .agg #[.int .i64 2, .int .i64 p, .string (R.extract 0 G), .int .i64 0, .slice none 0 0, .int .i64 0, .int .i64 0]) (by simp [results, Tryz.results37, go_sem, *]) rfl ?_
  exact ⟨bl_a _, R.extract 0 G, none, 0, 0, rfl, HX.out, Nw.nil _ _⟩

set_option maxHeartbeats 1000000 in
/-- A number that begins with a digit. -/
theorem tokenAt_num (s : ByteArray) (p : Nat) (w : World) (R : ByteArray) (b : Int) (hR : s.extract p s.size = R) (hp : p < s.size) (h0 : 0 < R.size) (hz : R.size ≤ 1048576) (hb : ((R[0].toNat : Nat) : Int) = b) (d1 : digit b = true) (hT : Tab w) (hE : Errs w) (L : List Int) (hL : numsOf (R.extract 0 (1 + pieceLen ((numsOf R).drop 1))) = L) (hL0 : L ≠ []) :
    Calls Tryz.prog 37 #[.string s, .int .i64 p] w (TokRes ((numOf L).map fun q => ⟨0, L, ⟨3, [], q.1, q.2⟩⟩) p w) := by
  have W := fun w => withPiece_any R 1 w h0 hz
  have hrz : (R.extract 0 (1 + pieceLen ((numsOf R).drop 1))).size ≤ 1048576 := by
    rw [← numsOf_len, nums_extract, List.drop_zero, List.length_take, numsOf_len]
    omega
  generalize R.extract 0 (1 + pieceLen ((numsOf R).drop 1)) = raw at *
  have HT1 : Hid (Tab (w.alloc (.cells #[.int .i64 0, .int .i64 0, .string ⟨#[]⟩, .int .i64 0, .slice none 0 0, .int .i64 0, .int .i64 0] 65))) := hT.below (bl_a _)
  have HE1 : Hid (Errs (w.alloc (.cells #[.int .i64 0, .int .i64 0, .string ⟨#[]⟩, .int .i64 0, .slice none 0 0, .int .i64 0, .int .i64 0] 65))) := hE.below (bl_a _)
  have HL : Hid (numsOf raw = L) := hL
  clear hT hE hL
  go_enter Tryz.func37, Tryz.ntmps37
  go_wp2_with (first | (go_at_call 66; refine (digit_any _ _).mono ?_; rintro e w1 ⟨rfl, rfl⟩; try rw [hb]; try rw [d1]))
  refine (W _).mono ?_
  rintro e w1 ⟨rfl, rfl⟩
  go_wp2_with fail
  refine (numberIn_any raw _ hrz HE1.out).mono ?_
  rintro e w2 ⟨k, n, sc, rfl, hk, n1, n2, s1, s2, hn, hb2⟩
  rw [HL.out] at hn
  have BX := (Bx7.new w (.int .i64 0) (.int .i64 0) (.string ⟨#[]⟩) (.int .i64 0) (.slice none 0 0) (.int .i64 0) (.int .i64 0) 65).below hb2
  have HT2 : Hid (Tab w2) := HT1.out.below hb2
  have HW2 : Hid (Below w.heap.size w w2) := bl_trans (bl_a _) hb2
  have hB2 : Bs w2 none 0 [] := ⟨rfl, by omega, by simp, .inl rfl⟩
  clear W HE1 HT1 hb2
  by_cases hsh : shownL k n sc [] = L
  · have hN : numOf L = some (n, sc) := by
      unfold shownL at hsh
      split at hsh
      · rename_i hok
        rcases hk with rfl | rfl
        · refine numOf_some.2 ⟨?_, hsh⟩
          have : termOk 3 [] n sc = numOk n sc := by simp [termOk]
          rw [← this]
          exact hok
        · simp [termOk, nameOk] at hok
      · exact absurd hsh.symm hL0
    have h3 := (hn n sc hN).1
    subst h3
    have HN : Hid (numOf L = some (n, sc)) := hN
    clear hN hn hk
    go_wp2_with fail
    refine (termToken_yes p raw 3 n sc none 0 0 [] w2 hB2 hrz n1 n2 (by omega) (by omega) HT2.out (by rw [HL.out]; exact hsh)).mono ?_
    rintro e w3 ⟨rfl, hb3⟩
    unfold tokV
    have BX := BX.below hb3
    have HW : Hid (Below w.heap.size w w3) := bl_trans HW2.out hb3
    clear hb3 HW2 HT2 hB2 hsh
    obtain ⟨⟨b0, b1, b2, b3, b4, b5, b6, b7⟩, g0, g1, g2, g3, g4, g5, g6⟩ := BX
    go_wp2_with fail
    refine bodyPost_ret (v := .agg #[.int .i64 0, .int .i64 p, .string raw, .int .i64 3, .slice none 0 0, .int .i64 n, .int .i64 sc]) (by simp [results, Tryz.results37, go_sem, *]) rfl ?_
    rw [HN.out]
    refine ⟨?_, raw, none, 0, 0, rfl, HL.out, Nw.nil _ _⟩
    exact bl_set (bl_set (bl_set (bl_set (bl_set (bl_set (bl_set HW.out (Nat.le_refl _) _) (Nat.le_refl _) _) (Nat.le_refl _) _) (Nat.le_refl _) _) (Nat.le_refl _) _) (Nat.le_refl _) _) (Nat.le_refl _) _
  · have hN : numOf L = none := by
      cases h : numOf L with
      | none => rfl
      | some q =>
        obtain ⟨n', s'⟩ := q
        obtain ⟨rfl, rfl, rfl⟩ := hn n' s' h
        have := numOf_some.1 h
        refine absurd ?_ hsh
        unfold shownL
        rw [if_pos (by simp [termOk, this.1]), this.2]
    have HN : Hid (numOf L = none) := hN
    clear hN hn hk
    go_wp2_with fail
    refine (termToken_no p raw k n sc none 0 0 [] w2 hB2 hrz n1 n2 (by omega) (by omega) HT2.out (by rw [HL.out]; exact hsh)).mono ?_
    rintro e w3 ⟨rfl, hb3⟩
    unfold refused
    have HW : Hid (Below w.heap.size w w3) := bl_trans HW2.out hb3
    clear hb3 HW2 HT2 hB2 hsh BX
    go_wp2_with fail
    refine ⟨rfl, HW.out, ?_⟩
    rw [HN.out]
    rfl

set_option maxHeartbeats 1000000 in
/-- A number that begins with a minus. -/
theorem tokenAt_neg (s : ByteArray) (p : Nat) (w : World) (R : ByteArray) (b : Int) (hR : s.extract p s.size = R) (hp : p < s.size) (h0 : 0 < R.size) (hz : R.size ≤ 1048576) (hb : ((R[0].toNat : Nat) : Int) = b) (d1 : digit b = false) (d2 : (b == 45) = true) (qd : digitHd ((numsOf R).drop 1) = true) (hT : Tab w) (hE : Errs w) (L : List Int) (hL : numsOf (R.extract 0 (1 + pieceLen ((numsOf R).drop 1))) = L) (hL0 : L ≠ []) :
    Calls Tryz.prog 37 #[.string s, .int .i64 p] w (TokRes ((numOf L).map fun q => ⟨0, L, ⟨3, [], q.1, q.2⟩⟩) p w) := by
  have W := fun w => withPiece_any R 1 w h0 hz
  have hrz : (R.extract 0 (1 + pieceLen ((numsOf R).drop 1))).size ≤ 1048576 := by
    rw [← numsOf_len, nums_extract, List.drop_zero, List.length_take, numsOf_len]
    omega
  generalize R.extract 0 (1 + pieceLen ((numsOf R).drop 1)) = raw at *
  have HT1 : Hid (Tab (w.alloc (.cells #[.int .i64 0, .int .i64 0, .string ⟨#[]⟩, .int .i64 0, .slice none 0 0, .int .i64 0, .int .i64 0] 65))) := hT.below (bl_a _)
  have HE1 : Hid (Errs (w.alloc (.cells #[.int .i64 0, .int .i64 0, .string ⟨#[]⟩, .int .i64 0, .slice none 0 0, .int .i64 0, .int .i64 0] 65))) := hE.below (bl_a _)
  have HL : Hid (numsOf raw = L) := hL
  clear hT hE hL
  go_enter Tryz.func37, Tryz.ntmps37
  go_wp2_with (first | (go_at_call 66; refine (digit_any _ _).mono ?_; rintro e w1 ⟨rfl, rfl⟩; try rw [hb]; try rw [d1]) | (go_at_call 67; refine (isDigitAt_any R 1 _).mono ?_; rintro e w1 ⟨rfl, rfl⟩; rw [qd]))
  refine (W _).mono ?_
  rintro e w1 ⟨rfl, rfl⟩
  go_wp2_with fail
  refine (numberIn_any raw _ hrz HE1.out).mono ?_
  rintro e w2 ⟨k, n, sc, rfl, hk, n1, n2, s1, s2, hn, hb2⟩
  rw [HL.out] at hn
  have BX := (Bx7.new w (.int .i64 0) (.int .i64 0) (.string ⟨#[]⟩) (.int .i64 0) (.slice none 0 0) (.int .i64 0) (.int .i64 0) 65).below hb2
  have HT2 : Hid (Tab w2) := HT1.out.below hb2
  have HW2 : Hid (Below w.heap.size w w2) := bl_trans (bl_a _) hb2
  have hB2 : Bs w2 none 0 [] := ⟨rfl, by omega, by simp, .inl rfl⟩
  clear W HE1 HT1 hb2
  by_cases hsh : shownL k n sc [] = L
  · have hN : numOf L = some (n, sc) := by
      unfold shownL at hsh
      split at hsh
      · rename_i hok
        rcases hk with rfl | rfl
        · refine numOf_some.2 ⟨?_, hsh⟩
          have : termOk 3 [] n sc = numOk n sc := by simp [termOk]
          rw [← this]
          exact hok
        · simp [termOk, nameOk] at hok
      · exact absurd hsh.symm hL0
    have h3 := (hn n sc hN).1
    subst h3
    have HN : Hid (numOf L = some (n, sc)) := hN
    clear hN hn hk
    go_wp2_with fail
    refine (termToken_yes p raw 3 n sc none 0 0 [] w2 hB2 hrz n1 n2 (by omega) (by omega) HT2.out (by rw [HL.out]; exact hsh)).mono ?_
    rintro e w3 ⟨rfl, hb3⟩
    unfold tokV
    have BX := BX.below hb3
    have HW : Hid (Below w.heap.size w w3) := bl_trans HW2.out hb3
    clear hb3 HW2 HT2 hB2 hsh
    obtain ⟨⟨b0, b1, b2, b3, b4, b5, b6, b7⟩, g0, g1, g2, g3, g4, g5, g6⟩ := BX
    go_wp2_with fail
    refine bodyPost_ret (v := .agg #[.int .i64 0, .int .i64 p, .string raw, .int .i64 3, .slice none 0 0, .int .i64 n, .int .i64 sc]) (by simp [results, Tryz.results37, go_sem, *]) rfl ?_
    rw [HN.out]
    refine ⟨?_, raw, none, 0, 0, rfl, HL.out, Nw.nil _ _⟩
    exact bl_set (bl_set (bl_set (bl_set (bl_set (bl_set (bl_set HW.out (Nat.le_refl _) _) (Nat.le_refl _) _) (Nat.le_refl _) _) (Nat.le_refl _) _) (Nat.le_refl _) _) (Nat.le_refl _) _) (Nat.le_refl _) _
  · have hN : numOf L = none := by
      cases h : numOf L with
      | none => rfl
      | some q =>
        obtain ⟨n', s'⟩ := q
        obtain ⟨rfl, rfl, rfl⟩ := hn n' s' h
        have := numOf_some.1 h
        refine absurd ?_ hsh
        unfold shownL
        rw [if_pos (by simp [termOk, this.1]), this.2]
    have HN : Hid (numOf L = none) := hN
    clear hN hn hk
    go_wp2_with fail
    refine (termToken_no p raw k n sc none 0 0 [] w2 hB2 hrz n1 n2 (by omega) (by omega) HT2.out (by rw [HL.out]; exact hsh)).mono ?_
    rintro e w3 ⟨rfl, hb3⟩
    unfold refused
    have HW : Hid (Below w.heap.size w w3) := bl_trans HW2.out hb3
    clear hb3 HW2 HT2 hB2 hsh BX
    go_wp2_with fail
    refine ⟨rfl, HW.out, ?_⟩
    rw [HN.out]
    rfl
end Go.Proofs.YtiodiooaaojbhaaGreatDoor
