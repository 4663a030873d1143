/- Texts put together: RdG RdH -/
import Derived.Test.YtoclingolfdfeaaGreatDoorMk08
/- RdG -/
namespace Go.Proofs.YtoclingolfdfeaaGreatDoor
open Go.RowKit Go.Deep
set_option maxRecDepth 100000

/-- The signs, as the program has them. -/
def signS : ByteArray := ⟨#[46, 123, 125, 40, 41, 42, 43, 45, 47, 61, 60, 38, 124]⟩
theorem sign_index : ∀ n : Nat, n < 256 → (decide (0 ≤ Lib.indexByte signS.data.toList n.toUInt8)) = signB (n : Int) := by decide +kernel
theorem isSign_any (b : Int) (w : World) (h0 : 0 ≤ b) (h1 : b ≤ 255) : Calls Tryz.prog 147 #[.string ⟨#[46, 123, 125, 40, 41, 42, 43, 45, 47, 61, 60, 38, 124]⟩, .int .u8 b] w fun e w' => ∃ i : Int, e = .returned (.int .i64 i) ∧ decide (0 ≤ i) = signB b ∧ w' = w := by
  refine (Tryz.strings_IndexByte signS b w).mono ?_
  rintro e w' ⟨rfl, rfl⟩
  refine ⟨_, rfl, ?_, rfl⟩
  have := sign_index b.toNat (by omega)
  rw [Int.toNat_of_nonneg h0] at this
  exact this
theorem hasPrefix_two (t : ByteArray) (c d : UInt8) : Lib.hasPrefix t.data.toList [c, d] = ((numsOf t)[0]? == some (c.toNat : Int) && (numsOf t)[1]? == some (d.toNat : Int)) := by
  have eq : ∀ x y : UInt8, (x == y) = ((y.toNat : Int) == (x.toNat : Int)) := fun x y => by
    rw [Bool.eq_iff_iff, beq_iff_eq, beq_iff_eq]
    constructor
    · rintro rfl; rfl
    · intro h; exact (UInt8.toNat_inj.1 (by omega)).symm
  rw [numsOf_u]
  unfold numsU Lib.hasPrefix
  cases t.data.toList with
  | nil => rfl
  | cons b l =>
    cases l with
    | nil =>
      rw [List.isPrefixOf_cons_cons]
      simp
    | cons b' l =>
      rw [List.isPrefixOf_cons_cons, List.isPrefixOf_cons_cons, eq, eq]
      simp [Option.some_beq_some]
/-- What tokenAt answers at a place. -/
def TokRes (o : Option PT) (p : Nat) (w : World) (e : Ending) (w' : World) : Prop :=
  Below w.heap.size w w' ∧ match o with
  | none => e = refused 2 p
  | some t => ∃ raw a len cap, e = .returned (tokV t.kind p raw t.td.k t.td.n t.td.s a len cap) ∧ numsOf raw = t.raw ∧ Nw w' w.heap.size a len t.td.bs

/-- A sign. -/
theorem tokenAt_sign (s : ByteArray) (p : Nat) (w : World) (R : ByteArray) (b : Int) (hR : s.extract p s.size = R) (hp : p < s.size) (h0 : 0 < R.size) (_hz : R.size ≤ 1048576) (hb : ((R[0].toNat : Nat) : Int) = b) (hb1 : 0 ≤ b) (hb2 : b ≤ 255)
    (d1 : digit b = false) (d2 : (b == 45) = false) (d3 : (b == 60) = false) (d4 : (b == 34) = false) (d5 : (b == 63) = false) (d6 : great b = false) (d7 : Lib.hasPrefix R.data.toList [95, 58] = false) (d8 : signB b = true) :
    Calls Tryz.prog 97 #[.string s, .int .i64 p] w (TokRes (some ⟨3, [b], td0⟩) p w) := by
  have HX : Hid (numsOf (R.extract 0 1) = [b]) := by
    show _ = _
    rw [nums_extract, List.drop_zero, ← List.drop_zero (l := numsOf R), nums_drop R 0 h0, ← hb]
    rfl
  have HP := fun w => Tryz.strings_HasPrefix R ⟨#[95, 58]⟩ w
  rw [show (⟨#[95, 58]⟩ : ByteArray).data.toList = [95, 58] from rfl, d7] at HP
  have IS := fun w => isSign_any b w hb1 hb2
  rw [d8] at IS
  clear d8
  clear d7
  go_enter Tryz.func97, Tryz.ntmps97
  go_wp2_with (first | (go_at_call 67; refine (digit_any _ _).mono ?_; rintro e w1 ⟨rfl, rfl⟩; try rw [hb]; try rw [d1]) | (go_at_call 90; refine (HP _).mono ?_; rintro e w2 ⟨rfl, rfl⟩) | (go_at_call 145; refine (great_any _ _).mono ?_; rintro e w3 ⟨rfl, rfl⟩; try rw [hb]; try rw [d6]) | (go_at_call 147; refine (IS _).mono ?_; rintro e w4 ⟨i, rfl, hi, rfl⟩))
  refine bodyPost_ret (v := .agg #[.int .i64 3, .int .i64 p, .string (R.extract 0 1), .int .i64 0, .slice none 0 0, .int .i64 0, .int .i64 0]) (by simp [results, Tryz.results97, go_sem, *]) rfl ?_
  exact ⟨bl_a _, R.extract 0 1, none, 0, 0, rfl, HX.out, Nw.nil _ _⟩

/-- No token. -/
theorem tokenAt_none (s : ByteArray) (p : Nat) (w : World) (R : ByteArray) (b : Int) (hR : s.extract p s.size = R) (hp : p < s.size) (h0 : 0 < R.size) (_hz : R.size ≤ 1048576) (hb : ((R[0].toNat : Nat) : Int) = b) (hb1 : 0 ≤ b) (hb2 : b ≤ 255)
    (d1 : digit b = false) (d2 : (b == 45) = false) (d3 : (b == 60) = false) (d4 : (b == 34) = false) (d5 : (b == 63) = false) (d6 : great b = false) (d7 : Lib.hasPrefix R.data.toList [95, 58] = false) (d8 : signB b = false) :
    Calls Tryz.prog 97 #[.string s, .int .i64 p] w (TokRes none p w) := by
  have HP := fun w => Tryz.strings_HasPrefix R ⟨#[95, 58]⟩ w
  rw [show (⟨#[95, 58]⟩ : ByteArray).data.toList = [95, 58] from rfl, d7] at HP
  have IS := fun w => isSign_any b w hb1 hb2
  rw [d8] at IS
  clear d8
  clear d7
  go_enter Tryz.func97, Tryz.ntmps97
  go_wp2_with (first | (go_at_call 67; refine (digit_any _ _).mono ?_; rintro e w1 ⟨rfl, rfl⟩; try rw [hb]; try rw [d1]) | (go_at_call 90; refine (HP _).mono ?_; rintro e w2 ⟨rfl, rfl⟩) | (go_at_call 145; refine (great_any _ _).mono ?_; rintro e w3 ⟨rfl, rfl⟩; try rw [hb]; try rw [d6]) | (go_at_call 147; refine (IS _).mono ?_; rintro e w4 ⟨i, rfl, hi, rfl⟩))
  exact ⟨rfl, bl_a _, rfl⟩

/-- A minus that no digit follows. -/
theorem tokenAt_sign45 (s : ByteArray) (p : Nat) (w : World) (R : ByteArray) (b : Int) (hR : s.extract p s.size = R) (hp : p < s.size) (h0 : 0 < R.size) (_hz : R.size ≤ 1048576) (hb : ((R[0].toNat : Nat) : Int) = b) (hb1 : 0 ≤ b) (hb2 : b ≤ 255) (d1 : digit b = false) (d2 : (b == 45) = true) (d3 : (b == 60) = false) (d4 : (b == 34) = false) (d5 : (b == 63) = false) (qd : digitHd ((numsOf R).drop 1) = false) (d6 : great b = false) (d7 : Lib.hasPrefix R.data.toList [95, 58] = false) (d8 : signB b = true) :
    Calls Tryz.prog 97 #[.string s, .int .i64 p] w (TokRes (some ⟨3, [b], td0⟩) p w) := by
  have HX : Hid (numsOf (R.extract 0 1) = [b]) := by
    show _ = _
    rw [nums_extract, List.drop_zero, ← List.drop_zero (l := numsOf R), nums_drop R 0 h0, ← hb]
    rfl
  have HP := fun w => Tryz.strings_HasPrefix R ⟨#[95, 58]⟩ w
  rw [show (⟨#[95, 58]⟩ : ByteArray).data.toList = [95, 58] from rfl, d7] at HP
  have IS := fun w => isSign_any b w hb1 hb2
  rw [d8] at IS
  clear d8
  clear d7
  go_enter Tryz.func97, Tryz.ntmps97
  go_wp2_with (first | (go_at_call 67; refine (digit_any _ _).mono ?_; rintro e w1 ⟨rfl, rfl⟩; try rw [hb]; try rw [d1]) | (go_at_call 137; refine (isDigitAt_any R 1 _).mono ?_; rintro e w1 ⟨rfl, rfl⟩; rw [qd]) | (go_at_call 90; refine (HP _).mono ?_; rintro e w2 ⟨rfl, rfl⟩) | (go_at_call 145; refine (great_any _ _).mono ?_; rintro e w3 ⟨rfl, rfl⟩; try rw [hb]; try rw [d6]) | (go_at_call 147; refine (IS _).mono ?_; rintro e w4 ⟨i, rfl, hi, rfl⟩))
  refine bodyPost_ret (v := .agg #[.int .i64 3, .int .i64 p, .string (R.extract 0 1), .int .i64 0, .slice none 0 0, .int .i64 0, .int .i64 0]) (by simp [results, Tryz.results97, go_sem, *]) rfl ?_
  exact ⟨bl_a _, R.extract 0 1, none, 0, 0, rfl, HX.out, Nw.nil _ _⟩

/-- A word of great letters. -/
theorem tokenAt_word (s : ByteArray) (p : Nat) (w : World) (R : ByteArray) (b : Int) (hR : s.extract p s.size = R) (hp : p < s.size) (h0 : 0 < R.size) (hz : R.size ≤ 1048576) (hb : ((R[0].toNat : Nat) : Int) = b) (_hb1 : 0 ≤ b) (_hb2 : b ≤ 255)
    (d1 : digit b = false) (d2 : (b == 45) = false) (d3 : (b == 60) = false) (d4 : (b == 34) = false) (d5 : (b == 63) = false) (d6 : great b = true) (d7 : Lib.hasPrefix R.data.toList [95, 58] = false) :
    Calls Tryz.prog 97 #[.string s, .int .i64 p] w (TokRes (some ⟨2, (numsOf R).take (greatLen (numsOf R)), td0⟩) p w) := by
  have WL := fun w => wordLength_any R w hz
  have hL := greatLen_le (numsOf R)
  rw [numsOf_len] at hL
  generalize hG : greatLen (numsOf R) = G at *
  have HX : Hid (numsOf (R.extract 0 G) = (numsOf R).take G) := by
    show _ = _
    rw [nums_extract, List.drop_zero, Nat.sub_zero]
  clear hG
  have HP := fun w => Tryz.strings_HasPrefix R ⟨#[95, 58]⟩ w
  rw [show (⟨#[95, 58]⟩ : ByteArray).data.toList = [95, 58] from rfl, d7] at HP
  clear d7
  go_enter Tryz.func97, Tryz.ntmps97
  go_wp2_with (first | (go_at_call 67; refine (digit_any _ _).mono ?_; rintro e w1 ⟨rfl, rfl⟩; try rw [hb]; try rw [d1]) | (go_at_call 90; refine (HP _).mono ?_; rintro e w2 ⟨rfl, rfl⟩) | (go_at_call 145; refine (great_any _ _).mono ?_; rintro e w3 ⟨rfl, rfl⟩; try rw [hb]; try rw [d6]) | (go_at_call 146; refine (WL _).mono ?_; rintro e w4 ⟨rfl, rfl⟩))
  refine bodyPost_ret (v := .agg #[.int .i64 2, .int .i64 p, .string (R.extract 0 G), .int .i64 0, .slice none 0 0, .int .i64 0, .int .i64 0]) (by simp [results, Tryz.results97, go_sem, *]) rfl ?_
  exact ⟨bl_a _, R.extract 0 G, none, 0, 0, rfl, HX.out, Nw.nil _ _⟩

set_option maxHeartbeats 1000000 in
/-- A number that begins with a digit. -/
theorem tokenAt_num (s : ByteArray) (p : Nat) (w : World) (R : ByteArray) (b : Int) (hR : s.extract p s.size = R) (hp : p < s.size) (h0 : 0 < R.size) (hz : R.size ≤ 1048576) (hb : ((R[0].toNat : Nat) : Int) = b) (d1 : digit b = true) (hT : Tab w) (hE : Errs w) (L : List Int) (hL : numsOf (R.extract 0 (1 + pieceLen ((numsOf R).drop 1))) = L) (hL0 : L ≠ []) :
    Calls Tryz.prog 97 #[.string s, .int .i64 p] w (TokRes ((numOf L).map fun q => ⟨0, L, ⟨3, [], q.1, q.2⟩⟩) p w) := by
  have W := fun w => withPiece_any R 1 w h0 hz
  have hrz : (R.extract 0 (1 + pieceLen ((numsOf R).drop 1))).size ≤ 1048576 := by
    rw [← numsOf_len, nums_extract, List.drop_zero, List.length_take, numsOf_len]
    omega
  generalize R.extract 0 (1 + pieceLen ((numsOf R).drop 1)) = raw at *
  have HT1 : Hid (Tab (w.alloc (.cells #[.int .i64 0, .int .i64 0, .string ⟨#[]⟩, .int .i64 0, .slice none 0 0, .int .i64 0, .int .i64 0] 98))) := hT.below (bl_a _)
  have HE1 : Hid (Errs (w.alloc (.cells #[.int .i64 0, .int .i64 0, .string ⟨#[]⟩, .int .i64 0, .slice none 0 0, .int .i64 0, .int .i64 0] 98))) := hE.below (bl_a _)
  have HL : Hid (numsOf raw = L) := hL
  clear hT hE hL
  go_enter Tryz.func97, Tryz.ntmps97
  go_wp2_with (first | (go_at_call 67; refine (digit_any _ _).mono ?_; rintro e w1 ⟨rfl, rfl⟩; try rw [hb]; try rw [d1]))
  refine (W _).mono ?_
  rintro e w1 ⟨rfl, rfl⟩
  go_wp2_with fail
  refine (numberIn_any raw _ hrz HE1.out).mono ?_
  rintro e w2 ⟨k, n, sc, rfl, hk, n1, n2, s1, s2, hn, hb2⟩
  rw [HL.out] at hn
  have BX := (Bx7.new w (.int .i64 0) (.int .i64 0) (.string ⟨#[]⟩) (.int .i64 0) (.slice none 0 0) (.int .i64 0) (.int .i64 0) 98).below hb2
  have HT2 : Hid (Tab w2) := HT1.out.below hb2
  have HW2 : Hid (Below w.heap.size w w2) := bl_trans (bl_a _) hb2
  have hB2 : Bs w2 none 0 [] := ⟨rfl, by omega, by simp, .inl rfl⟩
  clear W HE1 HT1 hb2
  by_cases hsh : shownL k n sc [] = L
  · have hN : numOf L = some (n, sc) := by
      unfold shownL at hsh
      split at hsh
      · rename_i hok
        rcases hk with rfl | rfl
        · refine numOf_some.2 ⟨?_, hsh⟩
          have : termOk 3 [] n sc = numOk n sc := by simp [termOk]
          rw [← this]
          exact hok
        · simp [termOk, nameOk] at hok
      · exact absurd hsh.symm hL0
    have h3 := (hn n sc hN).1
    subst h3
    have HN : Hid (numOf L = some (n, sc)) := hN
    clear hN hn hk
    go_wp2_with fail
    refine (termToken_yes p raw 3 n sc none 0 0 [] w2 hB2 hrz n1 n2 (by omega) (by omega) HT2.out (by rw [HL.out]; exact hsh)).mono ?_
    rintro e w3 ⟨rfl, hb3⟩
    unfold tokV
    have BX := BX.below hb3
    have HW : Hid (Below w.heap.size w w3) := bl_trans HW2.out hb3
    clear hb3 HW2 HT2 hB2 hsh
    obtain ⟨⟨b0, b1, b2, b3, b4, b5, b6, b7⟩, g0, g1, g2, g3, g4, g5, g6⟩ := BX
    go_wp2_with fail
    refine bodyPost_ret (v := .agg #[.int .i64 0, .int .i64 p, .string raw, .int .i64 3, .slice none 0 0, .int .i64 n, .int .i64 sc]) (by simp [results, Tryz.results97, go_sem, *]) rfl ?_
    rw [HN.out]
    refine ⟨?_, raw, none, 0, 0, rfl, HL.out, Nw.nil _ _⟩
    exact bl_set (bl_set (bl_set (bl_set (bl_set (bl_set (bl_set HW.out (Nat.le_refl _) _) (Nat.le_refl _) _) (Nat.le_refl _) _) (Nat.le_refl _) _) (Nat.le_refl _) _) (Nat.le_refl _) _) (Nat.le_refl _) _
  · have hN : numOf L = none := by
      cases h : numOf L with
      | none => rfl
      | some q =>
        obtain ⟨n', s'⟩ := q
        obtain ⟨rfl, rfl, rfl⟩ := hn n' s' h
        have := numOf_some.1 h
        refine absurd ?_ hsh
        unfold shownL
        rw [if_pos (by simp [termOk, this.1]), this.2]
    have HN : Hid (numOf L = none) := hN
    clear hN hn hk
    go_wp2_with fail
    refine (termToken_no p raw k n sc none 0 0 [] w2 hB2 hrz n1 n2 (by omega) (by omega) HT2.out (by rw [HL.out]; exact hsh)).mono ?_
    rintro e w3 ⟨rfl, hb3⟩
    unfold refused
    have HW : Hid (Below w.heap.size w w3) := bl_trans HW2.out hb3
    clear hb3 HW2 HT2 hB2 hsh BX
    go_wp2_with fail
    refine ⟨rfl, HW.out, ?_⟩
    rw [HN.out]
    rfl

set_option maxHeartbeats 1000000 in
/-- A number that begins with a minus. -/
theorem tokenAt_neg (s : ByteArray) (p : Nat) (w : World) (R : ByteArray) (b : Int) (hR : s.extract p s.size = R) (hp : p < s.size) (h0 : 0 < R.size) (hz : R.size ≤ 1048576) (hb : ((R[0].toNat : Nat) : Int) = b) (d1 : digit b = false) (d2 : (b == 45) = true) (qd : digitHd ((numsOf R).drop 1) = true) (hT : Tab w) (hE : Errs w) (L : List Int) (hL : numsOf (R.extract 0 (1 + pieceLen ((numsOf R).drop 1))) = L) (hL0 : L ≠ []) :
    Calls Tryz.prog 97 #[.string s, .int .i64 p] w (TokRes ((numOf L).map fun q => ⟨0, L, ⟨3, [], q.1, q.2⟩⟩) p w) := by
  have W := fun w => withPiece_any R 1 w h0 hz
  have hrz : (R.extract 0 (1 + pieceLen ((numsOf R).drop 1))).size ≤ 1048576 := by
    rw [← numsOf_len, nums_extract, List.drop_zero, List.length_take, numsOf_len]
    omega
  generalize R.extract 0 (1 + pieceLen ((numsOf R).drop 1)) = raw at *
  have HT1 : Hid (Tab (w.alloc (.cells #[.int .i64 0, .int .i64 0, .string ⟨#[]⟩, .int .i64 0, .slice none 0 0, .int .i64 0, .int .i64 0] 98))) := hT.below (bl_a _)
  have HE1 : Hid (Errs (w.alloc (.cells #[.int .i64 0, .int .i64 0, .string ⟨#[]⟩, .int .i64 0, .slice none 0 0, .int .i64 0, .int .i64 0] 98))) := hE.below (bl_a _)
  have HL : Hid (numsOf raw = L) := hL
  clear hT hE hL
  go_enter Tryz.func97, Tryz.ntmps97
  go_wp2_with (first | (go_at_call 67; refine (digit_any _ _).mono ?_; rintro e w1 ⟨rfl, rfl⟩; try rw [hb]; try rw [d1]) | (go_at_call 137; refine (isDigitAt_any R 1 _).mono ?_; rintro e w1 ⟨rfl, rfl⟩; rw [qd]))
  refine (W _).mono ?_
  rintro e w1 ⟨rfl, rfl⟩
  go_wp2_with fail
  refine (numberIn_any raw _ hrz HE1.out).mono ?_
  rintro e w2 ⟨k, n, sc, rfl, hk, n1, n2, s1, s2, hn, hb2⟩
  rw [HL.out] at hn
  have BX := (Bx7.new w (.int .i64 0) (.int .i64 0) (.string ⟨#[]⟩) (.int .i64 0) (.slice none 0 0) (.int .i64 0) (.int .i64 0) 98).below hb2
  have HT2 : Hid (Tab w2) := HT1.out.below hb2
  have HW2 : Hid (Below w.heap.size w w2) := bl_trans (bl_a _) hb2
  have hB2 : Bs w2 none 0 [] := ⟨rfl, by omega, by simp, .inl rfl⟩
  clear W HE1 HT1 hb2
  by_cases hsh : shownL k n sc [] = L
  · have hN : numOf L = some (n, sc) := by
      unfold shownL at hsh
      split at hsh
      · rename_i hok
        rcases hk with rfl | rfl
        · refine numOf_some.2 ⟨?_, hsh⟩
          have : termOk 3 [] n sc = numOk n sc := by simp [termOk]
          rw [← this]
          exact hok
        · simp [termOk, nameOk] at hok
      · exact absurd hsh.symm hL0
    have h3 := (hn n sc hN).1
    subst h3
    have HN : Hid (numOf L = some (n, sc)) := hN
    clear hN hn hk
    go_wp2_with fail
    refine (termToken_yes p raw 3 n sc none 0 0 [] w2 hB2 hrz n1 n2 (by omega) (by omega) HT2.out (by rw [HL.out]; exact hsh)).mono ?_
    rintro e w3 ⟨rfl, hb3⟩
    unfold tokV
    have BX := BX.below hb3
    have HW : Hid (Below w.heap.size w w3) := bl_trans HW2.out hb3
    clear hb3 HW2 HT2 hB2 hsh
    obtain ⟨⟨b0, b1, b2, b3, b4, b5, b6, b7⟩, g0, g1, g2, g3, g4, g5, g6⟩ := BX
    go_wp2_with fail
    refine bodyPost_ret (v := .agg #[.int .i64 0, .int .i64 p, .string raw, .int .i64 3, .slice none 0 0, .int .i64 n, .int .i64 sc]) (by simp [results, Tryz.results97, go_sem, *]) rfl ?_
    rw [HN.out]
    refine ⟨?_, raw, none, 0, 0, rfl, HL.out, Nw.nil _ _⟩
    exact bl_set (bl_set (bl_set (bl_set (bl_set (bl_set (bl_set HW.out (Nat.le_refl _) _) (Nat.le_refl _) _) (Nat.le_refl _) _) (Nat.le_refl _) _) (Nat.le_refl _) _) (Nat.le_refl _) _) (Nat.le_refl _) _
  · have hN : numOf L = none := by
      cases h : numOf L with
      | none => rfl
      | some q =>
        obtain ⟨n', s'⟩ := q
        obtain ⟨rfl, rfl, rfl⟩ := hn n' s' h
        have := numOf_some.1 h
        refine absurd ?_ hsh
        unfold shownL
        rw [if_pos (by simp [termOk, this.1]), this.2]
    have HN : Hid (numOf L = none) := hN
    clear hN hn hk
    go_wp2_with fail
    refine (termToken_no p raw k n sc none 0 0 [] w2 hB2 hrz n1 n2 (by omega) (by omega) HT2.out (by rw [HL.out]; exact hsh)).mono ?_
    rintro e w3 ⟨rfl, hb3⟩
    unfold refused
    have HW : Hid (Below w.heap.size w w3) := bl_trans HW2.out hb3
    clear hb3 HW2 HT2 hB2 hsh BX
    go_wp2_with fail
    refine ⟨rfl, HW.out, ?_⟩
    rw [HN.out]
    rfl
end Go.Proofs.YtoclingolfdfeaaGreatDoor

/- RdH -/
namespace Go.Proofs.YtoclingolfdfeaaGreatDoor
open Go.RowKit Go.Deep
set_option maxRecDepth 100000

theorem nw_but {w w' : World} {B g len : Nat} {a : Option Addr} {bs : List Int} (h : Nw w B a len bs) (hb : But g w w') (hg : g < B) : Nw w' B a len bs := by
  rcases h with h | ⟨c, rfl, hc, ho⟩
  · exact .inl h
  · exact .inr ⟨c, rfl, hc, ho.but hb (by omega)⟩

set_option maxHeartbeats 1000000 in
/-- A name. -/
theorem tokenAt_name (s : ByteArray) (p : Nat) (w : World) (R : ByteArray) (b : Int) (hR : s.extract p s.size = R) (hp : p < s.size) (h0 : 0 < R.size) (hz : R.size ≤ 1048576) (hb : ((R[0].toNat : Nat) : Int) = b) (d1 : digit b = false) (d2 : (b == 45) = false) (d3 : (b == 60) = true) (hT : Tab w) (nm : List Int) (hnm : ((numsOf R).drop 1).take (pieceLen ((numsOf R).drop 1)) = nm) (hok : nameOk nm = true) (hgt : ((((numsOf R).drop 1).drop (pieceLen ((numsOf R).drop 1)))[0]? == some 62) = true) :
    Calls Tryz.prog 97 #[.string s, .int .i64 p] w (TokRes (some ⟨0, 60 :: (nm ++ [62]), ⟨0, nm, 0, 0⟩⟩) p w) := by
  have BN := fun w => beginsName_any R w h0 hz
  have W := fun w => withPiece_any R 1 w h0 hz
  have hcv := fun (w : World) (s : ByteArray) => Lib.run_convert_string_bytes (P := Tryz.prog) w 9 22 5 s Tryz.underlying9 Tryz.underlying22 Tryz.underlying5
  rw [hnm, hok, hgt] at BN
  have hPl := pieceLen_le ((numsOf R).drop 1)
  rw [List.length_drop, numsOf_len] at hPl
  generalize pieceLen ((numsOf R).drop 1) = P at *
  have hb60 : b = 60 := by simpa using d3
  have eR : numsOf R = 60 :: (numsOf R).drop 1 := by
    have := nums_drop R 0 h0
    rw [List.drop_zero] at this
    rw [hb60] at hb
    rw [← hb]
    exact this
  have eL : nm.length = P := by
    rw [← hnm, List.length_take, List.length_drop, numsOf_len]
    omega
  have e1 : numsOf (R.extract 0 (1 + P)) = 60 :: nm := by
    rw [nums_extract, List.drop_zero, Nat.sub_zero, eR, Nat.add_comm 1 P, List.take_succ_cons, hnm]
  have e2 : numsOf (R.extract 0 (1 + P) ++ ⟨#[62]⟩) = 60 :: (nm ++ [62]) := by
    rw [numsOf_append, e1]
    rfl
  generalize R.extract 0 (1 + P) = Q at *
  have e3 : Q.size = P + 1 := by rw [← numsOf_len, e1, List.length_cons, eL]
  generalize hraw : Q ++ (⟨#[62]⟩ : ByteArray) = raw at *
  have e4 : raw.size = P + 2 := by rw [← numsOf_len, e2, List.length_cons, List.length_append, eL]; rfl
  have e5 : numsOf (raw.extract 1 (P + 1)) = nm := by
    rw [nums_extract, e2, List.drop_succ_cons, List.drop_zero, show P + 1 - 1 = nm.length by omega, List.take_left]
  have e6 : (raw.extract 1 (P + 1)).size = P := by rw [← numsOf_len, e5, eL]
  have hP12 : P ≤ 12 := by
    simp only [nameOk, Bool.and_eq_true, decide_eq_true_eq] at hok
    omega
  have HT1 : Hid (Tab (w.alloc (.cells #[.int .i64 0, .int .i64 0, .string ⟨#[]⟩, .int .i64 0, .slice none 0 0, .int .i64 0, .int .i64 0] 98))) := hT.below (bl_a _)
  have HR : Hid (numsOf raw = 60 :: (nm ++ [62])) := e2
  have HN : Hid (numsOf (raw.extract 1 (P + 1)) = nm) := e5
  have HSh : Hid (shownL 0 0 0 nm = numsOf raw) := by
    show _ = _
    rw [e2]
    simp [shownL, termOk, hok, showL]
  clear hT hnm hok hgt e1 e2 e5 eR hb60 eL
  go_enter Tryz.func97, Tryz.ntmps97
  go_wp2_with (first | (go_at_call 67; refine (digit_any _ _).mono ?_; rintro e w1 ⟨rfl, rfl⟩; try rw [hb]; try rw [d1]) | (go_at_call 141; refine (BN _).mono ?_; rintro e w5 ⟨rfl, hb5⟩))
  have BX := (Bx7.new w (.int .i64 0) (.int .i64 0) (.string ⟨#[]⟩) (.int .i64 0) (.slice none 0 0) (.int .i64 0) (.int .i64 0) 98).below hb5
  have HT5 : Hid (Tab w5) := HT1.out.below hb5
  have HW5 : Hid (Below w.heap.size w w5) := bl_trans (bl_a _) hb5
  have BX0 := BX.1.1
  clear hb5 HT1 BN
  go_wp2_with fail
  refine (W _).mono ?_
  rintro e w1 ⟨rfl, rfl⟩
  go_wp2_with fail
  have TX := Tx.conv w1 (raw.extract 1 (P + 1)) 5 (by rw [e6]; omega)
  rw [e6, HN.out] at TX
  have HX : Hid (Bs (Lib.bytesWorld w1 5 (raw.extract 1 (P + 1))) (some ⟨w1.heap.size, 0, none⟩) P nm) := TX.1
  have HNw : Hid (Nw (Lib.bytesWorld w1 5 (raw.extract 1 (P + 1))) w1.heap.size (some ⟨w1.heap.size, 0, none⟩) P nm) := TX.nw
  have hbW := bytesWorld_below w1 5 (raw.extract 1 (P + 1))
  have HTW : Hid (Tab (Lib.bytesWorld w1 5 (raw.extract 1 (P + 1)))) := HT5.out.below hbW
  have HWW : Hid (Below w.heap.size w (Lib.bytesWorld w1 5 (raw.extract 1 (P + 1)))) := bl_trans HW5.out hbW
  have BX := BX.below hbW
  have hlt : w.heap.size < w1.heap.size := BX0
  clear TX hbW HT5 HW5 hcv W
  generalize (Lib.bytesWorld w1 5 (raw.extract 1 (P + 1))) = w2 at *
  refine (termToken_yes p raw 0 0 0 (some ⟨w1.heap.size, 0, none⟩) P (grownCap w1 P 0 5) nm w2 HX.out (by omega) (by omega) (by omega) (by omega) (by omega) HTW.out HSh.out).mono ?_
  rintro e w3 ⟨rfl, hb3⟩
  unfold tokV
  have BX := BX.below hb3
  have HW : Hid (Below w.heap.size w w3) := bl_trans HWW.out hb3
  have HN3 : Hid (Nw w3 w1.heap.size (some ⟨w1.heap.size, 0, none⟩) P nm) := HNw.out.below hb3
  clear hb3 HWW HTW HX HNw HSh
  obtain ⟨⟨b0, b1, b2, b3, b4, b5, b6, b7⟩, g0, g1, g2, g3, g4, g5, g6⟩ := BX
  go_wp2_with fail
  refine bodyPost_ret (v := .agg #[.int .i64 0, .int .i64 p, .string raw, .int .i64 0, .slice (some ⟨w1.heap.size, 0, none⟩) P (grownCap w1 P 0 5), .int .i64 0, .int .i64 0]) (by simp [results, Tryz.results97, go_sem, *]) rfl ?_
  refine ⟨?_, raw, some ⟨w1.heap.size, 0, none⟩, P, (grownCap w1 P 0 5), rfl, HR.out, ?_⟩
  · exact bl_set (bl_set (bl_set (bl_set (bl_set (bl_set (bl_set HW.out (Nat.le_refl _) _) (Nat.le_refl _) _) (Nat.le_refl _) _) (Nat.le_refl _) _) (Nat.le_refl _) _) (Nat.le_refl _) _) (Nat.le_refl _) _
  · exact (nw_but HN3.out ((((((((But.refl w.heap.size w3).set 0 _).set 1 _).set 2 _).set 3 _).set 4 _).set 5 _).set 6 _) hlt).mono (Nat.le_of_lt hlt)

set_option maxHeartbeats 1000000 in
/-- A sign that begins no name. -/
theorem tokenAt_sign60 (s : ByteArray) (p : Nat) (w : World) (R : ByteArray) (b : Int) (hR : s.extract p s.size = R) (hp : p < s.size) (h0 : 0 < R.size) (hz : R.size ≤ 1048576) (hb : ((R[0].toNat : Nat) : Int) = b) (hb1 : 0 ≤ b) (hb2 : b ≤ 255) (d1 : digit b = false) (d2 : (b == 45) = false) (d3 : (b == 60) = true) (d4 : (b == 34) = false) (d5 : (b == 63) = false) (d6 : great b = false) (d7 : Lib.hasPrefix R.data.toList [95, 58] = false) (d8 : signB b = true)
    (hno : (nameOk (((numsOf R).drop 1).take (pieceLen ((numsOf R).drop 1))) && ((((numsOf R).drop 1).drop (pieceLen ((numsOf R).drop 1)))[0]? == some 62)) = false) :
    Calls Tryz.prog 97 #[.string s, .int .i64 p] w (TokRes (some ⟨3, [b], td0⟩) p w) := by
  have BN := fun w => beginsName_any R w h0 hz
  rw [hno] at BN
  have HX : Hid (numsOf (R.extract 0 1) = [b]) := by
    show _ = _
    rw [nums_extract, List.drop_zero, ← List.drop_zero (l := numsOf R), nums_drop R 0 h0, ← hb]
    rfl
  have HP := fun w => Tryz.strings_HasPrefix R ⟨#[95, 58]⟩ w
  rw [show (⟨#[95, 58]⟩ : ByteArray).data.toList = [95, 58] from rfl, d7] at HP
  have IS := fun w => isSign_any b w hb1 hb2
  rw [d8] at IS
  clear d8
  clear d7 hno
  go_enter Tryz.func97, Tryz.ntmps97
  go_wp2_with (first | (go_at_call 67; refine (digit_any _ _).mono ?_; rintro e w1 ⟨rfl, rfl⟩; try rw [hb]; try rw [d1]) | (go_at_call 141; refine (BN _).mono ?_; rintro e w5 ⟨rfl, hb5⟩))
  have BX := (Bx7.new w (.int .i64 0) (.int .i64 0) (.string ⟨#[]⟩) (.int .i64 0) (.slice none 0 0) (.int .i64 0) (.int .i64 0) 98).below hb5
  have HW : Hid (Below w.heap.size w w5) := bl_trans (bl_a _) hb5
  clear hb5 BN
  obtain ⟨⟨b0, b1, b2, b3, b4, b5, b6, b7⟩, g0, g1, g2, g3, g4, g5, g6⟩ := BX
  go_wp2_with (first | (go_at_call 90; refine (HP _).mono ?_; rintro e w2 ⟨rfl, rfl⟩) | (go_at_call 145; refine (great_any _ _).mono ?_; rintro e w3 ⟨rfl, rfl⟩; try rw [hb]; try rw [d6]) | (go_at_call 147; refine (IS _).mono ?_; rintro e w4 ⟨i, rfl, hi, rfl⟩))
  refine bodyPost_ret (v := .agg #[.int .i64 3, .int .i64 p, .string (R.extract 0 1), .int .i64 0, .slice none 0 0, .int .i64 0, .int .i64 0]) (by simp [results, Tryz.results97, go_sem, *]) rfl ?_
  refine ⟨?_, R.extract 0 1, none, 0, 0, rfl, HX.out, Nw.nil _ _⟩
  exact bl_set (bl_set (bl_set (bl_set (bl_set (bl_set (bl_set HW.out (Nat.le_refl _) _) (Nat.le_refl _) _) (Nat.le_refl _) _) (Nat.le_refl _) _) (Nat.le_refl _) _) (Nat.le_refl _) _) (Nat.le_refl _) _

theorem qlen_esc (tx r : List Int) : qlen false (esc tx ++ 34 :: r) = (esc tx).length + 1 := by
  induction tx with
  | nil => simp [esc, qlen]
  | cons b tx ih =>
    have e : esc (b :: tx) = (if b = 34 ∨ b = 92 then [92, b] else [b]) ++ esc tx := rfl
    rw [e]
    split
    · simp only [List.cons_append, List.nil_append]
      rw [qlen, if_neg (by omega), if_pos rfl, qlen, ih]
      simp
    · rename_i h
      simp only [List.cons_append, List.nil_append]
      rw [qlen, if_neg (by omega), if_neg (by omega), ih]
      simp
theorem quote_of {r t : List Int} {m : Nat} (h : r.take m = esc t ++ [34]) : quoteF false r = some (t, (esc t).length + 1) ∧ qlen false r = (esc t).length + 1 ∧ r.take ((esc t).length + 1) = esc t ++ [34] := by
  have e : r = esc t ++ 34 :: r.drop m := by
    have := List.take_append_drop m r
    rw [h, List.append_assoc] at this
    exact this.symm
  refine ⟨by rw [e]; exact quoteF_esc _ _, by rw [e]; exact qlen_esc _ _, ?_⟩
  rw [e, List.take_append, List.take_of_length_le (by omega), Nat.add_sub_cancel_left]
  rfl
/-- A text is read just where what it says shows as it is written. -/
theorem quote_read (r : List Int) : ((quoteF false r).bind fun q => if textOk q.1 = true then some (⟨0, 34 :: r.take q.2, ⟨2, q.1, 0, 0⟩⟩ : PT) else none) =
    if shownL 2 0 0 (unq false (r.take (qlen false r))) = 34 :: r.take (qlen false r) then some ⟨0, 34 :: r.take (qlen false r), ⟨2, unq false (r.take (qlen false r)), 0, 0⟩⟩ else none := by
  by_cases h : shownL 2 0 0 (unq false (r.take (qlen false r))) = 34 :: r.take (qlen false r)
  · rw [if_pos h]
    unfold shownL at h
    split at h
    · rename_i hok
      generalize hU : unq false (r.take (qlen false r)) = t at *
      have h2 : r.take (qlen false r) = esc t ++ [34] := by simpa [showL] using h.symm
      have ht : textOk t = true := by simpa [termOk] using hok
      obtain ⟨q1, q2, q3⟩ := quote_of h2
      rw [q1, Option.bind_some, if_pos ht, q2]
    · cases h
  · rw [if_neg h]
    cases hq : quoteF false r with
    | none => rfl
    | some q =>
      obtain ⟨t, m⟩ := q
      rw [Option.bind_some]
      split
      · rename_i ht
        exfalso
        apply h
        have h2 := (quoteF_some r).1 t m hq
        obtain ⟨q1, q2, q3⟩ := quote_of h2
        rw [q2, q3, unq_esc]
        simp [shownL, termOk, ht, showL]
      · rfl

set_option maxHeartbeats 1000000 in
/-- A text. -/
theorem tokenAt_text (s : ByteArray) (p : Nat) (w : World) (R : ByteArray) (b : Int) (hR : s.extract p s.size = R) (hp : p < s.size) (h0 : 0 < R.size) (hz : R.size ≤ 1048576) (hb : ((R[0].toNat : Nat) : Int) = b) (d1 : digit b = false) (d2 : (b == 45) = false) (d3 : (b == 60) = false) (d4 : (b == 34) = true) (hT : Tab w) (r : List Int) (hr : (numsOf R).drop 1 = r) :
    Calls Tryz.prog 97 #[.string s, .int .i64 p] w (TokRes ((quoteF false r).bind fun q => if textOk q.1 = true then some ⟨0, 34 :: r.take q.2, ⟨2, q.1, 0, 0⟩⟩ else none) p w) := by
  rw [quote_read]
  have QL := fun w => quotedLength_any R w h0 hz
  rw [hr] at QL
  have hq := qlen_le r false
  have hrl : r.length = R.size - 1 := by rw [← hr, List.length_drop, numsOf_len]
  generalize qlen false r = m at *
  have hb34 : b = 34 := by simpa using d4
  have eR : numsOf R = 34 :: r := by
    have := nums_drop R 0 h0
    rw [List.drop_zero, hr] at this
    rw [hb34] at hb
    rw [← hb]
    exact this
  have e1 : numsOf (R.extract 0 (1 + m)) = 34 :: r.take m := by
    rw [nums_extract, List.drop_zero, Nat.sub_zero, eR, Nat.add_comm 1 m, List.take_succ_cons]
  have hml : 1 + m ≤ R.size := by omega
  have hml2 : (1 : Int) + (m : Int) ≤ (R.size : Int) := by omega
  have hml3 : (0 : Int) ≤ 1 + (m : Int) := by omega
  generalize hraw : R.extract 0 (1 + m) = raw at *
  have e3 : raw.size = 1 + m := by rw [← numsOf_len, e1, List.length_cons, List.length_take]; omega
  have U := fun w => unquoted_any raw w (by omega) (by omega)
  rw [e1, List.drop_succ_cons, List.drop_zero] at U
  have HL : Hid (numsOf raw = 34 :: r.take m) := e1
  generalize unq false (r.take m) = t at *
  generalize hLL : (34 :: r.take m : List Int) = L at *
  have HT1 : Hid (Tab (w.alloc (.cells #[.int .i64 0, .int .i64 0, .string ⟨#[]⟩, .int .i64 0, .slice none 0 0, .int .i64 0, .int .i64 0] 98))) := hT.below (bl_a _)
  obtain ⟨o, hO⟩ : ∃ o, o = if shownL 2 0 0 t = L then some (⟨0, L, ⟨2, t, 0, 0⟩⟩ : PT) else none := ⟨_, rfl⟩
  rw [← hO]
  have HO : Hid (o = if shownL 2 0 0 t = L then some (⟨0, L, ⟨2, t, 0, 0⟩⟩ : PT) else none) := hO
  clear hT hb34 eR hrl hq e1 hr hLL hO
  go_enter Tryz.func97, Tryz.ntmps97
  go_wp2_with (first | (go_at_call 67; refine (digit_any _ _).mono ?_; rintro e w1 ⟨rfl, rfl⟩; try rw [hb]; try rw [d1]))
  refine (QL _).mono ?_
  rintro e w1 ⟨rfl, rfl⟩
  go_wp2_with fail
  refine (U _).mono ?_
  rintro e w2 ⟨a, cap, rfl, hN, hb2⟩
  have BX := (Bx7.new w (.int .i64 0) (.int .i64 0) (.string ⟨#[]⟩) (.int .i64 0) (.slice none 0 0) (.int .i64 0) (.int .i64 0) 98).below hb2
  have HT2 : Hid (Tab w2) := HT1.out.below hb2
  have HW2 : Hid (Below w.heap.size w w2) := bl_trans (bl_a _) hb2
  have HN : Hid (Nw w2 (w.heap.size + 1) a t.length t) := by show Nw _ _ _ _ _; simpa using hN
  have HBs : Hid (Bs w2 a t.length t) := hN.bs
  clear hb2 hN HT1 U QL
  generalize hN : t.length = N at *
  clear hN
  by_cases hsh : shownL 2 0 0 t = L
  · have hO := HO.out
    rw [if_pos hsh] at hO
    subst hO
    clear HO
    go_wp2_with fail
    refine (termToken_yes p raw 2 0 0 a N cap t w2 HBs.out (by omega) (by omega) (by omega) (by omega) (by omega) HT2.out (by rw [HL.out]; exact hsh)).mono ?_
    rintro e w3 ⟨rfl, hb3⟩
    unfold tokV
    have BX := BX.below hb3
    have HW : Hid (Below w.heap.size w w3) := bl_trans HW2.out hb3
    have HN3 : Hid (Nw w3 (w.heap.size + 1) a N t) := HN.out.below hb3
    clear hb3 HW2 HT2 HBs hsh HN
    obtain ⟨⟨b0, b1, b2, b3, b4, b5, b6, b7⟩, g0, g1, g2, g3, g4, g5, g6⟩ := BX
    go_wp2_with fail
    refine bodyPost_ret (v := .agg #[.int .i64 0, .int .i64 p, .string raw, .int .i64 2, .slice a N cap, .int .i64 0, .int .i64 0]) (by simp [results, Tryz.results97, go_sem, *]) rfl ?_
    refine ⟨?_, raw, a, N, cap, rfl, HL.out, ?_⟩
    · exact bl_set (bl_set (bl_set (bl_set (bl_set (bl_set (bl_set HW.out (Nat.le_refl _) _) (Nat.le_refl _) _) (Nat.le_refl _) _) (Nat.le_refl _) _) (Nat.le_refl _) _) (Nat.le_refl _) _) (Nat.le_refl _) _
    · exact (nw_but HN3.out ((((((((But.refl w.heap.size w3).set 0 _).set 1 _).set 2 _).set 3 _).set 4 _).set 5 _).set 6 _) (Nat.lt_succ_self _)).mono (Nat.le_succ _)
  · have hO := HO.out
    rw [if_neg hsh] at hO
    subst hO
    clear HO
    go_wp2_with fail
    refine (termToken_no p raw 2 0 0 a N cap t w2 HBs.out (by omega) (by omega) (by omega) (by omega) (by omega) HT2.out (by rw [HL.out]; exact hsh)).mono ?_
    rintro e w3 ⟨rfl, hb3⟩
    unfold refused
    have HW : Hid (Below w.heap.size w w3) := bl_trans HW2.out hb3
    clear hb3 HW2 HT2 hsh BX HN HBs
    go_wp2_with fail
    exact ⟨rfl, HW.out, rfl⟩

set_option maxHeartbeats 1000000 in
/-- A blank. -/
theorem tokenAt_blank (s : ByteArray) (p : Nat) (w : World) (R : ByteArray) (b : Int) (hR : s.extract p s.size = R) (hp : p < s.size) (h0 : 0 < R.size) (hz : R.size ≤ 1048576) (hb : ((R[0].toNat : Nat) : Int) = b) (d1 : digit b = false) (d2 : (b == 45) = false) (d3 : (b == 60) = false) (d4 : (b == 34) = false) (d7 : Lib.hasPrefix R.data.toList [95, 58] = true) (h2 : 2 ≤ R.size) (hT : Tab w) (hE : Errs w) (pc : List Int) (hpc : ((numsOf R).drop 2).take (pieceLen ((numsOf R).drop 2)) = pc) (hR2 : (numsOf R).take 2 = [95, 58]) :
    Calls Tryz.prog 97 #[.string s, .int .i64 p] w (TokRes ((blankOf pc).map fun n => ⟨0, 95 :: 58 :: pc, ⟨1, [], n, 0⟩⟩) p w) := by
  have W := fun w => withPiece_any R 2 w h2 hz
  have hPl := pieceLen_le ((numsOf R).drop 2)
  rw [List.length_drop, numsOf_len] at hPl
  generalize pieceLen ((numsOf R).drop 2) = P at *
  have e1 : numsOf (R.extract 0 (2 + P)) = 95 :: 58 :: pc := by
    rw [nums_extract, List.drop_zero, Nat.sub_zero, List.take_add, hR2, hpc]
    rfl
  have hrz : (R.extract 0 (2 + P)).size ≤ 1048576 := by
    rw [← numsOf_len, nums_extract, List.drop_zero, List.length_take, numsOf_len]
    omega
  generalize R.extract 0 (2 + P) = raw at *
  have hr2 : 2 ≤ raw.size := by rw [← numsOf_len, e1]; simp
  have BI := fun w hE => blankIn_any raw w hr2 hrz hE
  rw [e1] at BI
  rw [show (95 :: 58 :: pc : List Int).drop 2 = pc from rfl] at BI
  have HL : Hid (numsOf raw = 95 :: 58 :: pc) := e1
  have HP := fun w => Tryz.strings_HasPrefix R ⟨#[95, 58]⟩ w
  rw [show (⟨#[95, 58]⟩ : ByteArray).data.toList = [95, 58] from rfl, d7] at HP
  have HT1 : Hid (Tab (w.alloc (.cells #[.int .i64 0, .int .i64 0, .string ⟨#[]⟩, .int .i64 0, .slice none 0 0, .int .i64 0, .int .i64 0] 98))) := hT.below (bl_a _)
  have HE1 : Hid (Errs (w.alloc (.cells #[.int .i64 0, .int .i64 0, .string ⟨#[]⟩, .int .i64 0, .slice none 0 0, .int .i64 0, .int .i64 0] 98))) := hE.below (bl_a _)
  clear hT hE e1 hpc hR2 d7
  go_enter Tryz.func97, Tryz.ntmps97
  go_wp2_with (first | (go_at_call 67; refine (digit_any _ _).mono ?_; rintro e w1 ⟨rfl, rfl⟩; try rw [hb]; try rw [d1]) | (go_at_call 90; refine (HP _).mono ?_; rintro e w2 ⟨rfl, rfl⟩))
  refine (W _).mono ?_
  rintro e w1 ⟨rfl, rfl⟩
  go_wp2_with fail
  refine (BI _ HE1.out).mono ?_
  rintro e w2 ⟨k, n, rfl, hk, n1, n2, hn, hb2⟩
  have BX := (Bx7.new w (.int .i64 0) (.int .i64 0) (.string ⟨#[]⟩) (.int .i64 0) (.slice none 0 0) (.int .i64 0) (.int .i64 0) 98).below hb2
  have HT2 : Hid (Tab w2) := HT1.out.below hb2
  have HW2 : Hid (Below w.heap.size w w2) := bl_trans (bl_a _) hb2
  have hB2 : Bs w2 none 0 [] := ⟨rfl, by omega, by simp, .inl rfl⟩
  clear W HE1 HT1 hb2 BI
  by_cases hsh : shownL k n 0 [] = 95 :: 58 :: pc
  · have hN : k = 1 ∧ blankOf pc = some n.toNat ∧ 0 ≤ n := by
      unfold shownL at hsh
      split at hsh
      · rename_i hok
        rcases hk with rfl | rfl
        · have hd : digitsL n.toNat = pc := by simpa [showL] using hsh
          have hok2 : 0 ≤ n ∧ n ≤ 999999 := by simpa [termOk] using hok
          exact ⟨rfl, blankOf_some.2 ⟨by omega, hd⟩, hok2.1⟩
        · simp [termOk, nameOk] at hok
      · cases hsh
    obtain ⟨rfl, hN, hn0⟩ := hN
    have HN : Hid (blankOf pc = some n.toNat) := hN
    clear hN hn hk
    go_wp2_with fail
    refine (termToken_yes p raw 1 n 0 none 0 0 [] w2 hB2 hrz n1 n2 (by omega) (by omega) HT2.out (by rw [HL.out]; exact hsh)).mono ?_
    rintro e w3 ⟨rfl, hb3⟩
    unfold tokV
    have BX := BX.below hb3
    have HW : Hid (Below w.heap.size w w3) := bl_trans HW2.out hb3
    clear hb3 HW2 HT2 hB2 hsh
    obtain ⟨⟨b0, b1, b2, b3, b4, b5, b6, b7⟩, g0, g1, g2, g3, g4, g5, g6⟩ := BX
    go_wp2_with fail
    refine bodyPost_ret (v := .agg #[.int .i64 0, .int .i64 p, .string raw, .int .i64 1, .slice none 0 0, .int .i64 n, .int .i64 0]) (by simp [results, Tryz.results97, go_sem, *]) rfl ?_
    rw [HN.out]
    refine ⟨?_, raw, none, 0, 0, ?_, HL.out, Nw.nil _ _⟩
    · exact bl_set (bl_set (bl_set (bl_set (bl_set (bl_set (bl_set HW.out (Nat.le_refl _) _) (Nat.le_refl _) _) (Nat.le_refl _) _) (Nat.le_refl _) _) (Nat.le_refl _) _) (Nat.le_refl _) _) (Nat.le_refl _) _
    · show Ending.returned _ = Ending.returned (tokV 0 p raw 1 (n.toNat : Int) 0 none 0 0)
      rw [Int.toNat_of_nonneg hn0]
      rfl
  · have hN : blankOf pc = none := by
      cases h : blankOf pc with
      | none => rfl
      | some n' =>
        obtain ⟨rfl, rfl⟩ := hn n' h
        have := blankOf_some.1 h
        refine absurd ?_ hsh
        unfold shownL
        rw [if_pos (by simp [termOk]; omega)]
        simp [showL, this.2]
    have HN : Hid (blankOf pc = none) := hN
    clear hN hn hk
    go_wp2_with fail
    refine (termToken_no p raw k n 0 none 0 0 [] w2 hB2 hrz n1 n2 (by omega) (by omega) HT2.out (by rw [HL.out]; exact hsh)).mono ?_
    rintro e w3 ⟨rfl, hb3⟩
    unfold refused
    have HW : Hid (Below w.heap.size w w3) := bl_trans HW2.out hb3
    clear hb3 HW2 HT2 hB2 hsh BX
    go_wp2_with fail
    refine ⟨rfl, HW.out, ?_⟩
    rw [HN.out]
    rfl
end Go.Proofs.YtoclingolfdfeaaGreatDoor
