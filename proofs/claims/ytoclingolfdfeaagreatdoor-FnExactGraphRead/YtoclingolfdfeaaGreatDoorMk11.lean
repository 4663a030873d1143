/- Texts put together: RdF RdG -/
import Derived.Test.YtoclingolfdfeaaGreatDoorMk10
/- RdF -/
namespace Go.Proofs.YtoclingolfdfeaaGreatDoor
open Go.RowKit Go.Deep
set_option maxRecDepth 100000

theorem strB_ne {a b : List Int} (ha : Byt a) (hb : Byt b) (h : a ≠ b) : strOfNums a ≠ strOfNums b := fun e => h (by rw [← numsOf_nums ha, ← numsOf_nums hb, e])
theorem strB_ne2 {a b : List Int} (ha : Byt a) (hb : Byt b) (h : a ≠ b) : (strOfNums a).toList ≠ (strOfNums b).toList := fun e => h (by
  rw [Lib.strOfNums_toList, Lib.strOfNums_toList] at e
  rw [← numsOf_nums ha, ← numsOf_nums hb]
  show (a.map fun n => UInt8.ofNat n.toNat).map _ = (b.map fun n => UInt8.ofNat n.toNat).map _
  exact congrArg _ e)
theorem bytesEq_any (a b : Option Addr) (la lb ca cb : Nat) (xs ys : List Int) (w : World) (hA : Bs w a la xs) (hB : Bs w b lb ys) :
    Calls Tryz.prog 164 #[.slice a la ca, .slice b lb cb] w fun e w' => e = .returned (.bool (decide (xs = ys))) ∧ w' = w := by
  have c1 : (convert 22 9 (.slice a la ca)).run Tryz.prog w = .ok (.string (strOfNums xs)) w := hA.str
  have c2 : (convert 22 9 (.slice b lb cb)).run Tryz.prog w = .ok (.string (strOfNums ys)) w := hB.str
  by_cases h : xs = ys
  · rw [h] at c1
    have e : decide (xs = ys) = true := decide_eq_true h
    rw [e]
    clear h hA hB e
    go_enter Tryz.func164, Tryz.ntmps164
    go_wp2_with fail
    go_ret
    exact ⟨rfl, rfl⟩
  · have hs := strB_ne hA.byt hB.byt h
    have hs0 := strB_ne2 hA.byt hB.byt h
    have hs1 : ((strOfNums xs).toList == (strOfNums ys).toList) = false := beq_false_of_ne hs0
    have hs2 : decide (strOfNums xs = strOfNums ys) = false := decide_eq_false hs
    have e : decide (xs = ys) = false := decide_eq_false h
    rw [e]
    clear h hA hB e
    go_enter Tryz.func164, Tryz.ntmps164
    go_wp2_with fail
    go_ret
    exact ⟨rfl, rfl⟩

/-- What a reader gives up with. -/
def refused (c p : Int) : Ending := .panicked [{ v := .iface 59 (.agg #[.int .i64 c, .int .i64 p]), recovered := false }]
/-- A token as the program has it. -/
def tokV (k : Int) (p : Int) (raw : ByteArray) (tk tn ts : Int) (a : Option Addr) (len cap : Nat) : Value := .agg #[.int .i64 k, .int .i64 p, .string raw, .int .i64 tk, .slice a len cap, .int .i64 tn, .int .i64 ts]

/-- A box of seven that may be written. -/
def At7 (w : World) (b : Nat) (v0 v1 v2 v3 v4 v5 v6 : Value) : Prop :=
  b < w.heap.size ∧ w.cell? ⟨b, 0, none⟩ = some v0 ∧ w.cell? ⟨b, 1, none⟩ = some v1 ∧ w.cell? ⟨b, 2, none⟩ = some v2 ∧ w.cell? ⟨b, 3, none⟩ = some v3 ∧ w.cell? ⟨b, 4, none⟩ = some v4 ∧ w.cell? ⟨b, 5, none⟩ = some v5 ∧ w.cell? ⟨b, 6, none⟩ = some v6
theorem At7.below {w w' : World} {b : Nat} {v0 v1 v2 v3 v4 v5 v6 : Value} (h : At7 w b v0 v1 v2 v3 v4 v5 v6) (hb : Below w.heap.size w w') : At7 w' b v0 v1 v2 v3 v4 v5 v6 := by
  obtain ⟨hl, h0, h1, h2, h3, h4, h5, h6⟩ := h
  exact ⟨Nat.lt_of_lt_of_le hl hb.size, (hb.cell (p := ⟨b, 0, none⟩) hl).trans h0, (hb.cell (p := ⟨b, 1, none⟩) hl).trans h1, (hb.cell (p := ⟨b, 2, none⟩) hl).trans h2, (hb.cell (p := ⟨b, 3, none⟩) hl).trans h3, (hb.cell (p := ⟨b, 4, none⟩) hl).trans h4, (hb.cell (p := ⟨b, 5, none⟩) hl).trans h5, (hb.cell (p := ⟨b, 6, none⟩) hl).trans h6⟩
def Bx7 (w : World) (b : Nat) (v0 v1 v2 v3 v4 v5 v6 : Value) : Prop := At7 w b v0 v1 v2 v3 v4 v5 v6 ∧ w.frozen? ⟨b, 0, none⟩ = false ∧ w.frozen? ⟨b, 1, none⟩ = false ∧ w.frozen? ⟨b, 2, none⟩ = false ∧ w.frozen? ⟨b, 3, none⟩ = false ∧ w.frozen? ⟨b, 4, none⟩ = false ∧ w.frozen? ⟨b, 5, none⟩ = false ∧ w.frozen? ⟨b, 6, none⟩ = false
theorem Bx7.new (w : World) (v0 v1 v2 v3 v4 v5 v6 : Value) (t : TypeId) : Bx7 (w.alloc (.cells #[v0, v1, v2, v3, v4, v5, v6] t)) w.heap.size v0 v1 v2 v3 v4 v5 v6 := by
  refine ⟨⟨by simp, ?_, ?_, ?_, ?_, ?_, ?_, ?_⟩, ?_, ?_, ?_, ?_, ?_, ?_, ?_⟩ <;> simp [go_sem]
theorem Bx7.below {w w' : World} {b : Nat} {v0 v1 v2 v3 v4 v5 v6 : Value} (h : Bx7 w b v0 v1 v2 v3 v4 v5 v6) (hb : Below w.heap.size w w') : Bx7 w' b v0 v1 v2 v3 v4 v5 v6 := by
  obtain ⟨h0, f0, f1, f2, f3, f4, f5, f6⟩ := h
  have hl := h0.1
  exact ⟨h0.below hb, (hb.frozen (p := ⟨b, 0, none⟩) hl).trans f0, (hb.frozen (p := ⟨b, 1, none⟩) hl).trans f1, (hb.frozen (p := ⟨b, 2, none⟩) hl).trans f2, (hb.frozen (p := ⟨b, 3, none⟩) hl).trans f3, (hb.frozen (p := ⟨b, 4, none⟩) hl).trans f4, (hb.frozen (p := ⟨b, 5, none⟩) hl).trans f5, (hb.frozen (p := ⟨b, 6, none⟩) hl).trans f6⟩
theorem termToken_no (p : Nat) (raw : ByteArray) (k n s : Int) (a : Option Addr) (len cap : Nat) (tx : List Int) (w : World) (hB : Bs w a len tx) (hr : raw.size ≤ 1048576)
    (h1 : -9223372036854775808 ≤ n) (h2 : n ≤ 9223372036854775807) (h3 : -9223372036854775808 ≤ s) (h4 : s ≤ 9223372036854775807) (ht : Tab w) (h : shownL k n s tx ≠ numsOf raw) :
    Calls Tryz.prog 139 #[.int .i64 p, .string raw, .agg #[.int .i64 k, .slice a len cap, .int .i64 n, .int .i64 s]] w fun e w' => e = refused 2 p ∧ Below w.heap.size w w' := by
  have hcv := fun (w : World) (s : ByteArray) => Lib.run_convert_string_bytes (P := Tryz.prog) w 9 22 5 s Tryz.underlying9 Tryz.underlying22 Tryz.underlying5
  have S := fun w hB ht => implShow_any k n s a len cap tx w hB h1 h2 h3 h4 ht
  have HC : ∀ w : World, Hid (Bs (Lib.bytesWorld w 5 raw) (some ⟨w.heap.size, 0, none⟩) raw.size (numsOf raw)) := fun w => (Tx.conv w raw 5 hr).1
  have HS : ∀ (w w1 : World) (b : Option Addr) (m : Nat), Nw w1 w.heap.size b m (shownL k n s tx) → Hid (Bs w1 b m (shownL k n s tx)) := fun w w1 b m h => h.bs
  unfold refused
  generalize shownL k n s tx = X at *
  generalize hN : numsOf raw = Y at *
  clear hN
  have HB2 : ∀ o1 o2, Hid (Bs ((w.alloc o1).alloc o2) a len tx) := fun o1 o2 => hB.below (bl_alloc (bl_a _) _)
  have HT2 : ∀ o1 o2, Hid (Tab ((w.alloc o1).alloc o2)) := fun o1 o2 => ht.below (bl_alloc (bl_a _) _)
  have hd : decide (X = Y) = false := decide_eq_false h
  clear hB ht h
  go_enter Tryz.func139, Tryz.ntmps139
  go_wp2_with fail
  refine (S _ (HB2 _ _).out (HT2 _ _).out).mono ?_
  rintro e w1 ⟨b, c, rfl, hX, hb⟩
  have HX : Hid (Bs (Lib.bytesWorld w1 5 raw) b X.length X) := (HS _ _ _ _ hX).out.below (bytesWorld_below _ _ _)
  have HW : Hid (Below w.heap.size w (Lib.bytesWorld w1 5 raw)) := bl_trans (bl_trans (bl_alloc (bl_a _) _) hb) (bytesWorld_below _ _ _)
  have HY := ((Bx4.new w (.int .i64 k) (.slice a len cap) (.int .i64 n) (.int .i64 s) 24).below (bl_a (.cells #[.int .i64 0, .int .i64 0, .string ⟨#[]⟩, .int .i64 0, .slice none 0 0, .int .i64 0, .int .i64 0] 98))).below (bl_trans hb (bytesWorld_below w1 5 raw))
  have HZ := (Bx7.new (w.alloc (.cells #[.int .i64 k, .slice a len cap, .int .i64 n, .int .i64 s] 24)) (.int .i64 0) (.int .i64 0) (.string ⟨#[]⟩) (.int .i64 0) (.slice none 0 0) (.int .i64 0) (.int .i64 0) 98).below (bl_trans hb (bytesWorld_below w1 5 raw))
  clear hX hb HB2 HT2 S HS
  go_wp2_with fail
  refine (bytesEq_any _ _ _ _ _ _ X Y _ HX.out (HC w1).out).mono ?_
  rintro e w2 ⟨rfl, rfl⟩
  rw [hd]
  clear HX HC hcv
  clear HY HZ
  go_wp2_with fail
  exact ⟨rfl, rfl, HW.out⟩
theorem termToken_yes (p : Nat) (raw : ByteArray) (k n s : Int) (a : Option Addr) (len cap : Nat) (tx : List Int) (w : World) (hB : Bs w a len tx) (hr : raw.size ≤ 1048576)
    (h1 : -9223372036854775808 ≤ n) (h2 : n ≤ 9223372036854775807) (h3 : -9223372036854775808 ≤ s) (h4 : s ≤ 9223372036854775807) (ht : Tab w) (h : shownL k n s tx = numsOf raw) :
    Calls Tryz.prog 139 #[.int .i64 p, .string raw, .agg #[.int .i64 k, .slice a len cap, .int .i64 n, .int .i64 s]] w fun e w' => e = .returned (tokV 0 p raw k n s a len cap) ∧ Below w.heap.size w w' := by
  have hcv := fun (w : World) (s : ByteArray) => Lib.run_convert_string_bytes (P := Tryz.prog) w 9 22 5 s Tryz.underlying9 Tryz.underlying22 Tryz.underlying5
  have S := fun w hB ht => implShow_any k n s a len cap tx w hB h1 h2 h3 h4 ht
  have HC : ∀ w : World, Hid (Bs (Lib.bytesWorld w 5 raw) (some ⟨w.heap.size, 0, none⟩) raw.size (numsOf raw)) := fun w => (Tx.conv w raw 5 hr).1
  have HS : ∀ (w w1 : World) (b : Option Addr) (m : Nat), Nw w1 w.heap.size b m (shownL k n s tx) → Hid (Bs w1 b m (shownL k n s tx)) := fun w w1 b m h => h.bs
  unfold tokV
  generalize shownL k n s tx = X at *
  generalize hN : numsOf raw = Y at *
  clear hN
  have HB2 : ∀ o1 o2, Hid (Bs ((w.alloc o1).alloc o2) a len tx) := fun o1 o2 => hB.below (bl_alloc (bl_a _) _)
  have HT2 : ∀ o1 o2, Hid (Tab ((w.alloc o1).alloc o2)) := fun o1 o2 => ht.below (bl_alloc (bl_a _) _)
  have hd : decide (X = Y) = true := decide_eq_true h
  clear hB ht h
  go_enter Tryz.func139, Tryz.ntmps139
  go_wp2_with fail
  refine (S _ (HB2 _ _).out (HT2 _ _).out).mono ?_
  rintro e w1 ⟨b, c, rfl, hX, hb⟩
  have HX : Hid (Bs (Lib.bytesWorld w1 5 raw) b X.length X) := (HS _ _ _ _ hX).out.below (bytesWorld_below _ _ _)
  have HW : Hid (Below w.heap.size w (Lib.bytesWorld w1 5 raw)) := bl_trans (bl_trans (bl_alloc (bl_a _) _) hb) (bytesWorld_below _ _ _)
  have HY := ((Bx4.new w (.int .i64 k) (.slice a len cap) (.int .i64 n) (.int .i64 s) 24).below (bl_a (.cells #[.int .i64 0, .int .i64 0, .string ⟨#[]⟩, .int .i64 0, .slice none 0 0, .int .i64 0, .int .i64 0] 98))).below (bl_trans hb (bytesWorld_below w1 5 raw))
  have HZ := (Bx7.new (w.alloc (.cells #[.int .i64 k, .slice a len cap, .int .i64 n, .int .i64 s] 24)) (.int .i64 0) (.int .i64 0) (.string ⟨#[]⟩) (.int .i64 0) (.slice none 0 0) (.int .i64 0) (.int .i64 0) 98).below (bl_trans hb (bytesWorld_below w1 5 raw))
  clear hX hb HB2 HT2 S HS
  go_wp2_with fail
  refine (bytesEq_any _ _ _ _ _ _ X Y _ HX.out (HC w1).out).mono ?_
  rintro e w2 ⟨rfl, rfl⟩
  rw [hd]
  clear HX HC hcv
  obtain ⟨⟨a0, a1, a2, a3, a4⟩, f0, f1, f2, f3⟩ := HY
  obtain ⟨⟨b0, b1, b2, b3, b4, b5, b6, b7⟩, g0, g1, g2, g3, g4, g5, g6⟩ := HZ
  simp only [World.size_alloc] at b0 b1 b2 b3 b4 b5 b6 b7 g0 g1 g2 g3 g4 g5 g6
  go_wp2_with fail
  refine bodyPost_ret (v := .agg #[.int .i64 0, .int .i64 p, .string raw, .int .i64 k, .slice a len cap, .int .i64 n, .int .i64 s]) (by simp [results, Tryz.results139, go_sem, *]) rfl ?_
  refine ⟨rfl, ?_⟩
  exact bl_set (bl_set (bl_set (bl_set (bl_set (bl_set (bl_set HW.out (by simp) _) (by simp) _) (by simp) _) (by simp) _) (by simp) _) (by simp) _) (by simp) _
end Go.Proofs.YtoclingolfdfeaaGreatDoor

/- RdG -/
namespace Go.Proofs.YtoclingolfdfeaaGreatDoor
open Go.RowKit Go.Deep
set_option maxRecDepth 100000

/-- The signs, as the program has them. -/
def signS : ByteArray := ⟨#[46, 123, 125, 40, 41, 42, 43, 45, 47, 61, 60, 38, 124]⟩
theorem sign_index : ∀ n : Nat, n < 256 → (decide (0 ≤ Lib.indexByte signS.data.toList n.toUInt8)) = signB (n : Int) := by decide +kernel
theorem isSign_any (b : Int) (w : World) (h0 : 0 ≤ b) (h1 : b ≤ 255) : Calls Tryz.prog 147 #[.string ⟨#[46, 123, 125, 40, 41, 42, 43, 45, 47, 61, 60, 38, 124]⟩, .int .u8 b] w fun e w' => ∃ i : Int, e = .returned (.int .i64 i) ∧ decide (0 ≤ i) = signB b ∧ w' = w := by
  refine (Tryz.strings_IndexByte signS b w).mono ?_
  rintro e w' ⟨rfl, rfl⟩
  refine ⟨_, rfl, ?_, rfl⟩
  have := sign_index b.toNat (by omega)
  rw [Int.toNat_of_nonneg h0] at this
  exact this
theorem hasPrefix_two (t : ByteArray) (c d : UInt8) : Lib.hasPrefix t.data.toList [c, d] = ((numsOf t)[0]? == some (c.toNat : Int) && (numsOf t)[1]? == some (d.toNat : Int)) := by
  have eq : ∀ x y : UInt8, (x == y) = ((y.toNat : Int) == (x.toNat : Int)) := fun x y => by
    rw [Bool.eq_iff_iff, beq_iff_eq, beq_iff_eq]
    constructor
    · rintro rfl; rfl
    · intro h; exact (UInt8.toNat_inj.1 (by omega)).symm
  rw [numsOf_u]
  unfold numsU Lib.hasPrefix
  cases t.data.toList with
  | nil => rfl
  | cons b l =>
    cases l with
    | nil =>
      rw [List.isPrefixOf_cons_cons]
      simp
    | cons b' l =>
      rw [List.isPrefixOf_cons_cons, List.isPrefixOf_cons_cons, eq, eq]
      simp [Option.some_beq_some]
/-- What tokenAt answers at a place. -/
def TokRes (o : Option PT) (p : Nat) (w : World) (e : Ending) (w' : World) : Prop :=
  Below w.heap.size w w' ∧ match o with
  | none => e = refused 2 p
  | some t => ∃ raw a len cap, e = .returned (tokV t.kind p raw t.td.k t.td.n t.td.s a len cap) ∧ numsOf raw = t.raw ∧ Nw w' w.heap.size a len t.td.bs

/-- A sign. -/
theorem tokenAt_sign (s : ByteArray) (p : Nat) (w : World) (R : ByteArray) (b : Int) (hR : s.extract p s.size = R) (hp : p < s.size) (h0 : 0 < R.size) (_hz : R.size ≤ 1048576) (hb : ((R[0].toNat : Nat) : Int) = b) (hb1 : 0 ≤ b) (hb2 : b ≤ 255)
    (d1 : digit b = false) (d2 : (b == 45) = false) (d3 : (b == 60) = false) (d4 : (b == 34) = false) (d5 : (b == 63) = false) (d6 : great b = false) (d7 : Lib.hasPrefix R.data.toList [95, 58] = false) (d8 : signB b = true) :
    Calls Tryz.prog 97 #[.string s, .int .i64 p] w (TokRes (some ⟨3, [b], td0⟩) p w) := by
  have HX : Hid (numsOf (R.extract 0 1) = [b]) := by
    show _ = _
    rw [nums_extract, List.drop_zero, ← List.drop_zero (l := numsOf R), nums_drop R 0 h0, ← hb]
    rfl
  have HP := fun w => Tryz.strings_HasPrefix R ⟨#[95, 58]⟩ w
  rw [show (⟨#[95, 58]⟩ : ByteArray).data.toList = [95, 58] from rfl, d7] at HP
  have IS := fun w => isSign_any b w hb1 hb2
  rw [d8] at IS
  clear d8
  clear d7
  go_enter Tryz.func97, Tryz.ntmps97
  go_wp2_with (first | (go_at_call 67; refine (digit_any _ _).mono ?_; rintro e w1 ⟨rfl, rfl⟩; try rw [hb]; try rw [d1]) | (go_at_call 90; refine (HP _).mono ?_; rintro e w2 ⟨rfl, rfl⟩) | (go_at_call 145; refine (great_any _ _).mono ?_; rintro e w3 ⟨rfl, rfl⟩; try rw [hb]; try rw [d6]) | (go_at_call 147; refine (IS _).mono ?_; rintro e w4 ⟨i, rfl, hi, rfl⟩))
  refine bodyPost_ret (v := .agg #[.int .i64 3, .int .i64 p, .string (R.extract 0 1), .int .i64 0, .slice none 0 0, .int .i64 0, .int .i64 0]) (by simp [results, Tryz.results97, go_sem, *]) rfl ?_
  exact ⟨bl_a _, R.extract 0 1, none, 0, 0, rfl, HX.out, Nw.nil _ _⟩

/-- No token. -/
theorem tokenAt_none (s : ByteArray) (p : Nat) (w : World) (R : ByteArray) (b : Int) (hR : s.extract p s.size = R) (hp : p < s.size) (h0 : 0 < R.size) (_hz : R.size ≤ 1048576) (hb : ((R[0].toNat : Nat) : Int) = b) (hb1 : 0 ≤ b) (hb2 : b ≤ 255)
    (d1 : digit b = false) (d2 : (b == 45) = false) (d3 : (b == 60) = false) (d4 : (b == 34) = false) (d5 : (b == 63) = false) (d6 : great b = false) (d7 : Lib.hasPrefix R.data.toList [95, 58] = false) (d8 : signB b = false) :
    Calls Tryz.prog 97 #[.string s, .int .i64 p] w (TokRes none p w) := by
  have HP := fun w => Tryz.strings_HasPrefix R ⟨#[95, 58]⟩ w
  rw [show (⟨#[95, 58]⟩ : ByteArray).data.toList = [95, 58] from rfl, d7] at HP
  have IS := fun w => isSign_any b w hb1 hb2
  rw [d8] at IS
  clear d8
  clear d7
  go_enter Tryz.func97, Tryz.ntmps97
  go_wp2_with (first | (go_at_call 67; refine (digit_any _ _).mono ?_; rintro e w1 ⟨rfl, rfl⟩; try rw [hb]; try rw [d1]) | (go_at_call 90; refine (HP _).mono ?_; rintro e w2 ⟨rfl, rfl⟩) | (go_at_call 145; refine (great_any _ _).mono ?_; rintro e w3 ⟨rfl, rfl⟩; try rw [hb]; try rw [d6]) | (go_at_call 147; refine (IS _).mono ?_; rintro e w4 ⟨i, rfl, hi, rfl⟩))
  exact ⟨rfl, bl_a _, rfl⟩

/-- A minus that no digit follows. -/
theorem tokenAt_sign45 (s : ByteArray) (p : Nat) (w : World) (R : ByteArray) (b : Int) (hR : s.extract p s.size = R) (hp : p < s.size) (h0 : 0 < R.size) (_hz : R.size ≤ 1048576) (hb : ((R[0].toNat : Nat) : Int) = b) (hb1 : 0 ≤ b) (hb2 : b ≤ 255) (d1 : digit b = false) (d2 : (b == 45) = true) (d3 : (b == 60) = false) (d4 : (b == 34) = false) (d5 : (b == 63) = false) (qd : digitHd ((numsOf R).drop 1) = false) (d6 : great b = false) (d7 : Lib.hasPrefix R.data.toList [95, 58] = false) (d8 : signB b = true) :
    Calls Tryz.prog 97 #[.string s, .int .i64 p] w (TokRes (some ⟨3, [b], td0⟩) p w) := by
  have HX : Hid (numsOf (R.extract 0 1) = [b]) := by
    show _ = _
    rw [nums_extract, List.drop_zero, ← List.drop_zero (l := numsOf R), nums_drop R 0 h0, ← hb]
    rfl
  have HP := fun w => Tryz.strings_HasPrefix R ⟨#[95, 58]⟩ w
  rw [show (⟨#[95, 58]⟩ : ByteArray).data.toList = [95, 58] from rfl, d7] at HP
  have IS := fun w => isSign_any b w hb1 hb2
  rw [d8] at IS
  clear d8
  clear d7
  go_enter Tryz.func97, Tryz.ntmps97
  go_wp2_with (first | (go_at_call 67; refine (digit_any _ _).mono ?_; rintro e w1 ⟨rfl, rfl⟩; try rw [hb]; try rw [d1]) | (go_at_call 137; refine (isDigitAt_any R 1 _).mono ?_; rintro e w1 ⟨rfl, rfl⟩; rw [qd]) | (go_at_call 90; refine (HP _).mono ?_; rintro e w2 ⟨rfl, rfl⟩) | (go_at_call 145; refine (great_any _ _).mono ?_; rintro e w3 ⟨rfl, rfl⟩; try rw [hb]; try rw [d6]) | (go_at_call 147; refine (IS _).mono ?_; rintro e w4 ⟨i, rfl, hi, rfl⟩))
  refine bodyPost_ret (v := .agg #[.int .i64 3, .int .i64 p, .string (R.extract 0 1), .int .i64 0, .slice none 0 0, .int .i64 0, .int .i64 0]) (by simp [results, Tryz.results97, go_sem, *]) rfl ?_
  exact ⟨bl_a _, R.extract 0 1, none, 0, 0, rfl, HX.out, Nw.nil _ _⟩

/-- A word of great letters. -/
theorem tokenAt_word (s : ByteArray) (p : Nat) (w : World) (R : ByteArray) (b : Int) (hR : s.extract p s.size = R) (hp : p < s.size) (h0 : 0 < R.size) (hz : R.size ≤ 1048576) (hb : ((R[0].toNat : Nat) : Int) = b) (_hb1 : 0 ≤ b) (_hb2 : b ≤ 255)
    (d1 : digit b = false) (d2 : (b == 45) = false) (d3 : (b == 60) = false) (d4 : (b == 34) = false) (d5 : (b == 63) = false) (d6 : great b = true) (d7 : Lib.hasPrefix R.data.toList [95, 58] = false) :
    Calls Tryz.prog 97 #[.string s, .int .i64 p] w (TokRes (some ⟨2, (numsOf R).take (greatLen (numsOf R)), td0⟩) p w) := by
  have WL := fun w => wordLength_any R w hz
  have hL := greatLen_le (numsOf R)
  rw [numsOf_len] at hL
  generalize hG : greatLen (numsOf R) = G at *
  have HX : Hid (numsOf (R.extract 0 G) = (numsOf R).take G) := by
    show _ = _
    rw [nums_extract, List.drop_zero, Nat.sub_zero]
  clear hG
  have HP := fun w => Tryz.strings_HasPrefix R ⟨#[95, 58]⟩ w
  rw [show (⟨#[95, 58]⟩ : ByteArray).data.toList = [95, 58] from rfl, d7] at HP
  clear d7
  go_enter Tryz.func97, Tryz.ntmps97
  go_wp2_with (first | (go_at_call 67; refine (digit_any _ _).mono ?_; rintro e w1 ⟨rfl, rfl⟩; try rw [hb]; try rw [d1]) | (go_at_call 90; refine (HP _).mono ?_; rintro e w2 ⟨rfl, rfl⟩) | (go_at_call 145; refine (great_any _ _).mono ?_; rintro e w3 ⟨rfl, rfl⟩; try rw [hb]; try rw [d6]) | (go_at_call 146; refine (WL _).mono ?_; rintro e w4 ⟨rfl, rfl⟩))
  refine bodyPost_ret (v := .agg #[.int .i64 2, .int .i64 p, .string (R.extract 0 G), .int .i64 0, .slice none 0 0, .int .i64 0, .int .i64 0]) (by simp [results, Tryz.results97, go_sem, *]) rfl ?_
  exact ⟨bl_a _, R.extract 0 G, none, 0, 0, rfl, HX.out, Nw.nil _ _⟩

set_option maxHeartbeats 1000000 in
/-- A number that begins with a digit. -/
theorem tokenAt_num (s : ByteArray) (p : Nat) (w : World) (R : ByteArray) (b : Int) (hR : s.extract p s.size = R) (hp : p < s.size) (h0 : 0 < R.size) (hz : R.size ≤ 1048576) (hb : ((R[0].toNat : Nat) : Int) = b) (d1 : digit b = true) (hT : Tab w) (hE : Errs w) (L : List Int) (hL : numsOf (R.extract 0 (1 + pieceLen ((numsOf R).drop 1))) = L) (hL0 : L ≠ []) :
    Calls Tryz.prog 97 #[.string s, .int .i64 p] w (TokRes ((numOf L).map fun q => ⟨0, L, ⟨3, [], q.1, q.2⟩⟩) p w) := by
  have W := fun w => withPiece_any R 1 w h0 hz
  have hrz : (R.extract 0 (1 + pieceLen ((numsOf R).drop 1))).size ≤ 1048576 := by
    rw [← numsOf_len, nums_extract, List.drop_zero, List.length_take, numsOf_len]
    omega
  generalize R.extract 0 (1 + pieceLen ((numsOf R).drop 1)) = raw at *
  have HT1 : Hid (Tab (w.alloc (.cells #[.int .i64 0, .int .i64 0, .string ⟨#[]⟩, .int .i64 0, .slice none 0 0, .int .i64 0, .int .i64 0] 98))) := hT.below (bl_a _)
  have HE1 : Hid (Errs (w.alloc (.cells #[.int .i64 0, .int .i64 0, .string ⟨#[]⟩, .int .i64 0, .slice none 0 0, .int .i64 0, .int .i64 0] 98))) := hE.below (bl_a _)
  have HL : Hid (numsOf raw = L) := hL
  clear hT hE hL
  go_enter Tryz.func97, Tryz.ntmps97
  go_wp2_with (first | (go_at_call 67; refine (digit_any _ _).mono ?_; rintro e w1 ⟨rfl, rfl⟩; try rw [hb]; try rw [d1]))
  refine (W _).mono ?_
  rintro e w1 ⟨rfl, rfl⟩
  go_wp2_with fail
  refine (numberIn_any raw _ hrz HE1.out).mono ?_
  rintro e w2 ⟨k, n, sc, rfl, hk, n1, n2, s1, s2, hn, hb2⟩
  rw [HL.out] at hn
  have BX := (Bx7.new w (.int .i64 0) (.int .i64 0) (.string ⟨#[]⟩) (.int .i64 0) (.slice none 0 0) (.int .i64 0) (.int .i64 0) 98).below hb2
  have HT2 : Hid (Tab w2) := HT1.out.below hb2
  have HW2 : Hid (Below w.heap.size w w2) := bl_trans (bl_a _) hb2
  have hB2 : Bs w2 none 0 [] := ⟨rfl, by omega, by simp, .inl rfl⟩
  clear W HE1 HT1 hb2
  by_cases hsh : shownL k n sc [] = L
  · have hN : numOf L = some (n, sc) := by
      unfold shownL at hsh
      split at hsh
      · rename_i hok
        rcases hk with rfl | rfl
        · refine numOf_some.2 ⟨?_, hsh⟩
          have : termOk 3 [] n sc = numOk n sc := by simp [termOk]
          rw [← this]
          exact hok
        · simp [termOk, nameOk] at hok
      · exact absurd hsh.symm hL0
    have h3 := (hn n sc hN).1
    subst h3
    have HN : Hid (numOf L = some (n, sc)) := hN
    clear hN hn hk
    go_wp2_with fail
    refine (termToken_yes p raw 3 n sc none 0 0 [] w2 hB2 hrz n1 n2 (by omega) (by omega) HT2.out (by rw [HL.out]; exact hsh)).mono ?_
    rintro e w3 ⟨rfl, hb3⟩
    unfold tokV
    have BX := BX.below hb3
    have HW : Hid (Below w.heap.size w w3) := bl_trans HW2.out hb3
    clear hb3 HW2 HT2 hB2 hsh
    obtain ⟨⟨b0, b1, b2, b3, b4, b5, b6, b7⟩, g0, g1, g2, g3, g4, g5, g6⟩ := BX
    go_wp2_with fail
    refine bodyPost_ret (v := .agg #[.int .i64 0, .int .i64 p, .string raw, .int .i64 3, .slice none 0 0, .int .i64 n, .int .i64 sc]) (by simp [results, Tryz.results97, go_sem, *]) rfl ?_
    rw [HN.out]
    refine ⟨?_, raw, none, 0, 0, rfl, HL.out, Nw.nil _ _⟩
    exact bl_set (bl_set (bl_set (bl_set (bl_set (bl_set (bl_set HW.out (Nat.le_refl _) _) (Nat.le_refl _) _) (Nat.le_refl _) _) (Nat.le_refl _) _) (Nat.le_refl _) _) (Nat.le_refl _) _) (Nat.le_refl _) _
  · have hN : numOf L = none := by
      cases h : numOf L with
      | none => rfl
      | some q =>
        obtain ⟨n', s'⟩ := q
        obtain ⟨rfl, rfl, rfl⟩ := hn n' s' h
        have := numOf_some.1 h
        refine absurd ?_ hsh
        unfold shownL
        rw [if_pos (by simp [termOk, this.1]), this.2]
    have HN : Hid (numOf L = none) := hN
    clear hN hn hk
    go_wp2_with fail
    refine (termToken_no p raw k n sc none 0 0 [] w2 hB2 hrz n1 n2 (by omega) (by omega) HT2.out (by rw [HL.out]; exact hsh)).mono ?_
    rintro e w3 ⟨rfl, hb3⟩
    unfold refused
    have HW : Hid (Below w.heap.size w w3) := bl_trans HW2.out hb3
    clear hb3 HW2 HT2 hB2 hsh BX
    go_wp2_with fail
    refine ⟨rfl, HW.out, ?_⟩
    rw [HN.out]
    rfl

set_option maxHeartbeats 1000000 in
/-- A number that begins with a minus. -/
theorem tokenAt_neg (s : ByteArray) (p : Nat) (w : World) (R : ByteArray) (b : Int) (hR : s.extract p s.size = R) (hp : p < s.size) (h0 : 0 < R.size) (hz : R.size ≤ 1048576) (hb : ((R[0].toNat : Nat) : Int) = b) (d1 : digit b = false) (d2 : (b == 45) = true) (qd : digitHd ((numsOf R).drop 1) = true) (hT : Tab w) (hE : Errs w) (L : List Int) (hL : numsOf (R.extract 0 (1 + pieceLen ((numsOf R).drop 1))) = L) (hL0 : L ≠ []) :
    Calls Tryz.prog 97 #[.string s, .int .i64 p] w (TokRes ((numOf L).map fun q => ⟨0, L, ⟨3, [], q.1, q.2⟩⟩) p w) := by
  have W := fun w => withPiece_any R 1 w h0 hz
  have hrz : (R.extract 0 (1 + pieceLen ((numsOf R).drop 1))).size ≤ 1048576 := by
    rw [← numsOf_len, nums_extract, List.drop_zero, List.length_take, numsOf_len]
    omega
  generalize R.extract 0 (1 + pieceLen ((numsOf R).drop 1)) = raw at *
  have HT1 : Hid (Tab (w.alloc (.cells #[.int .i64 0, .int .i64 0, .string ⟨#[]⟩, .int .i64 0, .slice none 0 0, .int .i64 0, .int .i64 0] 98))) := hT.below (bl_a _)
  have HE1 : Hid (Errs (w.alloc (.cells #[.int .i64 0, .int .i64 0, .string ⟨#[]⟩, .int .i64 0, .slice none 0 0, .int .i64 0, .int .i64 0] 98))) := hE.below (bl_a _)
  have HL : Hid (numsOf raw = L) := hL
  clear hT hE hL
  go_enter Tryz.func97, Tryz.ntmps97
  go_wp2_with (first | (go_at_call 67; refine (digit_any _ _).mono ?_; rintro e w1 ⟨rfl, rfl⟩; try rw [hb]; try rw [d1]) | (go_at_call 137; refine (isDigitAt_any R 1 _).mono ?_; rintro e w1 ⟨rfl, rfl⟩; rw [qd]))
  refine (W _).mono ?_
  rintro e w1 ⟨rfl, rfl⟩
  go_wp2_with fail
  refine (numberIn_any raw _ hrz HE1.out).mono ?_
  rintro e w2 ⟨k, n, sc, rfl, hk, n1, n2, s1, s2, hn, hb2⟩
  rw [HL.out] at hn
  have BX := (Bx7.new w (.int .i64 0) (.int .i64 0) (.string ⟨#[]⟩) (.int .i64 0) (.slice none 0 0) (.int .i64 0) (.int .i64 0) 98).below hb2
  have HT2 : Hid (Tab w2) := HT1.out.below hb2
  have HW2 : Hid (Below w.heap.size w w2) := bl_trans (bl_a _) hb2
  have hB2 : Bs w2 none 0 [] := ⟨rfl, by omega, by simp, .inl rfl⟩
  clear W HE1 HT1 hb2
  by_cases hsh : shownL k n sc [] = L
  · have hN : numOf L = some (n, sc) := by
      unfold shownL at hsh
      split at hsh
      · rename_i hok
        rcases hk with rfl | rfl
        · refine numOf_some.2 ⟨?_, hsh⟩
          have : termOk 3 [] n sc = numOk n sc := by simp [termOk]
          rw [← this]
          exact hok
        · simp [termOk, nameOk] at hok
      · exact absurd hsh.symm hL0
    have h3 := (hn n sc hN).1
    subst h3
    have HN : Hid (numOf L = some (n, sc)) := hN
    clear hN hn hk
    go_wp2_with fail
    refine (termToken_yes p raw 3 n sc none 0 0 [] w2 hB2 hrz n1 n2 (by omega) (by omega) HT2.out (by rw [HL.out]; exact hsh)).mono ?_
    rintro e w3 ⟨rfl, hb3⟩
    unfold tokV
    have BX := BX.below hb3
    have HW : Hid (Below w.heap.size w w3) := bl_trans HW2.out hb3
    clear hb3 HW2 HT2 hB2 hsh
    obtain ⟨⟨b0, b1, b2, b3, b4, b5, b6, b7⟩, g0, g1, g2, g3, g4, g5, g6⟩ := BX
    go_wp2_with fail
    refine bodyPost_ret (v := .agg #[.int .i64 0, .int .i64 p, .string raw, .int .i64 3, .slice none 0 0, .int .i64 n, .int .i64 sc]) (by simp [results, Tryz.results97, go_sem, *]) rfl ?_
    rw [HN.out]
    refine ⟨?_, raw, none, 0, 0, rfl, HL.out, Nw.nil _ _⟩
    exact bl_set (bl_set (bl_set (bl_set (bl_set (bl_set (bl_set HW.out (Nat.le_refl _) _) (Nat.le_refl _) _) (Nat.le_refl _) _) (Nat.le_refl _) _) (Nat.le_refl _) _) (Nat.le_refl _) _) (Nat.le_refl _) _
  · have hN : numOf L = none := by
      cases h : numOf L with
      | none => rfl
      | some q =>
        obtain ⟨n', s'⟩ := q
        obtain ⟨rfl, rfl, rfl⟩ := hn n' s' h
        have := numOf_some.1 h
        refine absurd ?_ hsh
        unfold shownL
        rw [if_pos (by simp [termOk, this.1]), this.2]
    have HN : Hid (numOf L = none) := hN
    clear hN hn hk
    go_wp2_with fail
    refine (termToken_no p raw k n sc none 0 0 [] w2 hB2 hrz n1 n2 (by omega) (by omega) HT2.out (by rw [HL.out]; exact hsh)).mono ?_
    rintro e w3 ⟨rfl, hb3⟩
    unfold refused
    have HW : Hid (Below w.heap.size w w3) := bl_trans HW2.out hb3
    clear hb3 HW2 HT2 hB2 hsh BX
    go_wp2_with fail
    refine ⟨rfl, HW.out, ?_⟩
    rw [HN.out]
    rfl
end Go.Proofs.YtoclingolfdfeaaGreatDoor
