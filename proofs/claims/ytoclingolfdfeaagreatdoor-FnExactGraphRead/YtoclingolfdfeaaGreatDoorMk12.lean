/- Texts put together: RdH RdI RdJ RdK -/
import Derived.Test.YtoclingolfdfeaaGreatDoorMk11
import Derived.Test.YtoclingolfdfeaaGreatDoorMk07
import Derived.Test.YtoclingolfdfeaaGreatDoorMk04
import Derived.Test.YtoclingolfdfeaaGreatDoorMk03
import Derived.RangeFuncNested
import Derived.RangeFuncBound
import Derived.RangeFuncCalls
import Derived.RangeFuncLeaves
import Derived.OwnWalkIn
import Derived.TacticsInMore
import Derived.LoopNIn
import Derived.LoopIn
import Derived.OrdersIn
/- RdH -/
namespace Go.Proofs.YtoclingolfdfeaaGreatDoor
open Go.RowKit Go.Deep
set_option maxRecDepth 100000

theorem nw_but {w w' : World} {B g len : Nat} {a : Option Addr} {bs : List Int} (h : Nw w B a len bs) (hb : But g w w') (hg : g < B) : Nw w' B a len bs := by
  rcases h with h | ⟨c, rfl, hc, ho⟩
  · exact .inl h
  · exact .inr ⟨c, rfl, hc, ho.but hb (by omega)⟩

set_option maxHeartbeats 1000000 in
/-- A name. -/
theorem tokenAt_name (s : ByteArray) (p : Nat) (w : World) (R : ByteArray) (b : Int) (hR : s.extract p s.size = R) (hp : p < s.size) (h0 : 0 < R.size) (hz : R.size ≤ 1048576) (hb : ((R[0].toNat : Nat) : Int) = b) (d1 : digit b = false) (d2 : (b == 45) = false) (d3 : (b == 60) = true) (hT : Tab w) (nm : List Int) (hnm : ((numsOf R).drop 1).take (pieceLen ((numsOf R).drop 1)) = nm) (hok : nameOk nm = true) (hgt : ((((numsOf R).drop 1).drop (pieceLen ((numsOf R).drop 1)))[0]? == some 62) = true) :
    Calls Tryz.prog 97 #[.string s, .int .i64 p] w (TokRes (some ⟨0, 60 :: (nm ++ [62]), ⟨0, nm, 0, 0⟩⟩) p w) := by
  have BN := fun w => beginsName_any R w h0 hz
  have W := fun w => withPiece_any R 1 w h0 hz
  have hcv := fun (w : World) (s : ByteArray) => Lib.run_convert_string_bytes (P := Tryz.prog) w 9 22 5 s Tryz.underlying9 Tryz.underlying22 Tryz.underlying5
  rw [hnm, hok, hgt] at BN
  have hPl := pieceLen_le ((numsOf R).drop 1)
  rw [List.length_drop, numsOf_len] at hPl
  generalize pieceLen ((numsOf R).drop 1) = P at *
  have hb60 : b = 60 := by simpa using d3
  have eR : numsOf R = 60 :: (numsOf R).drop 1 := by
    have := nums_drop R 0 h0
    rw [List.drop_zero] at this
    rw [hb60] at hb
    rw [← hb]
    exact this
  have eL : nm.length = P := by
    rw [← hnm, List.length_take, List.length_drop, numsOf_len]
    omega
  have e1 : numsOf (R.extract 0 (1 + P)) = 60 :: nm := by
    rw [nums_extract, List.drop_zero, Nat.sub_zero, eR, Nat.add_comm 1 P, List.take_succ_cons, hnm]
  have e2 : numsOf (R.extract 0 (1 + P) ++ ⟨#[62]⟩) = 60 :: (nm ++ [62]) := by
    rw [numsOf_append, e1]
    rfl
  generalize R.extract 0 (1 + P) = Q at *
  have e3 : Q.size = P + 1 := by rw [← numsOf_len, e1, List.length_cons, eL]
  generalize hraw : Q ++ (⟨#[62]⟩ : ByteArray) = raw at *
  have e4 : raw.size = P + 2 := by rw [← numsOf_len, e2, List.length_cons, List.length_append, eL]; rfl
  have e5 : numsOf (raw.extract 1 (P + 1)) = nm := by
    rw [nums_extract, e2, List.drop_succ_cons, List.drop_zero, show P + 1 - 1 = nm.length by omega, List.take_left]
  have e6 : (raw.extract 1 (P + 1)).size = P := by rw [← numsOf_len, e5, eL]
  have hP12 : P ≤ 12 := by
    simp only [nameOk, Bool.and_eq_true, decide_eq_true_eq] at hok
    omega
  have HT1 : Hid (Tab (w.alloc (.cells #[.int .i64 0, .int .i64 0, .string ⟨#[]⟩, .int .i64 0, .slice none 0 0, .int .i64 0, .int .i64 0] 98))) := hT.below (bl_a _)
  have HR : Hid (numsOf raw = 60 :: (nm ++ [62])) := e2
  have HN : Hid (numsOf (raw.extract 1 (P + 1)) = nm) := e5
  have HSh : Hid (shownL 0 0 0 nm = numsOf raw) := by
    show _ = _
    rw [e2]
    simp [shownL, termOk, hok, showL]
  clear hT hnm hok hgt e1 e2 e5 eR hb60 eL
  go_enter Tryz.func97, Tryz.ntmps97
  go_wp2_with (first | (go_at_call 67; refine (digit_any _ _).mono ?_; rintro e w1 ⟨rfl, rfl⟩; try rw [hb]; try rw [d1]) | (go_at_call 141; refine (BN _).mono ?_; rintro e w5 ⟨rfl, hb5⟩))
  have BX := (Bx7.new w (.int .i64 0) (.int .i64 0) (.string ⟨#[]⟩) (.int .i64 0) (.slice none 0 0) (.int .i64 0) (.int .i64 0) 98).below hb5
  have HT5 : Hid (Tab w5) := HT1.out.below hb5
  have HW5 : Hid (Below w.heap.size w w5) := bl_trans (bl_a _) hb5
  have BX0 := BX.1.1
  clear hb5 HT1 BN
  go_wp2_with fail
  refine (W _).mono ?_
  rintro e w1 ⟨rfl, rfl⟩
  go_wp2_with fail
  have TX := Tx.conv w1 (raw.extract 1 (P + 1)) 5 (by rw [e6]; omega)
  rw [e6, HN.out] at TX
  have HX : Hid (Bs (Lib.bytesWorld w1 5 (raw.extract 1 (P + 1))) (some ⟨w1.heap.size, 0, none⟩) P nm) := TX.1
  have HNw : Hid (Nw (Lib.bytesWorld w1 5 (raw.extract 1 (P + 1))) w1.heap.size (some ⟨w1.heap.size, 0, none⟩) P nm) := TX.nw
  have hbW := bytesWorld_below w1 5 (raw.extract 1 (P + 1))
  have HTW : Hid (Tab (Lib.bytesWorld w1 5 (raw.extract 1 (P + 1)))) := HT5.out.below hbW
  have HWW : Hid (Below w.heap.size w (Lib.bytesWorld w1 5 (raw.extract 1 (P + 1)))) := bl_trans HW5.out hbW
  have BX := BX.below hbW
  have hlt : w.heap.size < w1.heap.size := BX0
  clear TX hbW HT5 HW5 hcv W
  generalize (Lib.bytesWorld w1 5 (raw.extract 1 (P + 1))) = w2 at *
  refine (termToken_yes p raw 0 0 0 (some ⟨w1.heap.size, 0, none⟩) P (grownCap w1 P 0 5) nm w2 HX.out (by omega) (by omega) (by omega) (by omega) (by omega) HTW.out HSh.out).mono ?_
  rintro e w3 ⟨rfl, hb3⟩
  unfold tokV
  have BX := BX.below hb3
  have HW : Hid (Below w.heap.size w w3) := bl_trans HWW.out hb3
  have HN3 : Hid (Nw w3 w1.heap.size (some ⟨w1.heap.size, 0, none⟩) P nm) := HNw.out.below hb3
  clear hb3 HWW HTW HX HNw HSh
  obtain ⟨⟨b0, b1, b2, b3, b4, b5, b6, b7⟩, g0, g1, g2, g3, g4, g5, g6⟩ := BX
  go_wp2_with fail
  refine bodyPost_ret (v := .agg #[.int .i64 0, .int .i64 p, .string raw, .int .i64 0, .slice (some ⟨w1.heap.size, 0, none⟩) P (grownCap w1 P 0 5), .int .i64 0, .int .i64 0]) (by simp [results, Tryz.results97, go_sem, *]) rfl ?_
  refine ⟨?_, raw, some ⟨w1.heap.size, 0, none⟩, P, (grownCap w1 P 0 5), rfl, HR.out, ?_⟩
  · exact bl_set (bl_set (bl_set (bl_set (bl_set (bl_set (bl_set HW.out (Nat.le_refl _) _) (Nat.le_refl _) _) (Nat.le_refl _) _) (Nat.le_refl _) _) (Nat.le_refl _) _) (Nat.le_refl _) _) (Nat.le_refl _) _
  · exact (nw_but HN3.out ((((((((But.refl w.heap.size w3).set 0 _).set 1 _).set 2 _).set 3 _).set 4 _).set 5 _).set 6 _) hlt).mono (Nat.le_of_lt hlt)

set_option maxHeartbeats 1000000 in
/-- A sign that begins no name. -/
theorem tokenAt_sign60 (s : ByteArray) (p : Nat) (w : World) (R : ByteArray) (b : Int) (hR : s.extract p s.size = R) (hp : p < s.size) (h0 : 0 < R.size) (hz : R.size ≤ 1048576) (hb : ((R[0].toNat : Nat) : Int) = b) (hb1 : 0 ≤ b) (hb2 : b ≤ 255) (d1 : digit b = false) (d2 : (b == 45) = false) (d3 : (b == 60) = true) (d4 : (b == 34) = false) (d5 : (b == 63) = false) (d6 : great b = false) (d7 : Lib.hasPrefix R.data.toList [95, 58] = false) (d8 : signB b = true)
    (hno : (nameOk (((numsOf R).drop 1).take (pieceLen ((numsOf R).drop 1))) && ((((numsOf R).drop 1).drop (pieceLen ((numsOf R).drop 1)))[0]? == some 62)) = false) :
    Calls Tryz.prog 97 #[.string s, .int .i64 p] w (TokRes (some ⟨3, [b], td0⟩) p w) := by
  have BN := fun w => beginsName_any R w h0 hz
  rw [hno] at BN
  have HX : Hid (numsOf (R.extract 0 1) = [b]) := by
    show _ = _
    rw [nums_extract, List.drop_zero, ← List.drop_zero (l := numsOf R), nums_drop R 0 h0, ← hb]
    rfl
  have HP := fun w => Tryz.strings_HasPrefix R ⟨#[95, 58]⟩ w
  rw [show (⟨#[95, 58]⟩ : ByteArray).data.toList = [95, 58] from rfl, d7] at HP
  have IS := fun w => isSign_any b w hb1 hb2
  rw [d8] at IS
  clear d8
  clear d7 hno
  go_enter Tryz.func97, Tryz.ntmps97
  go_wp2_with (first | (go_at_call 67; refine (digit_any _ _).mono ?_; rintro e w1 ⟨rfl, rfl⟩; try rw [hb]; try rw [d1]) | (go_at_call 141; refine (BN _).mono ?_; rintro e w5 ⟨rfl, hb5⟩))
  have BX := (Bx7.new w (.int .i64 0) (.int .i64 0) (.string ⟨#[]⟩) (.int .i64 0) (.slice none 0 0) (.int .i64 0) (.int .i64 0) 98).below hb5
  have HW : Hid (Below w.heap.size w w5) := bl_trans (bl_a _) hb5
  clear hb5 BN
  obtain ⟨⟨b0, b1, b2, b3, b4, b5, b6, b7⟩, g0, g1, g2, g3, g4, g5, g6⟩ := BX
  go_wp2_with (first | (go_at_call 90; refine (HP _).mono ?_; rintro e w2 ⟨rfl, rfl⟩) | (go_at_call 145; refine (great_any _ _).mono ?_; rintro e w3 ⟨rfl, rfl⟩; try rw [hb]; try rw [d6]) | (go_at_call 147; refine (IS _).mono ?_; rintro e w4 ⟨i, rfl, hi, rfl⟩))
  refine bodyPost_ret (v := .agg #[.int .i64 3, .int .i64 p, .string (R.extract 0 1), .int .i64 0, .slice none 0 0, .int .i64 0, .int .i64 0]) (by simp [results, Tryz.results97, go_sem, *]) rfl ?_
  refine ⟨?_, R.extract 0 1, none, 0, 0, rfl, HX.out, Nw.nil _ _⟩
  exact bl_set (bl_set (bl_set (bl_set (bl_set (bl_set (bl_set HW.out (Nat.le_refl _) _) (Nat.le_refl _) _) (Nat.le_refl _) _) (Nat.le_refl _) _) (Nat.le_refl _) _) (Nat.le_refl _) _) (Nat.le_refl _) _

theorem qlen_esc (tx r : List Int) : qlen false (esc tx ++ 34 :: r) = (esc tx).length + 1 := by
  induction tx with
  | nil => simp [esc, qlen]
  | cons b tx ih =>
    have e : esc (b :: tx) = (if b = 34 ∨ b = 92 then [92, b] else [b]) ++ esc tx := rfl
    rw [e]
    split
    · simp only [List.cons_append, List.nil_append]
      rw [qlen, if_neg (by omega), if_pos rfl, qlen, ih]
      simp
    · rename_i h
      simp only [List.cons_append, List.nil_append]
      rw [qlen, if_neg (by omega), if_neg (by omega), ih]
      simp
theorem quote_of {r t : List Int} {m : Nat} (h : r.take m = esc t ++ [34]) : quoteF false r = some (t, (esc t).length + 1) ∧ qlen false r = (esc t).length + 1 ∧ r.take ((esc t).length + 1) = esc t ++ [34] := by
  have e : r = esc t ++ 34 :: r.drop m := by
    have := List.take_append_drop m r
    rw [h, List.append_assoc] at this
    exact this.symm
  refine ⟨by rw [e]; exact quoteF_esc _ _, by rw [e]; exact qlen_esc _ _, ?_⟩
  rw [e, List.take_append, List.take_of_length_le (by omega), Nat.add_sub_cancel_left]
  rfl
/-- A text is read just where what it says shows as it is written. -/
theorem quote_read (r : List Int) : ((quoteF false r).bind fun q => if textOk q.1 = true then some (⟨0, 34 :: r.take q.2, ⟨2, q.1, 0, 0⟩⟩ : PT) else none) =
    if shownL 2 0 0 (unq false (r.take (qlen false r))) = 34 :: r.take (qlen false r) then some ⟨0, 34 :: r.take (qlen false r), ⟨2, unq false (r.take (qlen false r)), 0, 0⟩⟩ else none := by
  by_cases h : shownL 2 0 0 (unq false (r.take (qlen false r))) = 34 :: r.take (qlen false r)
  · rw [if_pos h]
    unfold shownL at h
    split at h
    · rename_i hok
      generalize hU : unq false (r.take (qlen false r)) = t at *
      have h2 : r.take (qlen false r) = esc t ++ [34] := by simpa [showL] using h.symm
      have ht : textOk t = true := by simpa [termOk] using hok
      obtain ⟨q1, q2, q3⟩ := quote_of h2
      rw [q1, Option.bind_some, if_pos ht, q2]
    · cases h
  · rw [if_neg h]
    cases hq : quoteF false r with
    | none => rfl
    | some q =>
      obtain ⟨t, m⟩ := q
      rw [Option.bind_some]
      split
      · rename_i ht
        exfalso
        apply h
        have h2 := (quoteF_some r).1 t m hq
        obtain ⟨q1, q2, q3⟩ := quote_of h2
        rw [q2, q3, unq_esc]
        simp [shownL, termOk, ht, showL]
      · rfl

set_option maxHeartbeats 1000000 in
/-- A text. -/
theorem tokenAt_text (s : ByteArray) (p : Nat) (w : World) (R : ByteArray) (b : Int) (hR : s.extract p s.size = R) (hp : p < s.size) (h0 : 0 < R.size) (hz : R.size ≤ 1048576) (hb : ((R[0].toNat : Nat) : Int) = b) (d1 : digit b = false) (d2 : (b == 45) = false) (d3 : (b == 60) = false) (d4 : (b == 34) = true) (hT : Tab w) (r : List Int) (hr : (numsOf R).drop 1 = r) :
    Calls Tryz.prog 97 #[.string s, .int .i64 p] w (TokRes ((quoteF false r).bind fun q => if textOk q.1 = true then some ⟨0, 34 :: r.take q.2, ⟨2, q.1, 0, 0⟩⟩ else none) p w) := by
  rw [quote_read]
  have QL := fun w => quotedLength_any R w h0 hz
  rw [hr] at QL
  have hq := qlen_le r false
  have hrl : r.length = R.size - 1 := by rw [← hr, List.length_drop, numsOf_len]
  generalize qlen false r = m at *
  have hb34 : b = 34 := by simpa using d4
  have eR : numsOf R = 34 :: r := by
    have := nums_drop R 0 h0
    rw [List.drop_zero, hr] at this
    rw [hb34] at hb
    rw [← hb]
    exact this
  have e1 : numsOf (R.extract 0 (1 + m)) = 34 :: r.take m := by
    rw [nums_extract, List.drop_zero, Nat.sub_zero, eR, Nat.add_comm 1 m, List.take_succ_cons]
  have hml : 1 + m ≤ R.size := by omega
  have hml2 : (1 : Int) + (m : Int) ≤ (R.size : Int) := by omega
  have hml3 : (0 : Int) ≤ 1 + (m : Int) := by omega
  generalize hraw : R.extract 0 (1 + m) = raw at *
  have e3 : raw.size = 1 + m := by rw [← numsOf_len, e1, List.length_cons, List.length_take]; omega
  have U := fun w => unquoted_any raw w (by omega) (by omega)
  rw [e1, List.drop_succ_cons, List.drop_zero] at U
  have HL : Hid (numsOf raw = 34 :: r.take m) := e1
  generalize unq false (r.take m) = t at *
  generalize hLL : (34 :: r.take m : List Int) = L at *
  have HT1 : Hid (Tab (w.alloc (.cells #[.int .i64 0, .int .i64 0, .string ⟨#[]⟩, .int .i64 0, .slice none 0 0, .int .i64 0, .int .i64 0] 98))) := hT.below (bl_a _)
  obtain ⟨o, hO⟩ : ∃ o, o = if shownL 2 0 0 t = L then some (⟨0, L, ⟨2, t, 0, 0⟩⟩ : PT) else none := ⟨_, rfl⟩
  rw [← hO]
  have HO : Hid (o = if shownL 2 0 0 t = L then some (⟨0, L, ⟨2, t, 0, 0⟩⟩ : PT) else none) := hO
  clear hT hb34 eR hrl hq e1 hr hLL hO
  go_enter Tryz.func97, Tryz.ntmps97
  go_wp2_with (first | (go_at_call 67; refine (digit_any _ _).mono ?_; rintro e w1 ⟨rfl, rfl⟩; try rw [hb]; try rw [d1]))
  refine (QL _).mono ?_
  rintro e w1 ⟨rfl, rfl⟩
  go_wp2_with fail
  refine (U _).mono ?_
  rintro e w2 ⟨a, cap, rfl, hN, hb2⟩
  have BX := (Bx7.new w (.int .i64 0) (.int .i64 0) (.string ⟨#[]⟩) (.int .i64 0) (.slice none 0 0) (.int .i64 0) (.int .i64 0) 98).below hb2
  have HT2 : Hid (Tab w2) := HT1.out.below hb2
  have HW2 : Hid (Below w.heap.size w w2) := bl_trans (bl_a _) hb2
  have HN : Hid (Nw w2 (w.heap.size + 1) a t.length t) := by show Nw _ _ _ _ _; simpa using hN
  have HBs : Hid (Bs w2 a t.length t) := hN.bs
  clear hb2 hN HT1 U QL
  generalize hN : t.length = N at *
  clear hN
  by_cases hsh : shownL 2 0 0 t = L
  · have hO := HO.out
    rw [if_pos hsh] at hO
    subst hO
    clear HO
    go_wp2_with fail
    refine (termToken_yes p raw 2 0 0 a N cap t w2 HBs.out (by omega) (by omega) (by omega) (by omega) (by omega) HT2.out (by rw [HL.out]; exact hsh)).mono ?_
    rintro e w3 ⟨rfl, hb3⟩
    unfold tokV
    have BX := BX.below hb3
    have HW : Hid (Below w.heap.size w w3) := bl_trans HW2.out hb3
    have HN3 : Hid (Nw w3 (w.heap.size + 1) a N t) := HN.out.below hb3
    clear hb3 HW2 HT2 HBs hsh HN
    obtain ⟨⟨b0, b1, b2, b3, b4, b5, b6, b7⟩, g0, g1, g2, g3, g4, g5, g6⟩ := BX
    go_wp2_with fail
    refine bodyPost_ret (v := .agg #[.int .i64 0, .int .i64 p, .string raw, .int .i64 2, .slice a N cap, .int .i64 0, .int .i64 0]) (by simp [results, Tryz.results97, go_sem, *]) rfl ?_
    refine ⟨?_, raw, a, N, cap, rfl, HL.out, ?_⟩
    · exact bl_set (bl_set (bl_set (bl_set (bl_set (bl_set (bl_set HW.out (Nat.le_refl _) _) (Nat.le_refl _) _) (Nat.le_refl _) _) (Nat.le_refl _) _) (Nat.le_refl _) _) (Nat.le_refl _) _) (Nat.le_refl _) _
    · exact (nw_but HN3.out ((((((((But.refl w.heap.size w3).set 0 _).set 1 _).set 2 _).set 3 _).set 4 _).set 5 _).set 6 _) (Nat.lt_succ_self _)).mono (Nat.le_succ _)
  · have hO := HO.out
    rw [if_neg hsh] at hO
    subst hO
    clear HO
    go_wp2_with fail
    refine (termToken_no p raw 2 0 0 a N cap t w2 HBs.out (by omega) (by omega) (by omega) (by omega) (by omega) HT2.out (by rw [HL.out]; exact hsh)).mono ?_
    rintro e w3 ⟨rfl, hb3⟩
    unfold refused
    have HW : Hid (Below w.heap.size w w3) := bl_trans HW2.out hb3
    clear hb3 HW2 HT2 hsh BX HN HBs
    go_wp2_with fail
    exact ⟨rfl, HW.out, rfl⟩

set_option maxHeartbeats 1000000 in
/-- A blank. -/
theorem tokenAt_blank (s : ByteArray) (p : Nat) (w : World) (R : ByteArray) (b : Int) (hR : s.extract p s.size = R) (hp : p < s.size) (h0 : 0 < R.size) (hz : R.size ≤ 1048576) (hb : ((R[0].toNat : Nat) : Int) = b) (d1 : digit b = false) (d2 : (b == 45) = false) (d3 : (b == 60) = false) (d4 : (b == 34) = false) (d7 : Lib.hasPrefix R.data.toList [95, 58] = true) (h2 : 2 ≤ R.size) (hT : Tab w) (hE : Errs w) (pc : List Int) (hpc : ((numsOf R).drop 2).take (pieceLen ((numsOf R).drop 2)) = pc) (hR2 : (numsOf R).take 2 = [95, 58]) :
    Calls Tryz.prog 97 #[.string s, .int .i64 p] w (TokRes ((blankOf pc).map fun n => ⟨0, 95 :: 58 :: pc, ⟨1, [], n, 0⟩⟩) p w) := by
  have W := fun w => withPiece_any R 2 w h2 hz
  have hPl := pieceLen_le ((numsOf R).drop 2)
  rw [List.length_drop, numsOf_len] at hPl
  generalize pieceLen ((numsOf R).drop 2) = P at *
  have e1 : numsOf (R.extract 0 (2 + P)) = 95 :: 58 :: pc := by
    rw [nums_extract, List.drop_zero, Nat.sub_zero, List.take_add, hR2, hpc]
    rfl
  have hrz : (R.extract 0 (2 + P)).size ≤ 1048576 := by
    rw [← numsOf_len, nums_extract, List.drop_zero, List.length_take, numsOf_len]
    omega
  generalize R.extract 0 (2 + P) = raw at *
  have hr2 : 2 ≤ raw.size := by rw [← numsOf_len, e1]; simp
  have BI := fun w hE => blankIn_any raw w hr2 hrz hE
  rw [e1] at BI
  rw [show (95 :: 58 :: pc : List Int).drop 2 = pc from rfl] at BI
  have HL : Hid (numsOf raw = 95 :: 58 :: pc) := e1
  have HP := fun w => Tryz.strings_HasPrefix R ⟨#[95, 58]⟩ w
  rw [show (⟨#[95, 58]⟩ : ByteArray).data.toList = [95, 58] from rfl, d7] at HP
  have HT1 : Hid (Tab (w.alloc (.cells #[.int .i64 0, .int .i64 0, .string ⟨#[]⟩, .int .i64 0, .slice none 0 0, .int .i64 0, .int .i64 0] 98))) := hT.below (bl_a _)
  have HE1 : Hid (Errs (w.alloc (.cells #[.int .i64 0, .int .i64 0, .string ⟨#[]⟩, .int .i64 0, .slice none 0 0, .int .i64 0, .int .i64 0] 98))) := hE.below (bl_a _)
  clear hT hE e1 hpc hR2 d7
  go_enter Tryz.func97, Tryz.ntmps97
  go_wp2_with (first | (go_at_call 67; refine (digit_any _ _).mono ?_; rintro e w1 ⟨rfl, rfl⟩; try rw [hb]; try rw [d1]) | (go_at_call 90; refine (HP _).mono ?_; rintro e w2 ⟨rfl, rfl⟩))
  refine (W _).mono ?_
  rintro e w1 ⟨rfl, rfl⟩
  go_wp2_with fail
  refine (BI _ HE1.out).mono ?_
  rintro e w2 ⟨k, n, rfl, hk, n1, n2, hn, hb2⟩
  have BX := (Bx7.new w (.int .i64 0) (.int .i64 0) (.string ⟨#[]⟩) (.int .i64 0) (.slice none 0 0) (.int .i64 0) (.int .i64 0) 98).below hb2
  have HT2 : Hid (Tab w2) := HT1.out.below hb2
  have HW2 : Hid (Below w.heap.size w w2) := bl_trans (bl_a _) hb2
  have hB2 : Bs w2 none 0 [] := ⟨rfl, by omega, by simp, .inl rfl⟩
  clear W HE1 HT1 hb2 BI
  by_cases hsh : shownL k n 0 [] = 95 :: 58 :: pc
  · have hN : k = 1 ∧ blankOf pc = some n.toNat ∧ 0 ≤ n := by
      unfold shownL at hsh
      split at hsh
      · rename_i hok
        rcases hk with rfl | rfl
        · have hd : digitsL n.toNat = pc := by simpa [showL] using hsh
          have hok2 : 0 ≤ n ∧ n ≤ 999999 := by simpa [termOk] using hok
          exact ⟨rfl, blankOf_some.2 ⟨by omega, hd⟩, hok2.1⟩
        · simp [termOk, nameOk] at hok
      · cases hsh
    obtain ⟨rfl, hN, hn0⟩ := hN
    have HN : Hid (blankOf pc = some n.toNat) := hN
    clear hN hn hk
    go_wp2_with fail
    refine (termToken_yes p raw 1 n 0 none 0 0 [] w2 hB2 hrz n1 n2 (by omega) (by omega) HT2.out (by rw [HL.out]; exact hsh)).mono ?_
    rintro e w3 ⟨rfl, hb3⟩
    unfold tokV
    have BX := BX.below hb3
    have HW : Hid (Below w.heap.size w w3) := bl_trans HW2.out hb3
    clear hb3 HW2 HT2 hB2 hsh
    obtain ⟨⟨b0, b1, b2, b3, b4, b5, b6, b7⟩, g0, g1, g2, g3, g4, g5, g6⟩ := BX
    go_wp2_with fail
    refine bodyPost_ret (v := .agg #[.int .i64 0, .int .i64 p, .string raw, .int .i64 1, .slice none 0 0, .int .i64 n, .int .i64 0]) (by simp [results, Tryz.results97, go_sem, *]) rfl ?_
    rw [HN.out]
    refine ⟨?_, raw, none, 0, 0, ?_, HL.out, Nw.nil _ _⟩
    · exact bl_set (bl_set (bl_set (bl_set (bl_set (bl_set (bl_set HW.out (Nat.le_refl _) _) (Nat.le_refl _) _) (Nat.le_refl _) _) (Nat.le_refl _) _) (Nat.le_refl _) _) (Nat.le_refl _) _) (Nat.le_refl _) _
    · show Ending.returned _ = Ending.returned (tokV 0 p raw 1 (n.toNat : Int) 0 none 0 0)
      rw [Int.toNat_of_nonneg hn0]
      rfl
  · have hN : blankOf pc = none := by
      cases h : blankOf pc with
      | none => rfl
      | some n' =>
        obtain ⟨rfl, rfl⟩ := hn n' h
        have := blankOf_some.1 h
        refine absurd ?_ hsh
        unfold shownL
        rw [if_pos (by simp [termOk]; omega)]
        simp [showL, this.2]
    have HN : Hid (blankOf pc = none) := hN
    clear hN hn hk
    go_wp2_with fail
    refine (termToken_no p raw k n 0 none 0 0 [] w2 hB2 hrz n1 n2 (by omega) (by omega) HT2.out (by rw [HL.out]; exact hsh)).mono ?_
    rintro e w3 ⟨rfl, hb3⟩
    unfold refused
    have HW : Hid (Below w.heap.size w w3) := bl_trans HW2.out hb3
    clear hb3 HW2 HT2 hB2 hsh BX
    go_wp2_with fail
    refine ⟨rfl, HW.out, ?_⟩
    rw [HN.out]
    rfl
end Go.Proofs.YtoclingolfdfeaaGreatDoor

/- RdI -/
namespace Go.Proofs.YtoclingolfdfeaaGreatDoor
open Go.RowKit Go.Deep
set_option maxRecDepth 100000

set_option maxHeartbeats 1000000 in
/-- A variable. -/
theorem tokenAt_var (s : ByteArray) (p : Nat) (w : World) (R : ByteArray) (b : Int) (hR : s.extract p s.size = R) (hp : p < s.size) (h0 : 0 < R.size) (hz : R.size ≤ 1048576) (hb : ((R[0].toNat : Nat) : Int) = b) (d1 : digit b = false) (d2 : (b == 45) = false) (d3 : (b == 60) = false) (d4 : (b == 34) = false) (d5 : (b == 63) = true) (d7 : Lib.hasPrefix R.data.toList [95, 58] = false) (nm : List Int) (hnm : ((numsOf R).drop 1).take (pieceLen ((numsOf R).drop 1)) = nm) (hok : nameOk nm = true) :
    Calls Tryz.prog 97 #[.string s, .int .i64 p] w (TokRes (some ⟨1, 63 :: nm, td0⟩) p w) := by
  have W := fun w => withPiece_any R 1 w h0 hz
  have hcv := fun (w : World) (s : ByteArray) => Lib.run_convert_string_bytes (P := Tryz.prog) w 9 22 5 s Tryz.underlying9 Tryz.underlying22 Tryz.underlying5
  have hPl := pieceLen_le ((numsOf R).drop 1)
  rw [List.length_drop, numsOf_len] at hPl
  generalize pieceLen ((numsOf R).drop 1) = P at *
  have hb63 : b = 63 := by simpa using d5
  have eR : numsOf R = 63 :: (numsOf R).drop 1 := by
    have := nums_drop R 0 h0
    rw [List.drop_zero] at this
    rw [hb63] at hb
    rw [← hb]
    exact this
  have eL : nm.length = P := by
    rw [← hnm, List.length_take, List.length_drop, numsOf_len]
    omega
  have e1 : numsOf (R.extract 0 (1 + P)) = 63 :: nm := by
    rw [nums_extract, List.drop_zero, Nat.sub_zero, eR, Nat.add_comm 1 P, List.take_succ_cons, hnm]
  generalize R.extract 0 (1 + P) = raw at *
  have e3 : raw.size = 1 + P := by rw [← numsOf_len, e1, List.length_cons, eL]; omega
  have e5 : numsOf (raw.extract 1 (1 + P)) = nm := by
    rw [nums_extract, e1, List.drop_succ_cons, List.drop_zero, show 1 + P - 1 = nm.length by omega, List.take_length]
  have e6 : (raw.extract 1 (1 + P)).size = P := by rw [← numsOf_len, e5, eL]
  have N := fun w : World => isName_any (some ⟨w.heap.size, 0, none⟩) P (grownCap w P 0 5) nm (Lib.bytesWorld w 5 (raw.extract 1 (1 + P))) (by
    have := (Tx.conv w (raw.extract 1 (1 + P)) 5 (by rw [e6]; omega)).1
    rw [e5, e6] at this
    exact this)
  rw [hok] at N
  have N := N (w.alloc (.cells #[.int .i64 0, .int .i64 0, .string ⟨#[]⟩, .int .i64 0, .slice none 0 0, .int .i64 0, .int .i64 0] 98))
  rw [World.size_alloc] at N
  have HR : Hid (numsOf raw = 63 :: nm) := e1
  have HP := fun w => Tryz.strings_HasPrefix R ⟨#[95, 58]⟩ w
  rw [show (⟨#[95, 58]⟩ : ByteArray).data.toList = [95, 58] from rfl, d7] at HP
  have BW := (Bx7.new w (.int .i64 0) (.int .i64 0) (.string ⟨#[]⟩) (.int .i64 0) (.slice none 0 0) (.int .i64 0) (.int .i64 0) 98).below (bytesWorld_below _ 5 (raw.extract 1 (1 + P)))
  have HW : Hid (Below w.heap.size w (Lib.bytesWorld (w.alloc (.cells #[.int .i64 0, .int .i64 0, .string ⟨#[]⟩, .int .i64 0, .slice none 0 0, .int .i64 0, .int .i64 0] 98)) 5 (raw.extract 1 (1 + P)))) := bl_trans (bl_a _) (bytesWorld_below _ _ _)
  generalize hSx : raw.extract 1 (1 + P) = S at *
  have hbb1 : ¬ (1 : Int) + P < 1 := by omega
  have hbb2 : (1 : Int) ≤ 1 + P := by omega
  clear hnm hok e1 e5 eR hb63 eL d7
  go_enter Tryz.func97, Tryz.ntmps97
  go_wp2_with (first | (go_at_call 67; refine (digit_any _ _).mono ?_; rintro e w1 ⟨rfl, rfl⟩; try rw [hb]; try rw [d1]) | (go_at_call 90; refine (HP _).mono ?_; rintro e w2 ⟨rfl, rfl⟩))
  refine (W _).mono ?_
  rintro e w1 ⟨rfl, rfl⟩
  go_wp2_with fail
  refine N.mono ?_
  clear N
  rintro e w2 ⟨rfl, rfl⟩
  generalize Lib.bytesWorld (w.alloc (.cells #[.int .i64 0, .int .i64 0, .string ⟨#[]⟩, .int .i64 0, .slice none 0 0, .int .i64 0, .int .i64 0] 98)) 5 S = w2 at *
  obtain ⟨⟨b0, b1, b2, b3, b4, b5, b6, b7⟩, g0, g1, g2, g3, g4, g5, g6⟩ := BW
  go_wp2_with fail
  refine (W _).mono ?_
  rintro e w5 ⟨rfl, rfl⟩
  go_wp2_with fail
  refine bodyPost_ret (v := .agg #[.int .i64 1, .int .i64 p, .string raw, .int .i64 0, .slice none 0 0, .int .i64 0, .int .i64 0]) (by simp [results, Tryz.results97, go_sem, *]) rfl ?_
  refine ⟨?_, raw, none, 0, 0, rfl, HR.out, Nw.nil _ _⟩
  exact bl_set (bl_set (bl_set (bl_set (bl_set (bl_set (bl_set HW.out (Nat.le_refl _) _) (Nat.le_refl _) _) (Nat.le_refl _) _) (Nat.le_refl _) _) (Nat.le_refl _) _) (Nat.le_refl _) _) (Nat.le_refl _) _

set_option maxHeartbeats 1000000 in
/-- A question mark that begins no variable. -/
theorem tokenAt_none63 (s : ByteArray) (p : Nat) (w : World) (R : ByteArray) (b : Int) (hR : s.extract p s.size = R) (hp : p < s.size) (h0 : 0 < R.size) (hz : R.size ≤ 1048576) (hb : ((R[0].toNat : Nat) : Int) = b) (hb1 : 0 ≤ b) (hb2 : b ≤ 255) (d1 : digit b = false) (d2 : (b == 45) = false) (d3 : (b == 60) = false) (d4 : (b == 34) = false) (d5 : (b == 63) = true) (d7 : Lib.hasPrefix R.data.toList [95, 58] = false) (d6 : great b = false) (d8 : signB b = false) (nm : List Int) (hnm : ((numsOf R).drop 1).take (pieceLen ((numsOf R).drop 1)) = nm) (hok : nameOk nm = false) :
    Calls Tryz.prog 97 #[.string s, .int .i64 p] w (TokRes none p w) := by
  have IS := fun w => isSign_any b w hb1 hb2
  rw [d8] at IS
  clear d8
  have W := fun w => withPiece_any R 1 w h0 hz
  have hcv := fun (w : World) (s : ByteArray) => Lib.run_convert_string_bytes (P := Tryz.prog) w 9 22 5 s Tryz.underlying9 Tryz.underlying22 Tryz.underlying5
  have hPl := pieceLen_le ((numsOf R).drop 1)
  rw [List.length_drop, numsOf_len] at hPl
  generalize pieceLen ((numsOf R).drop 1) = P at *
  have hb63 : b = 63 := by simpa using d5
  have eR : numsOf R = 63 :: (numsOf R).drop 1 := by
    have := nums_drop R 0 h0
    rw [List.drop_zero] at this
    rw [hb63] at hb
    rw [← hb]
    exact this
  have eL : nm.length = P := by
    rw [← hnm, List.length_take, List.length_drop, numsOf_len]
    omega
  have e1 : numsOf (R.extract 0 (1 + P)) = 63 :: nm := by
    rw [nums_extract, List.drop_zero, Nat.sub_zero, eR, Nat.add_comm 1 P, List.take_succ_cons, hnm]
  generalize R.extract 0 (1 + P) = raw at *
  have e3 : raw.size = 1 + P := by rw [← numsOf_len, e1, List.length_cons, eL]; omega
  have e5 : numsOf (raw.extract 1 (1 + P)) = nm := by
    rw [nums_extract, e1, List.drop_succ_cons, List.drop_zero, show 1 + P - 1 = nm.length by omega, List.take_length]
  have e6 : (raw.extract 1 (1 + P)).size = P := by rw [← numsOf_len, e5, eL]
  have N := fun w : World => isName_any (some ⟨w.heap.size, 0, none⟩) P (grownCap w P 0 5) nm (Lib.bytesWorld w 5 (raw.extract 1 (1 + P))) (by
    have := (Tx.conv w (raw.extract 1 (1 + P)) 5 (by rw [e6]; omega)).1
    rw [e5, e6] at this
    exact this)
  rw [hok] at N
  have N := N (w.alloc (.cells #[.int .i64 0, .int .i64 0, .string ⟨#[]⟩, .int .i64 0, .slice none 0 0, .int .i64 0, .int .i64 0] 98))
  rw [World.size_alloc] at N
  have HR : Hid (numsOf raw = 63 :: nm) := e1
  have HP := fun w => Tryz.strings_HasPrefix R ⟨#[95, 58]⟩ w
  rw [show (⟨#[95, 58]⟩ : ByteArray).data.toList = [95, 58] from rfl, d7] at HP
  have BW := (Bx7.new w (.int .i64 0) (.int .i64 0) (.string ⟨#[]⟩) (.int .i64 0) (.slice none 0 0) (.int .i64 0) (.int .i64 0) 98).below (bytesWorld_below _ 5 (raw.extract 1 (1 + P)))
  have HW : Hid (Below w.heap.size w (Lib.bytesWorld (w.alloc (.cells #[.int .i64 0, .int .i64 0, .string ⟨#[]⟩, .int .i64 0, .slice none 0 0, .int .i64 0, .int .i64 0] 98)) 5 (raw.extract 1 (1 + P)))) := bl_trans (bl_a _) (bytesWorld_below _ _ _)
  generalize hSx : raw.extract 1 (1 + P) = S at *
  have hbb1 : ¬ (1 : Int) + P < 1 := by omega
  have hbb2 : (1 : Int) ≤ 1 + P := by omega
  clear hnm hok e1 e5 eR hb63 eL d7
  clear HR
  go_enter Tryz.func97, Tryz.ntmps97
  go_wp2_with (first | (go_at_call 67; refine (digit_any _ _).mono ?_; rintro e w1 ⟨rfl, rfl⟩; try rw [hb]; try rw [d1]) | (go_at_call 90; refine (HP _).mono ?_; rintro e w2 ⟨rfl, rfl⟩))
  refine (W _).mono ?_
  rintro e w1 ⟨rfl, rfl⟩
  go_wp2_with fail
  refine N.mono ?_
  clear N
  rintro e w2 ⟨rfl, rfl⟩
  generalize Lib.bytesWorld (w.alloc (.cells #[.int .i64 0, .int .i64 0, .string ⟨#[]⟩, .int .i64 0, .slice none 0 0, .int .i64 0, .int .i64 0] 98)) 5 S = w2 at *
  obtain ⟨⟨b0, b1, b2, b3, b4, b5, b6, b7⟩, g0, g1, g2, g3, g4, g5, g6⟩ := BW
  go_wp2_with (first | (go_at_call 145; refine (great_any _ _).mono ?_; rintro e w3 ⟨rfl, rfl⟩; try rw [hb]; try rw [d6]) | (go_at_call 147; refine (IS _).mono ?_; rintro e w4 ⟨i, rfl, hi, rfl⟩))
  exact ⟨rfl, HW.out, rfl⟩
end Go.Proofs.YtoclingolfdfeaaGreatDoor

/- RdJ -/
namespace Go.Proofs.YtoclingolfdfeaaGreatDoor
open Go.RowKit Go.Deep
set_option maxRecDepth 100000

theorem tokenAt_any (s : ByteArray) (p : Nat) (w : World) (hp : p < s.size) (hs : s.size ≤ 1048576) (hT : Tab w) (hE : Errs w) :
    Calls Tryz.prog 97 #[.string s, .int .i64 p] w (TokRes (tokOf ((numsOf s).drop p)) p w) := by
  have eS : numsOf (s.extract p s.size) = (numsOf s).drop p := by
    rw [nums_extract, List.take_of_length_le]
    rw [List.length_drop, numsOf_len]
    omega
  rw [← eS]
  have hsz : (s.extract p s.size).size = s.size - p := by rw [← numsOf_len, eS, List.length_drop, numsOf_len]
  generalize hR : s.extract p s.size = R at *
  have h0 : 0 < R.size := by omega
  have hz : R.size ≤ 1048576 := by omega
  clear eS hsz
  have eR := nums_drop R 0 h0
  rw [List.drop_zero, Nat.zero_add] at eR
  have hbb := (nums_byt R).get 0
  rw [nums_at R 0 h0, Option.getD_some] at hbb
  generalize hb : ((R[0].toNat : Nat) : Int) = b at *
  obtain ⟨hb1, hb2⟩ := hbb
  have ePre := hasPrefix_two R 95 58
  generalize hr : (numsOf R).drop 1 = r at *
  have d7 : Lib.hasPrefix R.data.toList [95, 58] = (b == 95 && r[0]? == some 58) := by
    rw [ePre, eR]
    simp [Option.some_beq_some]
  have eP : numsOf (R.extract 0 (1 + pieceLen r)) = b :: r.take (pieceLen r) := by
    rw [nums_extract, List.drop_zero, Nat.sub_zero, eR, Nat.add_comm 1, List.take_succ_cons]
  rw [eR]
  by_cases c1 : digit b = true
  · rw [tokOf, if_pos (by rw [c1]; rfl)]
    exact tokenAt_num s p w R b hR hp h0 hz hb c1 hT hE _ (by rw [hr]; exact eP) (by simp)
  have d1 : digit b = false := by simpa using c1
  by_cases c2 : b = 45
  · have d2 : (b == 45) = true := by simp [c2]
    by_cases c3 : digitHd r = true
    · rw [tokOf, if_pos (by rw [d1, d2, c3]; rfl)]
      exact tokenAt_neg s p w R b hR hp h0 hz hb d1 d2 (by rw [hr]; exact c3) hT hE _ (by rw [hr]; exact eP) (by simp)
    · have d3 : digitHd r = false := by simpa using c3
      rw [tokOf, if_neg (by rw [d1, d2, d3]; decide)]
      have H := tokenAt_sign45 s p w R b hR hp h0 hz hb hb1 hb2 d1 d2 (by rw [c2]; rfl) (by rw [c2]; rfl) (by rw [c2]; rfl) (by rw [hr]; exact d3) (by rw [c2]; rfl) (by rw [d7, c2]; rfl) (by rw [c2]; rfl)
      subst c2
      rw [if_neg (by simp), if_neg (by decide), if_neg (by simp), if_neg (by simp), if_neg (by decide), if_pos (by decide)]
      exact H
  have d2 : (b == 45) = false := by simp [c2]
  rw [tokOf, if_neg (by rw [d1, d2]; simp)]
  by_cases c3 : b = 60
  · have d3 : (b == 60) = true := by simp [c3]
    by_cases c4 : (nameOk (r.take (pieceLen r)) && (r.drop (pieceLen r))[0]? == some 62) = true
    · rw [if_pos (by rw [d3, Bool.true_and]; exact c4)]
      rw [Bool.and_eq_true] at c4
      exact tokenAt_name s p w R b hR hp h0 hz hb d1 d2 d3 hT _ (by rw [hr]) c4.1 (by rw [hr]; exact c4.2)
    · have c4' : (nameOk (r.take (pieceLen r)) && (r.drop (pieceLen r))[0]? == some 62) = false := by simpa using c4
      rw [if_neg (by rw [d3, Bool.true_and, c4']; decide)]
      have H := tokenAt_sign60 s p w R b hR hp h0 hz hb hb1 hb2 d1 d2 d3 (by rw [c3]; rfl) (by rw [c3]; rfl) (by rw [c3]; rfl) (by rw [d7, c3]; rfl) (by rw [c3]; rfl) (by rw [hr]; exact c4')
      subst c3
      rw [if_neg (by decide), if_neg (by simp), if_neg (by simp), if_neg (by decide), if_pos (by decide)]
      exact H
  have d3 : (b == 60) = false := by simp [c3]
  rw [if_neg (by rw [d3]; simp)]
  by_cases c4 : b = 34
  · have d4 : (b == 34) = true := by simp [c4]
    rw [if_pos c4]
    exact tokenAt_text s p w R b hR hp h0 hz hb d1 d2 d3 d4 hT r hr
  have d4 : (b == 34) = false := by simp [c4]
  rw [if_neg c4]
  by_cases c5 : (b == 95 && r[0]? == some 58) = true
  · rw [if_pos c5]
    rw [Bool.and_eq_true, beq_iff_eq, beq_iff_eq] at c5
    obtain ⟨c6, c7⟩ := c5
    have hr1 : 0 < r.length := by
      apply Classical.byContradiction
      intro h
      rw [List.getElem?_eq_none (by omega)] at c7
      cases c7
    obtain ⟨r', rfl⟩ : ∃ r', r = 58 :: r' := by
      cases r with
      | nil => simp at hr1
      | cons x r' =>
        have : x = 58 := by simpa using c7
        exact ⟨r', by rw [this]⟩
    have e2 : (numsOf R).drop 2 = r' := by rw [eR]; rfl
    have h2 : 2 ≤ R.size := by rw [← numsOf_len, eR]; simp
    exact tokenAt_blank s p w R b hR hp h0 hz hb d1 d2 d3 d4 (by rw [d7, c6]; rfl) h2 hT hE _ (by rw [e2]; rfl) (by rw [eR, c6]; rfl)
  have c5' : (b == 95 && r[0]? == some 58) = false := by simpa using c5
  rw [if_neg c5]
  have d7' : Lib.hasPrefix R.data.toList [95, 58] = false := by rw [d7]; exact c5'
  by_cases c6 : b = 63
  · have d5 : (b == 63) = true := by simp [c6]
    by_cases c7 : nameOk (r.take (pieceLen r)) = true
    · rw [if_pos (by rw [d5, c7]; rfl)]
      exact tokenAt_var s p w R b hR hp h0 hz hb d1 d2 d3 d4 d5 d7' _ (by rw [hr]) c7
    · have c7' : nameOk (r.take (pieceLen r)) = false := by simpa using c7
      rw [if_neg (by rw [d5, c7']; decide)]
      have H := tokenAt_none63 s p w R b hR hp h0 hz hb hb1 hb2 d1 d2 d3 d4 d5 d7' (by rw [c6]; rfl) (by rw [c6]; rfl) _ (by rw [hr]) c7'
      subst c6
      rw [if_neg (by decide), if_neg (by decide)]
      exact H
  have d5 : (b == 63) = false := by simp [c6]
  rw [if_neg (by rw [d5]; simp)]
  by_cases c7 : great b = true
  · rw [if_pos c7]
    have H := tokenAt_word s p w R b hR hp h0 hz hb hb1 hb2 d1 d2 d3 d4 d5 c7 d7'
    rw [eR] at H
    exact H
  have d6 : great b = false := by simpa using c7
  rw [if_neg c7]
  by_cases c8 : signB b = true
  · rw [if_pos c8]
    exact tokenAt_sign s p w R b hR hp h0 hz hb hb1 hb2 d1 d2 d3 d4 d5 d6 d7' c8
  · rw [if_neg c8]
    exact tokenAt_none s p w R b hR hp h0 hz hb hb1 hb2 d1 d2 d3 d4 d5 d6 d7' (by simpa using c8)
end Go.Proofs.YtoclingolfdfeaaGreatDoor

/- RdK -/
namespace Go.Proofs.YtoclingolfdfeaaGreatDoor
open Go.RowKit Go.Deep
set_option maxRecDepth 100000

theorem oper_round {P : Program} {r n : Nat} {o : Oper} {a : Act} {w : World} {K : Act → World → Prop} {Q : Exit → Act → World → Prop} (hd : ∀ c, o.op ≠ .defer c) (h : o.wp P a w K Q) : o.wpIn (Fence.wide.inRound r) n P a w K Q := by
  refine ⟨fun _ _ => trivial, ?_⟩
  rw [show (Fence.wide.inRound r).round = some r from rfl, Oper.semAt_eq _ _ _ hd]
  unfold Oper.wp at h
  generalize (execOp a.eval o).run P w = res at *
  cases res with
  | ok x w' =>
    cases x with
    | value v => exact h
    | skip => exact h
    | defer d => exact h
    | enter f args => exact ⟨fun hz => Bool.noConfusion hz, CallsIn.inRound r (callsIn_wide.2 h)⟩
    | row row args =>
      refine ⟨fun hz => Bool.noConfusion hz, fun c cs _ => ?_⟩
      obtain ⟨v, w'', hq, hs⟩ := h c cs
      exact ⟨v, w'', hq, stepsIn_wide.2 hs⟩
    | round l f tmps assign body => exact h.elim
    | _ => exact h.elim
  | halt x w' => cases x <;> exact h
theorem any_round {P : Program} {r n : Nat} {md : Region.Mode} {ops : Array Oper} {Q : Exit → Act → World → Prop} (hnd : ∀ (i : Nat) o, ops[i]? = some o → ∀ c, o.op ≠ .defer c) (hno : ¬ LetsOut Q) :
    ∀ (fuel : Nat) (listed : Array Bool) (a : Act) (w : World), wpAny P md ops Q fuel listed a w → wpAnyIn (Fence.wide.inRound r) n P md ops Q fuel listed a w
  | 0, _, _, _, h => h
  | fuel + 1, listed, a, w, h => ⟨h.1, fun i hi => by
    have h2 := wpOp_mono (fun a' w' h' => any_round (r := r) (n := n) hnd hno fuel (listed.setIfInBounds i true) a' w' h') (h.2 i hi)
    unfold wpOp at h2
    unfold wpOpIn
    split at h2
    · rename_i e
      rw [e]
      exact h2
    · rename_i o e
      rw [e]
      simp only
      split at h2
      · rename_i hw
        rw [if_pos hw]
        rcases h2 with h2 | h2
        · exact oper_round (hnd i o e) h2
        · exact absurd h2.2 hno
      · rename_i hw
        rw [if_neg hw]
        exact ⟨fun _ _ => trivial, h2⟩⟩
def noDefer (ops : Array Oper) : Bool := ops.all fun o => match o.op with
  | .defer _ => false
  | _ => true
theorem noDefer_spec {ops : Array Oper} (h : noDefer ops = true) (i : Nat) (o : Oper) (ho : ops[i]? = some o) (c : Call) : o.op ≠ .defer c := by
  intro e
  unfold noDefer at h
  rw [Array.all_eq_true_iff_forall_mem] at h
  have := h o (Array.mem_of_getElem? ho)
  rw [e] at this
  cases this
/-- A region that draws its order, within a round. -/
theorem region_round {P : Program} {r n id : Nat} {ops : Array Oper} {Q : Exit → Act → World → Prop} {a : Act} {w : World} (S : World → Prop) (hm : P.follows .mixedOrders = true) (hnd : noDefer ops = true) (hno : ¬ LetsOut Q) (hS : S w.drew)
    (h : S w.drew → wpAnyH P .any ops Q S ops.size (Array.replicate ops.size false) a w.drew) : (Code.region id ops true).wpIn (Fence.wide.inRound r) n P Q a w :=
  wpIn_region_any hm (any_round (noDefer_spec hnd) hno _ _ _ _ (wpAny_of_held _ _ _ _ (h hS)))

/-- A token with its term's text. -/
structure TV where
  kind : Nat
  p : Nat
  raw : ByteArray
  t : TB
def TV.pt (x : TV) : Nat × PT := (x.p, ⟨x.kind, numsOf x.raw, x.t.td⟩)
def e7 (x : TV) : List Value := [.int .i64 x.kind, .int .i64 x.p, .string x.raw, .int .i64 x.t.t.k, .slice x.t.t.a x.t.t.len x.t.t.cap, .int .i64 x.t.t.n, .int .i64 x.t.t.s]
theorem e7_len (x : TV) : (e7 x).length = 7 := rfl
def flatK (l : List TV) : List Value := l.flatMap e7
theorem flatK_len (l : List TV) : (flatK l).length = l.length * 7 := flatMap_len e7 7 e7_len l
theorem flatK_append (l m : List TV) : flatK (l ++ m) = flatK l ++ flatK m := by simp [flatK]
theorem flatK_get (l : List TV) (i c : Nat) (hi : i < l.length) (hc : c < 7) : (flatK l)[i * 7 + c]? = (e7 l[i])[c]? := flatMap_get e7 7 e7_len l i c hi hc
theorem flatK_one (l : List TV) : ∀ u ∈ flatK l, u.oneCell' = true := by
  intro u hu
  obtain ⟨x, _, hx⟩ := List.mem_flatMap.1 hu
  simp only [e7, List.mem_cons, List.not_mem_nil, or_false] at hx
  rcases hx with rfl | rfl | rfl | rfl | rfl | rfl | rfl <;> rfl
/-- A row of tokens of the call's own, or none as yet. -/
def OwnK (w : World) (B : Nat) (v : Value) (l : List TV) : Prop := w.ownsRow B 98 7 v l.length (flatK l) ∧ ∀ g, v.ownBlock = some g → B ≤ g ∧ g < w.heap.size
theorem OwnK.nil (w : World) (B : Nat) : OwnK w B (.slice none 0 0) [] := ⟨World.ownsRow_nil _ _ _ _, fun g h => by cases h⟩
theorem OwnK.same {w w' : World} {B : Nat} {v : Value} {l : List TV} (h : OwnK w B v l) (hs : w.heap.size ≤ w'.heap.size) (hb : ∀ g, v.ownBlock = some g → w'.heap[g]? = w.heap[g]?) : OwnK w' B v l := by
  obtain ⟨⟨h1, h2⟩, hl⟩ := h
  refine ⟨⟨h1, ?_⟩, fun c hc => ⟨(hl c hc).1, Nat.lt_of_lt_of_le (hl c hc).2 hs⟩⟩
  rcases h2 with h2 | ⟨g', cap', cur, hv, hB, hh, r⟩
  · exact .inl h2
  · refine .inr ⟨g', cap', cur, hv, hB, ?_, r⟩
    rw [hb g' (by rw [hv]; rfl)]
    exact hh
theorem OwnK.below {w w' : World} {B : Nat} {v : Value} {l : List TV} (h : OwnK w B v l) (hb : Below w.heap.size w w') : OwnK w' B v l :=
  h.same hb.size fun g hg => hb.block g (h.2 g hg).2
/-- Its form: nil, or a block whose cells are the tokens'. -/
theorem OwnK.form {w : World} {B : Nat} {v : Value} {l : List TV} (h : OwnK w B v l) : (v = .slice none 0 0 ∧ l = []) ∨ ∃ g cap, v = .slice (some ⟨g, 0, none⟩) l.length cap ∧ B ≤ g ∧ g < w.heap.size ∧ l.length ≤ cap ∧ ∀ j u, (flatK l)[j]? = some u → w.cell? ⟨g, j, none⟩ = some u := by
  rcases h.1.2 with ⟨hv, h0⟩ | ⟨g, cap, cur, hv, hB, hh, hle, _, hsz, htk⟩
  · exact .inl ⟨hv, List.eq_nil_of_length_eq_zero h0⟩
  · refine .inr ⟨g, cap, hv, hB, (h.2 g (by rw [hv]; rfl)).2, hle, fun j u hu => ?_⟩
    have hj := (List.getElem?_eq_some_iff.1 hu).1
    rw [flatK_len] at hj
    rw [← htk, List.getElem?_take, if_pos hj] at hu
    simp only [World.cell?, hh]
    simpa using hu
theorem Tryz.infoK98 : (Tryz.prog.info? 98).map (fun i => (i.zero, i.size, i.bytes)) = some (some (.agg #[.int .i64 0, .int .i64 0, .string ⟨#[]⟩, .int .i64 0, .slice none 0 0, .int .i64 0, .int .i64 0]), 7, 80) := by kernel_rfl
/-- append of a token to a row of the call's own, within a region that draws its order. -/
theorem stepK {ops : Array Oper} {o : Oper} {a : Act} {K : Act → World → Prop} {Q : Exit → Act → World → Prop} {E : Prop} {w : World} (hgd : o.guard = none) (s x : Operand)
    (ho : o.op = .call { callee := .builtin .append, args := #[s, x], argTypes := #[91, 91] })
    (B : Nat) (v : Value) (us : List TV) (hs : a.eval s = v) (HO : Hid (OwnK w B v us))
    (ad : Addr) (c : Nat) (y : TV) (hx : a.eval x = .slice (some ad) 1 c) (HN : Hid (∀ j u, (flatK [y])[j]? = some u → w.cell? (ad.add j) = some u))
    (hle : us.length + 1 ≤ 1000000000) (hB : B ≤ w.heap.size)
    (h : ∀ g cap w', Hid (OwnK w' B (.slice (some ⟨g, 0, none⟩) (us.length + 1) cap) (us ++ [y])) → Hid (w.grownBy w' v.ownBlock) → Hid (v.ownBlock = some g ∨ g = w.heap.size) → K (a.put o.dst (.slice (some ⟨g, 0, none⟩) (us.length + 1) cap)) w') :
    if Region.wanted o (yielded ops a.tmps) = true then Oper.wp Tryz.prog o a w K Q else E := by
  obtain ⟨i0, hi0, hzz⟩ := Option.map_eq_some_iff.1 Tryz.infoK98
  simp only [Prod.mk.injEq] at hzz
  obtain ⟨hi2, hi1, hi3⟩ := hzz
  refine step_append_lies _ hgd s x 91 ho B 98 i0 _ 7 80 Tryz.underlying91 hi0 hi2 hi1 hi3 rfl (by omega) v us.length (flatK us) hs HO.out.1 ad 1 c (flatK [y]) hx (by rw [flatK_len]; rfl) HN.out (flatK_one [y]) (by omega) (by unfold maxLen; omega) (by omega) hB _ rfl ?_
  intro g cap w' hown hgr hat hlt
  have hown' : w'.ownsRow B 98 7 (.slice (some ⟨g, 0, none⟩) (us.length + 1) cap) (us ++ [y]).length (flatK (us ++ [y])) := by
    rw [flatK_append, List.length_append]
    exact hown
  refine h g cap w' ⟨hown', fun g' hg' => ?_⟩ hgr hat
  have : g = g' := by simpa [Value.ownBlock] using hg'
  subst this
  rcases hown.2 with ⟨hv, _⟩ | ⟨g0, c0, cur, hv, hb, _⟩
  · cases hv
  · cases hv; exact ⟨hb, hlt⟩
theorem newsK (w : World) (x : TV) (t : TypeId) : ∀ j u, (flatK [x])[j]? = some u → (w.alloc (.cells (e7 x).toArray t)).cell? ((⟨w.heap.size, 0, none⟩ : Addr).add j) = some u := by
  intro j u hj
  have ea : (⟨w.heap.size, 0, none⟩ : Addr).add j = ⟨w.heap.size, j, none⟩ := by
    by_cases h0 : j = 0 <;> simp [Addr.add, h0]
  have hj' : (e7 x)[j]? = some u := by simpa [flatK] using hj
  rw [ea]
  simp only [go_sem]
  simpa using hj'
end Go.Proofs.YtoclingolfdfeaaGreatDoor
