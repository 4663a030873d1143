/- Texts put together: RdI RdJ RdK RdL RdM -/
import Derived.Test.YtoclingolfdfeaaGreatDoorMk09
import Derived.Test.YtoclingolfdfeaaGreatDoorMk04
import Derived.RangeFuncNested
import Derived.RangeFuncBound
import Derived.RangeFuncCalls
import Derived.RangeFuncLeaves
import Derived.OwnWalkIn
import Derived.TacticsInMore
import Derived.LoopNIn
import Derived.LoopIn
import Derived.OrdersIn
import Derived.Shelf.Abstract
import Derived.Shelf.RegionOpen
/- RdI -/
namespace Go.Proofs.YtoclingolfdfeaaGreatDoor
open Go.RowKit Go.Deep
set_option maxRecDepth 100000

set_option maxHeartbeats 1000000 in
/-- A variable. -/
theorem tokenAt_var (s : ByteArray) (p : Nat) (w : World) (R : ByteArray) (b : Int) (hR : s.extract p s.size = R) (hp : p < s.size) (h0 : 0 < R.size) (hz : R.size ≤ 1048576) (hb : ((R[0].toNat : Nat) : Int) = b) (d1 : digit b = false) (d2 : (b == 45) = false) (d3 : (b == 60) = false) (d4 : (b == 34) = false) (d5 : (b == 63) = true) (d7 : Lib.hasPrefix R.data.toList [95, 58] = false) (nm : List Int) (hnm : ((numsOf R).drop 1).take (pieceLen ((numsOf R).drop 1)) = nm) (hok : nameOk nm = true) :
    Calls Tryz.prog 97 #[.string s, .int .i64 p] w (TokRes (some ⟨1, 63 :: nm, td0⟩) p w) := by
  have W := fun w => withPiece_any R 1 w h0 hz
  have hcv := fun (w : World) (s : ByteArray) => Lib.run_convert_string_bytes (P := Tryz.prog) w 9 22 5 s Tryz.underlying9 Tryz.underlying22 Tryz.underlying5
  have hPl := pieceLen_le ((numsOf R).drop 1)
  rw [List.length_drop, numsOf_len] at hPl
  generalize pieceLen ((numsOf R).drop 1) = P at *
  have hb63 : b = 63 := by simpa using d5
  have eR : numsOf R = 63 :: (numsOf R).drop 1 := by
    have := nums_drop R 0 h0
    rw [List.drop_zero] at this
    rw [hb63] at hb
    rw [← hb]
    exact this
  have eL : nm.length = P := by
    rw [← hnm, List.length_take, List.length_drop, numsOf_len]
    omega
  have e1 : numsOf (R.extract 0 (1 + P)) = 63 :: nm := by
    rw [nums_extract, List.drop_zero, Nat.sub_zero, eR, Nat.add_comm 1 P, List.take_succ_cons, hnm]
  generalize R.extract 0 (1 + P) = raw at *
  have e3 : raw.size = 1 + P := by rw [← numsOf_len, e1, List.length_cons, eL]; omega
  have e5 : numsOf (raw.extract 1 (1 + P)) = nm := by
    rw [nums_extract, e1, List.drop_succ_cons, List.drop_zero, show 1 + P - 1 = nm.length by omega, List.take_length]
  have e6 : (raw.extract 1 (1 + P)).size = P := by rw [← numsOf_len, e5, eL]
  have N := fun w : World => isName_any (some ⟨w.heap.size, 0, none⟩) P (grownCap w P 0 5) nm (Lib.bytesWorld w 5 (raw.extract 1 (1 + P))) (by
    have := (Tx.conv w (raw.extract 1 (1 + P)) 5 (by rw [e6]; omega)).1
    rw [e5, e6] at this
    exact this)
  rw [hok] at N
  have N := N (w.alloc (.cells #[.int .i64 0, .int .i64 0, .string ⟨#[]⟩, .int .i64 0, .slice none 0 0, .int .i64 0, .int .i64 0] 98))
  rw [World.size_alloc] at N
  have HR : Hid (numsOf raw = 63 :: nm) := e1
  have HP := fun w => Tryz.strings_HasPrefix R ⟨#[95, 58]⟩ w
  rw [show (⟨#[95, 58]⟩ : ByteArray).data.toList = [95, 58] from rfl, d7] at HP
  have BW := (Bx7.new w (.int .i64 0) (.int .i64 0) (.string ⟨#[]⟩) (.int .i64 0) (.slice none 0 0) (.int .i64 0) (.int .i64 0) 98).below (bytesWorld_below _ 5 (raw.extract 1 (1 + P)))
  have HW : Hid (Below w.heap.size w (Lib.bytesWorld (w.alloc (.cells #[.int .i64 0, .int .i64 0, .string ⟨#[]⟩, .int .i64 0, .slice none 0 0, .int .i64 0, .int .i64 0] 98)) 5 (raw.extract 1 (1 + P)))) := bl_trans (bl_a _) (bytesWorld_below _ _ _)
  generalize hSx : raw.extract 1 (1 + P) = S at *
  have hbb1 : ¬ (1 : Int) + P < 1 := by omega
  have hbb2 : (1 : Int) ≤ 1 + P := by omega
  clear hnm hok e1 e5 eR hb63 eL d7
  go_enter Tryz.func97, Tryz.ntmps97
  go_wp2_with (first | (go_at_call 67; refine (digit_any _ _).mono ?_; rintro e w1 ⟨rfl, rfl⟩; try rw [hb]; try rw [d1]) | (go_at_call 90; refine (HP _).mono ?_; rintro e w2 ⟨rfl, rfl⟩))
  refine (W _).mono ?_
  rintro e w1 ⟨rfl, rfl⟩
  go_wp2_with fail
  refine N.mono ?_
  clear N
  rintro e w2 ⟨rfl, rfl⟩
  generalize Lib.bytesWorld (w.alloc (.cells #[.int .i64 0, .int .i64 0, .string ⟨#[]⟩, .int .i64 0, .slice none 0 0, .int .i64 0, .int .i64 0] 98)) 5 S = w2 at *
  obtain ⟨⟨b0, b1, b2, b3, b4, b5, b6, b7⟩, g0, g1, g2, g3, g4, g5, g6⟩ := BW
  go_wp2_with fail
  refine (W _).mono ?_
  rintro e w5 ⟨rfl, rfl⟩
  go_wp2_with fail
  refine bodyPost_ret (v := .agg #[.int .i64 1, .int .i64 p, .string raw, .int .i64 0, .slice none 0 0, .int .i64 0, .int .i64 0]) (by simp [results, Tryz.results97, go_sem, *]) rfl ?_
  refine ⟨?_, raw, none, 0, 0, rfl, HR.out, Nw.nil _ _⟩
  exact bl_set (bl_set (bl_set (bl_set (bl_set (bl_set (bl_set HW.out (Nat.le_refl _) _) (Nat.le_refl _) _) (Nat.le_refl _) _) (Nat.le_refl _) _) (Nat.le_refl _) _) (Nat.le_refl _) _) (Nat.le_refl _) _

set_option maxHeartbeats 1000000 in
/-- A question mark that begins no variable. -/
theorem tokenAt_none63 (s : ByteArray) (p : Nat) (w : World) (R : ByteArray) (b : Int) (hR : s.extract p s.size = R) (hp : p < s.size) (h0 : 0 < R.size) (hz : R.size ≤ 1048576) (hb : ((R[0].toNat : Nat) : Int) = b) (hb1 : 0 ≤ b) (hb2 : b ≤ 255) (d1 : digit b = false) (d2 : (b == 45) = false) (d3 : (b == 60) = false) (d4 : (b == 34) = false) (d5 : (b == 63) = true) (d7 : Lib.hasPrefix R.data.toList [95, 58] = false) (d6 : great b = false) (d8 : signB b = false) (nm : List Int) (hnm : ((numsOf R).drop 1).take (pieceLen ((numsOf R).drop 1)) = nm) (hok : nameOk nm = false) :
    Calls Tryz.prog 97 #[.string s, .int .i64 p] w (TokRes none p w) := by
  have IS := fun w => isSign_any b w hb1 hb2
  rw [d8] at IS
  clear d8
  have W := fun w => withPiece_any R 1 w h0 hz
  have hcv := fun (w : World) (s : ByteArray) => Lib.run_convert_string_bytes (P := Tryz.prog) w 9 22 5 s Tryz.underlying9 Tryz.underlying22 Tryz.underlying5
  have hPl := pieceLen_le ((numsOf R).drop 1)
  rw [List.length_drop, numsOf_len] at hPl
  generalize pieceLen ((numsOf R).drop 1) = P at *
  have hb63 : b = 63 := by simpa using d5
  have eR : numsOf R = 63 :: (numsOf R).drop 1 := by
    have := nums_drop R 0 h0
    rw [List.drop_zero] at this
    rw [hb63] at hb
    rw [← hb]
    exact this
  have eL : nm.length = P := by
    rw [← hnm, List.length_take, List.length_drop, numsOf_len]
    omega
  have e1 : numsOf (R.extract 0 (1 + P)) = 63 :: nm := by
    rw [nums_extract, List.drop_zero, Nat.sub_zero, eR, Nat.add_comm 1 P, List.take_succ_cons, hnm]
  generalize R.extract 0 (1 + P) = raw at *
  have e3 : raw.size = 1 + P := by rw [← numsOf_len, e1, List.length_cons, eL]; omega
  have e5 : numsOf (raw.extract 1 (1 + P)) = nm := by
    rw [nums_extract, e1, List.drop_succ_cons, List.drop_zero, show 1 + P - 1 = nm.length by omega, List.take_length]
  have e6 : (raw.extract 1 (1 + P)).size = P := by rw [← numsOf_len, e5, eL]
  have N := fun w : World => isName_any (some ⟨w.heap.size, 0, none⟩) P (grownCap w P 0 5) nm (Lib.bytesWorld w 5 (raw.extract 1 (1 + P))) (by
    have := (Tx.conv w (raw.extract 1 (1 + P)) 5 (by rw [e6]; omega)).1
    rw [e5, e6] at this
    exact this)
  rw [hok] at N
  have N := N (w.alloc (.cells #[.int .i64 0, .int .i64 0, .string ⟨#[]⟩, .int .i64 0, .slice none 0 0, .int .i64 0, .int .i64 0] 98))
  rw [World.size_alloc] at N
  have HR : Hid (numsOf raw = 63 :: nm) := e1
  have HP := fun w => Tryz.strings_HasPrefix R ⟨#[95, 58]⟩ w
  rw [show (⟨#[95, 58]⟩ : ByteArray).data.toList = [95, 58] from rfl, d7] at HP
  have BW := (Bx7.new w (.int .i64 0) (.int .i64 0) (.string ⟨#[]⟩) (.int .i64 0) (.slice none 0 0) (.int .i64 0) (.int .i64 0) 98).below (bytesWorld_below _ 5 (raw.extract 1 (1 + P)))
  have HW : Hid (Below w.heap.size w (Lib.bytesWorld (w.alloc (.cells #[.int .i64 0, .int .i64 0, .string ⟨#[]⟩, .int .i64 0, .slice none 0 0, .int .i64 0, .int .i64 0] 98)) 5 (raw.extract 1 (1 + P)))) := bl_trans (bl_a _) (bytesWorld_below _ _ _)
  generalize hSx : raw.extract 1 (1 + P) = S at *
  have hbb1 : ¬ (1 : Int) + P < 1 := by omega
  have hbb2 : (1 : Int) ≤ 1 + P := by omega
  clear hnm hok e1 e5 eR hb63 eL d7
  clear HR
  go_enter Tryz.func97, Tryz.ntmps97
  go_wp2_with (first | (go_at_call 67; refine (digit_any _ _).mono ?_; rintro e w1 ⟨rfl, rfl⟩; try rw [hb]; try rw [d1]) | (go_at_call 90; refine (HP _).mono ?_; rintro e w2 ⟨rfl, rfl⟩))
  refine (W _).mono ?_
  rintro e w1 ⟨rfl, rfl⟩
  go_wp2_with fail
  refine N.mono ?_
  clear N
  rintro e w2 ⟨rfl, rfl⟩
  generalize Lib.bytesWorld (w.alloc (.cells #[.int .i64 0, .int .i64 0, .string ⟨#[]⟩, .int .i64 0, .slice none 0 0, .int .i64 0, .int .i64 0] 98)) 5 S = w2 at *
  obtain ⟨⟨b0, b1, b2, b3, b4, b5, b6, b7⟩, g0, g1, g2, g3, g4, g5, g6⟩ := BW
  go_wp2_with (first | (go_at_call 145; refine (great_any _ _).mono ?_; rintro e w3 ⟨rfl, rfl⟩; try rw [hb]; try rw [d6]) | (go_at_call 147; refine (IS _).mono ?_; rintro e w4 ⟨i, rfl, hi, rfl⟩))
  exact ⟨rfl, HW.out, rfl⟩
end Go.Proofs.YtoclingolfdfeaaGreatDoor

/- RdJ -/
namespace Go.Proofs.YtoclingolfdfeaaGreatDoor
open Go.RowKit Go.Deep
set_option maxRecDepth 100000

theorem tokenAt_any (s : ByteArray) (p : Nat) (w : World) (hp : p < s.size) (hs : s.size ≤ 1048576) (hT : Tab w) (hE : Errs w) :
    Calls Tryz.prog 97 #[.string s, .int .i64 p] w (TokRes (tokOf ((numsOf s).drop p)) p w) := by
  have eS : numsOf (s.extract p s.size) = (numsOf s).drop p := by
    rw [nums_extract, List.take_of_length_le]
    rw [List.length_drop, numsOf_len]
    omega
  rw [← eS]
  have hsz : (s.extract p s.size).size = s.size - p := by rw [← numsOf_len, eS, List.length_drop, numsOf_len]
  generalize hR : s.extract p s.size = R at *
  have h0 : 0 < R.size := by omega
  have hz : R.size ≤ 1048576 := by omega
  clear eS hsz
  have eR := nums_drop R 0 h0
  rw [List.drop_zero, Nat.zero_add] at eR
  have hbb := (nums_byt R).get 0
  rw [nums_at R 0 h0, Option.getD_some] at hbb
  generalize hb : ((R[0].toNat : Nat) : Int) = b at *
  obtain ⟨hb1, hb2⟩ := hbb
  have ePre := hasPrefix_two R 95 58
  generalize hr : (numsOf R).drop 1 = r at *
  have d7 : Lib.hasPrefix R.data.toList [95, 58] = (b == 95 && r[0]? == some 58) := by
    rw [ePre, eR]
    simp [Option.some_beq_some]
  have eP : numsOf (R.extract 0 (1 + pieceLen r)) = b :: r.take (pieceLen r) := by
    rw [nums_extract, List.drop_zero, Nat.sub_zero, eR, Nat.add_comm 1, List.take_succ_cons]
  rw [eR]
  by_cases c1 : digit b = true
  · rw [tokOf, if_pos (by rw [c1]; rfl)]
    exact tokenAt_num s p w R b hR hp h0 hz hb c1 hT hE _ (by rw [hr]; exact eP) (by simp)
  have d1 : digit b = false := by simpa using c1
  by_cases c2 : b = 45
  · have d2 : (b == 45) = true := by simp [c2]
    by_cases c3 : digitHd r = true
    · rw [tokOf, if_pos (by rw [d1, d2, c3]; rfl)]
      exact tokenAt_neg s p w R b hR hp h0 hz hb d1 d2 (by rw [hr]; exact c3) hT hE _ (by rw [hr]; exact eP) (by simp)
    · have d3 : digitHd r = false := by simpa using c3
      rw [tokOf, if_neg (by rw [d1, d2, d3]; decide)]
      have H := tokenAt_sign45 s p w R b hR hp h0 hz hb hb1 hb2 d1 d2 (by rw [c2]; rfl) (by rw [c2]; rfl) (by rw [c2]; rfl) (by rw [hr]; exact d3) (by rw [c2]; rfl) (by rw [d7, c2]; rfl) (by rw [c2]; rfl)
      subst c2
      rw [if_neg (by simp), if_neg (by decide), if_neg (by simp), if_neg (by simp), if_neg (by decide), if_pos (by decide)]
      exact H
  have d2 : (b == 45) = false := by simp [c2]
  rw [tokOf, if_neg (by rw [d1, d2]; simp)]
  by_cases c3 : b = 60
  · have d3 : (b == 60) = true := by simp [c3]
    by_cases c4 : (nameOk (r.take (pieceLen r)) && (r.drop (pieceLen r))[0]? == some 62) = true
    · rw [if_pos (by rw [d3, Bool.true_and]; exact c4)]
      rw [Bool.and_eq_true] at c4
      exact tokenAt_name s p w R b hR hp h0 hz hb d1 d2 d3 hT _ (by rw [hr]) c4.1 (by rw [hr]; exact c4.2)
    · have c4' : (nameOk (r.take (pieceLen r)) && (r.drop (pieceLen r))[0]? == some 62) = false := by simpa using c4
      rw [if_neg (by rw [d3, Bool.true_and, c4']; decide)]
      have H := tokenAt_sign60 s p w R b hR hp h0 hz hb hb1 hb2 d1 d2 d3 (by rw [c3]; rfl) (by rw [c3]; rfl) (by rw [c3]; rfl) (by rw [d7, c3]; rfl) (by rw [c3]; rfl) (by rw [hr]; exact c4')
      subst c3
      rw [if_neg (by decide), if_neg (by simp), if_neg (by simp), if_neg (by decide), if_pos (by decide)]
      exact H
  have d3 : (b == 60) = false := by simp [c3]
  rw [if_neg (by rw [d3]; simp)]
  by_cases c4 : b = 34
  · have d4 : (b == 34) = true := by simp [c4]
    rw [if_pos c4]
    exact tokenAt_text s p w R b hR hp h0 hz hb d1 d2 d3 d4 hT r hr
  have d4 : (b == 34) = false := by simp [c4]
  rw [if_neg c4]
  by_cases c5 : (b == 95 && r[0]? == some 58) = true
  · rw [if_pos c5]
    rw [Bool.and_eq_true, beq_iff_eq, beq_iff_eq] at c5
    obtain ⟨c6, c7⟩ := c5
    have hr1 : 0 < r.length := by
      apply Classical.byContradiction
      intro h
      rw [List.getElem?_eq_none (by omega)] at c7
      cases c7
    obtain ⟨r', rfl⟩ : ∃ r', r = 58 :: r' := by
      cases r with
      | nil => simp at hr1
      | cons x r' =>
        have : x = 58 := by simpa using c7
        exact ⟨r', by rw [this]⟩
    have e2 : (numsOf R).drop 2 = r' := by rw [eR]; rfl
    have h2 : 2 ≤ R.size := by rw [← numsOf_len, eR]; simp
    exact tokenAt_blank s p w R b hR hp h0 hz hb d1 d2 d3 d4 (by rw [d7, c6]; rfl) h2 hT hE _ (by rw [e2]; rfl) (by rw [eR, c6]; rfl)
  have c5' : (b == 95 && r[0]? == some 58) = false := by simpa using c5
  rw [if_neg c5]
  have d7' : Lib.hasPrefix R.data.toList [95, 58] = false := by rw [d7]; exact c5'
  by_cases c6 : b = 63
  · have d5 : (b == 63) = true := by simp [c6]
    by_cases c7 : nameOk (r.take (pieceLen r)) = true
    · rw [if_pos (by rw [d5, c7]; rfl)]
      exact tokenAt_var s p w R b hR hp h0 hz hb d1 d2 d3 d4 d5 d7' _ (by rw [hr]) c7
    · have c7' : nameOk (r.take (pieceLen r)) = false := by simpa using c7
      rw [if_neg (by rw [d5, c7']; decide)]
      have H := tokenAt_none63 s p w R b hR hp h0 hz hb hb1 hb2 d1 d2 d3 d4 d5 d7' (by rw [c6]; rfl) (by rw [c6]; rfl) _ (by rw [hr]) c7'
      subst c6
      rw [if_neg (by decide), if_neg (by decide)]
      exact H
  have d5 : (b == 63) = false := by simp [c6]
  rw [if_neg (by rw [d5]; simp)]
  by_cases c7 : great b = true
  · rw [if_pos c7]
    have H := tokenAt_word s p w R b hR hp h0 hz hb hb1 hb2 d1 d2 d3 d4 d5 c7 d7'
    rw [eR] at H
    exact H
  have d6 : great b = false := by simpa using c7
  rw [if_neg c7]
  by_cases c8 : signB b = true
  · rw [if_pos c8]
    exact tokenAt_sign s p w R b hR hp h0 hz hb hb1 hb2 d1 d2 d3 d4 d5 d6 d7' c8
  · rw [if_neg c8]
    exact tokenAt_none s p w R b hR hp h0 hz hb hb1 hb2 d1 d2 d3 d4 d5 d6 d7' (by simpa using c8)
end Go.Proofs.YtoclingolfdfeaaGreatDoor

/- RdK -/
namespace Go.Proofs.YtoclingolfdfeaaGreatDoor
open Go.RowKit Go.Deep
set_option maxRecDepth 100000

theorem oper_round {P : Program} {r n : Nat} {o : Oper} {a : Act} {w : World} {K : Act → World → Prop} {Q : Exit → Act → World → Prop} (hd : ∀ c, o.op ≠ .defer c) (h : o.wp P a w K Q) : o.wpIn (Fence.wide.inRound r) n P a w K Q := by
  refine ⟨fun _ _ => trivial, ?_⟩
  rw [show (Fence.wide.inRound r).round = some r from rfl, Oper.semAt_eq _ _ _ hd]
  unfold Oper.wp at h
  generalize (execOp a.eval o).run P w = res at *
  cases res with
  | ok x w' =>
    cases x with
    | value v => exact h
    | skip => exact h
    | defer d => exact h
    | enter f args => exact ⟨fun hz => Bool.noConfusion hz, CallsIn.inRound r (callsIn_wide.2 h)⟩
    | row row args =>
      refine ⟨fun hz => Bool.noConfusion hz, fun c cs _ => ?_⟩
      obtain ⟨v, w'', hq, hs⟩ := h c cs
      exact ⟨v, w'', hq, stepsIn_wide.2 hs⟩
    | round l f tmps assign body => exact h.elim
    | _ => exact h.elim
  | halt x w' => cases x <;> exact h
theorem any_round {P : Program} {r n : Nat} {md : Region.Mode} {ops : Array Oper} {Q : Exit → Act → World → Prop} (hnd : ∀ (i : Nat) o, ops[i]? = some o → ∀ c, o.op ≠ .defer c) (hno : ¬ LetsOut Q) :
    ∀ (fuel : Nat) (listed : Array Bool) (a : Act) (w : World), wpAny P md ops Q fuel listed a w → wpAnyIn (Fence.wide.inRound r) n P md ops Q fuel listed a w
  | 0, _, _, _, h => h
  | fuel + 1, listed, a, w, h => ⟨h.1, fun i hi => by
    have h2 := wpOp_mono (fun a' w' h' => any_round (r := r) (n := n) hnd hno fuel (listed.setIfInBounds i true) a' w' h') (h.2 i hi)
    unfold wpOp at h2
    unfold wpOpIn
    split at h2
    · rename_i e
      rw [e]
      exact h2
    · rename_i o e
      rw [e]
      simp only
      split at h2
      · rename_i hw
        rw [if_pos hw]
        rcases h2 with h2 | h2
        · exact oper_round (hnd i o e) h2
        · exact absurd h2.2 hno
      · rename_i hw
        rw [if_neg hw]
        exact ⟨fun _ _ => trivial, h2⟩⟩
def noDefer (ops : Array Oper) : Bool := ops.all fun o => match o.op with
  | .defer _ => false
  | _ => true
theorem noDefer_spec {ops : Array Oper} (h : noDefer ops = true) (i : Nat) (o : Oper) (ho : ops[i]? = some o) (c : Call) : o.op ≠ .defer c := by
  intro e
  unfold noDefer at h
  rw [Array.all_eq_true_iff_forall_mem] at h
  have := h o (Array.mem_of_getElem? ho)
  rw [e] at this
  cases this
/-- A region that draws its order, within a round. -/
theorem region_round {P : Program} {r n id : Nat} {ops : Array Oper} {Q : Exit → Act → World → Prop} {a : Act} {w : World} (S : World → Prop) (hm : P.follows .mixedOrders = true) (hnd : noDefer ops = true) (hno : ¬ LetsOut Q) (hS : S w.drew)
    (h : S w.drew → wpAnyH P .any ops Q S ops.size (Array.replicate ops.size false) a w.drew) : (Code.region id ops true).wpIn (Fence.wide.inRound r) n P Q a w :=
  wpIn_region_any hm (any_round (noDefer_spec hnd) hno _ _ _ _ (wpAny_of_held _ _ _ _ (h hS)))

/-- A token with its term's text. -/
structure TV where
  kind : Nat
  p : Nat
  raw : ByteArray
  t : TB
def TV.pt (x : TV) : Nat × PT := (x.p, ⟨x.kind, numsOf x.raw, x.t.td⟩)
def e7 (x : TV) : List Value := [.int .i64 x.kind, .int .i64 x.p, .string x.raw, .int .i64 x.t.t.k, .slice x.t.t.a x.t.t.len x.t.t.cap, .int .i64 x.t.t.n, .int .i64 x.t.t.s]
theorem e7_len (x : TV) : (e7 x).length = 7 := rfl
def flatK (l : List TV) : List Value := l.flatMap e7
theorem flatK_len (l : List TV) : (flatK l).length = l.length * 7 := flatMap_len e7 7 e7_len l
theorem flatK_append (l m : List TV) : flatK (l ++ m) = flatK l ++ flatK m := by simp [flatK]
theorem flatK_get (l : List TV) (i c : Nat) (hi : i < l.length) (hc : c < 7) : (flatK l)[i * 7 + c]? = (e7 l[i])[c]? := flatMap_get e7 7 e7_len l i c hi hc
theorem flatK_one (l : List TV) : ∀ u ∈ flatK l, u.oneCell' = true := by
  intro u hu
  obtain ⟨x, _, hx⟩ := List.mem_flatMap.1 hu
  simp only [e7, List.mem_cons, List.not_mem_nil, or_false] at hx
  rcases hx with rfl | rfl | rfl | rfl | rfl | rfl | rfl <;> rfl
/-- A row of tokens of the call's own, or none as yet. -/
def OwnK (w : World) (B : Nat) (v : Value) (l : List TV) : Prop := w.ownsRow B 98 7 v l.length (flatK l) ∧ ∀ g, v.ownBlock = some g → B ≤ g ∧ g < w.heap.size
theorem OwnK.nil (w : World) (B : Nat) : OwnK w B (.slice none 0 0) [] := ⟨World.ownsRow_nil _ _ _ _, fun g h => by cases h⟩
theorem OwnK.same {w w' : World} {B : Nat} {v : Value} {l : List TV} (h : OwnK w B v l) (hs : w.heap.size ≤ w'.heap.size) (hb : ∀ g, v.ownBlock = some g → w'.heap[g]? = w.heap[g]?) : OwnK w' B v l := by
  obtain ⟨⟨h1, h2⟩, hl⟩ := h
  refine ⟨⟨h1, ?_⟩, fun c hc => ⟨(hl c hc).1, Nat.lt_of_lt_of_le (hl c hc).2 hs⟩⟩
  rcases h2 with h2 | ⟨g', cap', cur, hv, hB, hh, r⟩
  · exact .inl h2
  · refine .inr ⟨g', cap', cur, hv, hB, ?_, r⟩
    rw [hb g' (by rw [hv]; rfl)]
    exact hh
theorem OwnK.below {w w' : World} {B : Nat} {v : Value} {l : List TV} (h : OwnK w B v l) (hb : Below w.heap.size w w') : OwnK w' B v l :=
  h.same hb.size fun g hg => hb.block g (h.2 g hg).2
/-- Its form: nil, or a block whose cells are the tokens'. -/
theorem OwnK.form {w : World} {B : Nat} {v : Value} {l : List TV} (h : OwnK w B v l) : (v = .slice none 0 0 ∧ l = []) ∨ ∃ g cap, v = .slice (some ⟨g, 0, none⟩) l.length cap ∧ B ≤ g ∧ g < w.heap.size ∧ l.length ≤ cap ∧ ∀ j u, (flatK l)[j]? = some u → w.cell? ⟨g, j, none⟩ = some u := by
  rcases h.1.2 with ⟨hv, h0⟩ | ⟨g, cap, cur, hv, hB, hh, hle, _, hsz, htk⟩
  · exact .inl ⟨hv, List.eq_nil_of_length_eq_zero h0⟩
  · refine .inr ⟨g, cap, hv, hB, (h.2 g (by rw [hv]; rfl)).2, hle, fun j u hu => ?_⟩
    have hj := (List.getElem?_eq_some_iff.1 hu).1
    rw [flatK_len] at hj
    rw [← htk, List.getElem?_take, if_pos hj] at hu
    simp only [World.cell?, hh]
    simpa using hu
theorem Tryz.infoK98 : (Tryz.prog.info? 98).map (fun i => (i.zero, i.size, i.bytes)) = some (some (.agg #[.int .i64 0, .int .i64 0, .string ⟨#[]⟩, .int .i64 0, .slice none 0 0, .int .i64 0, .int .i64 0]), 7, 80) := by kernel_rfl
/-- append of a token to a row of the call's own, within a region that draws its order. -/
theorem stepK {ops : Array Oper} {o : Oper} {a : Act} {K : Act → World → Prop} {Q : Exit → Act → World → Prop} {E : Prop} {w : World} (hgd : o.guard = none) (s x : Operand)
    (ho : o.op = .call { callee := .builtin .append, args := #[s, x], argTypes := #[91, 91] })
    (B : Nat) (v : Value) (us : List TV) (hs : a.eval s = v) (HO : Hid (OwnK w B v us))
    (ad : Addr) (c : Nat) (y : TV) (hx : a.eval x = .slice (some ad) 1 c) (HN : Hid (∀ j u, (flatK [y])[j]? = some u → w.cell? (ad.add j) = some u))
    (hle : us.length + 1 ≤ 1000000000) (hB : B ≤ w.heap.size)
    (h : ∀ g cap w', Hid (OwnK w' B (.slice (some ⟨g, 0, none⟩) (us.length + 1) cap) (us ++ [y])) → Hid (w.grownBy w' v.ownBlock) → Hid (v.ownBlock = some g ∨ g = w.heap.size) → K (a.put o.dst (.slice (some ⟨g, 0, none⟩) (us.length + 1) cap)) w') :
    if Region.wanted o (yielded ops a.tmps) = true then Oper.wp Tryz.prog o a w K Q else E := by
  obtain ⟨i0, hi0, hzz⟩ := Option.map_eq_some_iff.1 Tryz.infoK98
  simp only [Prod.mk.injEq] at hzz
  obtain ⟨hi2, hi1, hi3⟩ := hzz
  refine step_append_lies _ hgd s x 91 ho B 98 i0 _ 7 80 Tryz.underlying91 hi0 hi2 hi1 hi3 rfl (by omega) v us.length (flatK us) hs HO.out.1 ad 1 c (flatK [y]) hx (by rw [flatK_len]; rfl) HN.out (flatK_one [y]) (by omega) (by unfold maxLen; omega) (by omega) hB _ rfl ?_
  intro g cap w' hown hgr hat hlt
  have hown' : w'.ownsRow B 98 7 (.slice (some ⟨g, 0, none⟩) (us.length + 1) cap) (us ++ [y]).length (flatK (us ++ [y])) := by
    rw [flatK_append, List.length_append]
    exact hown
  refine h g cap w' ⟨hown', fun g' hg' => ?_⟩ hgr hat
  have : g = g' := by simpa [Value.ownBlock] using hg'
  subst this
  rcases hown.2 with ⟨hv, _⟩ | ⟨g0, c0, cur, hv, hb, _⟩
  · cases hv
  · cases hv; exact ⟨hb, hlt⟩
theorem newsK (w : World) (x : TV) (t : TypeId) : ∀ j u, (flatK [x])[j]? = some u → (w.alloc (.cells (e7 x).toArray t)).cell? ((⟨w.heap.size, 0, none⟩ : Addr).add j) = some u := by
  intro j u hj
  have ea : (⟨w.heap.size, 0, none⟩ : Addr).add j = ⟨w.heap.size, j, none⟩ := by
    by_cases h0 : j = 0 <;> simp [Addr.add, h0]
  have hj' : (e7 x)[j]? = some u := by simpa [flatK] using hj
  rw [ea]
  simp only [go_sem]
  simpa using hj'
end Go.Proofs.YtoclingolfdfeaaGreatDoor

/- RdL -/
namespace Go.Proofs.YtoclingolfdfeaaGreatDoor
open Go.RowKit Go.Deep
set_option maxRecDepth 100000

/-- A token's bytes are what the text begins with. -/
theorem tokOf_raw {l : List Int} {t : PT} (h : tokOf l = some t) : 1 ≤ t.raw.length ∧ t.raw.length ≤ l.length ∧ l.take t.raw.length = t.raw := by
  cases l with
  | nil => cases h
  | cons b r =>
    have hp := pieceLen_le r
    have pre : ∀ m, m ≤ r.length → 1 ≤ (b :: r.take m).length ∧ (b :: r.take m).length ≤ (b :: r).length ∧ (b :: r).take (b :: r.take m).length = b :: r.take m := fun m hm => by
      have e : (r.take m).length = m := by rw [List.length_take]; omega
      refine ⟨by simp, by simp; omega, ?_⟩
      rw [List.length_cons, List.take_succ_cons, e]
    rw [tokOf] at h
    split at h
    · obtain ⟨q, _, rfl⟩ := Option.map_eq_some_iff.1 h
      exact pre _ hp
    split at h
    · rename_i c
      simp only [Bool.and_eq_true, beq_iff_eq] at c
      obtain ⟨⟨rfl, _⟩, hg⟩ := c
      simp only [Option.some.injEq] at h
      subst h
      have hlt : pieceLen r < r.length := by
        apply Nat.lt_of_not_le
        intro hle
        rw [List.drop_of_length_le hle] at hg
        cases hg
      have e : r.take (pieceLen r) ++ [62] = r.take (pieceLen r + 1) := by
        rw [List.take_add_one]
        rw [List.getElem?_drop, Nat.add_zero] at hg
        rw [hg]
        rfl
      simp only [e]
      exact pre _ (by omega)
    split at h
    · rename_i c
      subst c
      obtain ⟨⟨tx, m⟩, hq, h2⟩ := Option.bind_eq_some_iff.1 h
      split at h2
      · simp only [Option.some.injEq] at h2
        subst h2
        exact pre _ (quoteF_le r tx m hq)
      · cases h2
    split at h
    · rename_i c
      simp only [Bool.and_eq_true, beq_iff_eq] at c
      obtain ⟨rfl, hg⟩ := c
      obtain ⟨q, _, rfl⟩ := Option.map_eq_some_iff.1 h
      cases r with
      | nil => cases hg
      | cons x r =>
        have : x = 58 := by simpa using hg
        subst this
        have hp2 := pieceLen_le r
        simp only [List.drop_succ_cons, List.drop_zero]
        have e : (58 :: r.take (pieceLen r) : List Int) = (58 :: r).take (pieceLen r + 1) := by rw [List.take_succ_cons]
        rw [e]
        exact pre _ (by simp; omega)
    split at h
    · rename_i c
      simp only [Bool.and_eq_true, beq_iff_eq] at c
      obtain ⟨rfl, _⟩ := c
      simp only [Option.some.injEq] at h
      subst h
      exact pre _ hp
    split at h
    · rename_i c
      simp only [Option.some.injEq] at h
      subst h
      have hg := greatLen_le r
      rw [greatLen, if_pos c, List.take_succ_cons]
      exact pre _ hg
    split at h
    · simp only [Option.some.injEq] at h
      subst h
      exact pre 0 (by omega)
    · cases h

/-- All tokens, each with its place; or the place where there is none. -/
def lexF : Nat → List Int → Nat → Except Nat (List (Nat × PT))
  | 0, _, _ => .ok []
  | _ + 1, [], _ => .ok []
  | f + 1, b :: r, p => if gapB b = true then lexF f r (p + 1) else
      match tokOf (b :: r) with
      | none => .error p
      | some t => (lexF f ((b :: r).drop t.raw.length) (p + t.raw.length)).map ((p, t) :: ·)
theorem lexF_fuel : ∀ (f g : Nat) (l : List Int) (p : Nat), l.length ≤ f → l.length ≤ g → lexF f l p = lexF g l p
  | 0, 0, _, _, _, _ => rfl
  | 0, g + 1, [], _, _, _ => rfl
  | 0, g + 1, b :: r, _, h, _ => by simp at h
  | f + 1, 0, [], _, _, _ => rfl
  | f + 1, 0, b :: r, _, _, h => by simp at h
  | f + 1, g + 1, [], _, _, _ => rfl
  | f + 1, g + 1, b :: r, p, h1, h2 => by
    simp only [List.length_cons] at h1 h2
    rw [lexF, lexF, lexF_fuel f g r (p + 1) (by omega) (by omega)]
    cases ht : tokOf (b :: r) with
    | none => rfl
    | some t =>
      have hr := tokOf_raw ht
      have hl : ((b :: r).drop t.raw.length).length ≤ r.length := by rw [List.length_drop, List.length_cons]; omega
      simp only
      rw [lexF_fuel f g ((b :: r).drop t.raw.length) (p + t.raw.length) (by omega) (by omega)]
def lexR (l : List Int) (p : Nat) : Except Nat (List (Nat × PT)) := lexF l.length l p
theorem lexR_nil (p : Nat) : lexR [] p = .ok [] := rfl
theorem lexR_gap {b : Int} {r : List Int} (p : Nat) (h : gapB b = true) : lexR (b :: r) p = lexR r (p + 1) := by
  unfold lexR
  rw [List.length_cons, lexF, if_pos h]
theorem lexR_bad {b : Int} {r : List Int} (p : Nat) (h : gapB b = false) (ht : tokOf (b :: r) = none) : lexR (b :: r) p = .error p := by
  unfold lexR
  rw [List.length_cons, lexF, if_neg (by rw [h]; decide), ht]
theorem lexR_tok {b : Int} {r : List Int} {t : PT} (p : Nat) (h : gapB b = false) (ht : tokOf (b :: r) = some t) : lexR (b :: r) p = (lexR ((b :: r).drop t.raw.length) (p + t.raw.length)).map ((p, t) :: ·) := by
  have hr := tokOf_raw ht
  have hl : ((b :: r).drop t.raw.length).length ≤ r.length := by rw [List.length_drop, List.length_cons]; omega
  unfold lexR
  rw [List.length_cons, lexF, if_neg (by rw [h]; decide), ht]
  simp only
  rw [lexF_fuel r.length _ _ _ hl (Nat.le_refl _)]
/-- What is there ahead of what comes. -/
def withPre (pre : List (Nat × PT)) (x : Except Nat (List (Nat × PT))) : Except Nat (List (Nat × PT)) := x.map (pre ++ ·)
theorem withPre_nil (x : Except Nat (List (Nat × PT))) : withPre [] x = x := by cases x <;> rfl
theorem withPre_map (pre : List (Nat × PT)) (y : Nat × PT) (x : Except Nat (List (Nat × PT))) : withPre pre (x.map (y :: ·)) = withPre (pre ++ [y]) x := by
  cases x with
  | error e => rfl
  | ok l =>
    show Except.ok (pre ++ (y :: l)) = Except.ok (pre ++ [y] ++ l)
    simp
end Go.Proofs.YtoclingolfdfeaaGreatDoor

/- RdM -/
namespace Go.Proofs.YtoclingolfdfeaaGreatDoor
open Go.RowKit Go.Deep Go.Shelf
set_option maxRecDepth 100000
attribute [local go_sem] Oper.semAt_some

/-- All blocks but r, l and the row are as they were. -/
structure KeptK (r l : Nat) (row : Option Nat) (w w' : World) : Prop where
  size : w.heap.size ≤ w'.heap.size
  block : ∀ b, b < w.heap.size → b ≠ r → b ≠ l → some b ≠ row → w'.heap[b]? = w.heap[b]?
theorem KeptK.cell {r l : Nat} {row : Option Nat} {w w' : World} (h : KeptK r l row w w') {b o : Nat} (h1 : b < w.heap.size) (h2 : b ≠ r) (h3 : b ≠ l) (h4 : some b ≠ row) : w'.cell? ⟨b, o, none⟩ = w.cell? ⟨b, o, none⟩ := World.cell?_of_block (w := w) (a := ⟨b, o, none⟩) (h.block b h1 h2 h3 h4)
/-- Where a token's text lies. -/
def TV.blk (x : TV) : Option Nat := x.t.t.a.map (·.block)
def Apart (x y : TV) : Prop := ∀ g g', x.blk = some g → y.blk = some g' → g ≠ g'
/-- A reader while it is filled. -/
structure RS (w0 : World) (rb rd : Nat) (n : Int) (W : World) (v : Value) (L : List TV) : Prop where
  box : W.cell? ⟨rb, 0, none⟩ = some (.pointer (some ⟨rd, 0, none⟩))
  r0 : W.cell? ⟨rd, 0, none⟩ = some v
  r1 : W.cell? ⟨rd, 1, none⟩ = some (.int .i64 0)
  r2 : W.cell? ⟨rd, 2, none⟩ = some (.int .i64 n)
  f0 : W.frozen? ⟨rd, 0, none⟩ = false
  f1 : W.frozen? ⟨rd, 1, none⟩ = false
  lb : rb < W.heap.size
  ld : rd < W.heap.size
  ne : rb ≠ rd
  nb : some rb ≠ v.ownBlock
  nd : some rd ≠ v.ownBlock
  emp : L = [] → v.ownBlock = none
  hd : w0.heap.size ≤ rd
  own : OwnK W w0.heap.size v L
  txt : ∀ x ∈ L, Nw W w0.heap.size x.t.t.a x.t.t.len x.t.b
  sep : L.Pairwise Apart
  bel : Below w0.heap.size w0 W
theorem RS.below {w0 W W' : World} {rb rd : Nat} {n : Int} {v : Value} {L : List TV} (h : RS w0 rb rd n W v L) (hb : Below W.heap.size W W') : RS w0 rb rd n W' v L :=
  ⟨(hb.cell (p := ⟨rb, 0, none⟩) h.lb).trans h.box, (hb.cell (p := ⟨rd, 0, none⟩) h.ld).trans h.r0, (hb.cell (p := ⟨rd, 1, none⟩) h.ld).trans h.r1, (hb.cell (p := ⟨rd, 2, none⟩) h.ld).trans h.r2, (hb.frozen (p := ⟨rd, 0, none⟩) h.ld).trans h.f0, (hb.frozen (p := ⟨rd, 1, none⟩) h.ld).trans h.f1,
   Nat.lt_of_lt_of_le h.lb hb.size, Nat.lt_of_lt_of_le h.ld hb.size, h.ne, h.nb, h.nd, h.emp, h.hd, h.own.below hb, fun x hx => (h.txt x hx).below hb, h.sep, h.bel.trans (hb.mono (Nat.le_trans h.hd (Nat.le_of_lt h.ld)))⟩
/-- A text's block is there. -/
theorem nw_lt {W : World} {B len : Nat} {a : Option Addr} {bs : List Int} (h : Nw W B a len bs) {g : Nat} (hg : a.map (·.block) = some g) : B ≤ g ∧ g < W.heap.size := by
  rcases h with ⟨rfl, _, _⟩ | ⟨c, rfl, hB, ho⟩
  · cases hg
  · have : c = g := by simpa using hg
    subst this
    exact ⟨hB, ho.2.1⟩
/-- .. and with the loop's own records. -/
structure RJ (w0 : World) (rb rd tb l D : Nat) (rec : Loop) (n : Int) (s : ByteArray) (W : World) (v : Value) (L : List TV) : Prop where
  rs : RS w0 rb rd n W v L
  lp : W.heap[l]? = some (.loop rec)
  df : W.heap[D]? = some (.deferred (some []))
  tx : W.cell? ⟨tb, 0, none⟩ = some (.string s)
  tl : tb < W.heap.size
  tn : tb ≠ rd
  tr : some tb ≠ v.ownBlock
theorem RJ.below {w0 W W' : World} {rb rd tb l D : Nat} {rec : Loop} {n : Int} {s : ByteArray} {v : Value} {L : List TV} (h : RJ w0 rb rd tb l D rec n s W v L) (hb : Below W.heap.size W W') : RJ w0 rb rd tb l D rec n s W' v L :=
  ⟨h.rs.below hb, (hb.block l (Array.getElem?_eq_some_iff.1 h.lp).1).trans h.lp, (hb.block D (Array.getElem?_eq_some_iff.1 h.df).1).trans h.df, (hb.cell (p := ⟨tb, 0, none⟩) h.tl).trans h.tx, Nat.lt_of_lt_of_le h.tl hb.size, h.tn, h.tr⟩

/-- What the iterator comes to. -/
def IterRes (w0 : World) (rb rd tb l D : Nat) (rec : Loop) (n : Int) (s : ByteArray) (e : Ending) (W' : World) : Prop :=
  (∃ v L, RJ w0 rb rd tb l D rec n s W' v L ∧ lexR (numsOf s) 0 = .ok (L.map TV.pt) ∧ e = .returned (.tuple #[])) ∨ (∃ v L p, RJ w0 rb rd tb l D rec n s W' v L ∧ lexR (numsOf s) 0 = .error p ∧ e = refused 2 p)
/-- What a round does. -/
def RoundOk (w0 : World) (rb rd tb l D : Nat) (rec : Loop) (n : Int) (s : ByteArray) (m : Nat) : Prop :=
  ∀ (L : List TV) (x : TV) (v : Value) (W : World), RJ w0 rb rd tb l D rec n s W v L → L.length ≤ 1048576 → Nw W w0.heap.size x.t.t.a x.t.t.len x.t.b → (∀ y ∈ L, Apart y x) →
    YieldAt Fence.wide m Tryz.prog l #[.agg (e7 x).toArray] W fun e W' => e = .returned (.bool true) ∧ ∃ v', RJ w0 rb rd tb l D rec n s W' v' (L ++ [x]) ∧ KeptK rd l v.ownBlock W W'

theorem Tab.below2 {w0 w : World} (h : Tab w0) (hb : Below w0.heap.size w0 w) : Tab w := h.below hb
theorem Errs.below2 {w0 w : World} (h : Errs w0) (hb : Below w0.heap.size w0 w) : Errs w := h.below hb
set_option maxHeartbeats 4000000 in
theorem tokIter (w0 W : World) (rb rd tb l D : Nat) (rec : Loop) (n : Int) (s : ByteArray) (hs : s.size ≤ 1048576) (hT : Tab w0) (hE : Errs w0) (m : Nat) (hY : RoundOk w0 rb rd tb l D rec n s (m - 1)) (h0 : RJ w0 rb rd tb l D rec n s W (.slice none 0 0) []) :
    CallsIn Fence.wide m Tryz.prog 95 #[.func (.yield l) #[] #[], .pointer (some ⟨tb, 0, none⟩)] W (IterRes w0 rb rd tb l D rec n s) := by
  have HY : Hid (RoundOk w0 rb rd tb l D rec n s (m - 1)) := hY
  have HT : Hid (Tab w0) := hT
  have HE : Hid (Errs w0) := hE
  have H0 : Hid (RJ w0 rb rd tb l D rec n s W (.slice none 0 0) []) := h0
  clear hY hT hE h0
  refine callsIn_of_wp Tryz.func95 rfl trivial ?_ rfl
  simp only [Tryz.ntmps95, List.size_toArray, List.length_cons, List.length_nil, Nat.reduceAdd, Nat.reduceSub, Array.replicate_succ, Array.replicate_zero, List.push_toArray, List.append_toArray, List.nil_append, List.cons_append]
  gi_wp2
  gi_loopw [3] (fun i wr => ∃ (k : Nat) (v : Value) (L : List TV), k ≤ s.size ∧ i = .int .i64 k ∧ Hid (RJ w0 rb rd tb l D rec n s wr v L) ∧ Hid (L.length ≤ k) ∧ Hid (withPre (L.map TV.pt) (lexR ((numsOf s).drop k) k) = lexR (numsOf s) 0))
    (fun i _ => s.size - (intOf i).toNat)
  case atStart => exact ⟨0, _, [], Nat.zero_le _, rfl, H0, Nat.zero_le _, by show _ = _; rw [List.map_nil, withPre_nil, List.drop_zero]⟩
  case round =>
    obtain ⟨k, v, L, hk, rfl, HJ, HL, HX⟩ := hrel
    clear H0
    have hx := HJ.out.tx
    by_cases hlt : k < s.size
    · have HD : Hid ((numsOf s).drop k = ((s[k].toNat : Nat) : Int) :: (numsOf s).drop (k + 1)) := nums_drop s k hlt
      generalize hb : ((s[k].toNat : Nat) : Int) = b at *
      have TA := tokenAt_any s k wr hlt hs (HT.out.below2 HJ.out.rs.bel) (HE.out.below2 HJ.out.rs.bel)
      have HR : ∀ t, tokOf ((numsOf s).drop k) = some t → Hid (1 ≤ t.raw.length ∧ k + t.raw.length ≤ s.size) := fun t ht => by
        have := tokOf_raw ht
        rw [List.length_drop, numsOf_len] at this
        exact ⟨this.1, by omega⟩
      cases hg : gapB b
      · gi_wp2
        refine ⟨trivial, fun hz => Bool.noConfusion hz, ?_⟩
        refine (callsIn_wide.2 (gap_any _ _)).mono ?_
        rintro e w1 ⟨rfl, hw1⟩
        subst w1
        rw [hg]
        gi_wp2
        refine ⟨trivial, fun hz => Bool.noConfusion hz, ?_⟩
        refine (callsIn_wide.2 TA).mono ?_
        cases ht : tokOf ((numsOf s).drop k) with
        | none =>
          rintro e w1 ⟨hb1, rfl⟩
          have HB1 : Hid (Below wr.heap.size wr w1) := hb1
          clear TA hb1
          unfold refused
          gi_wp2
          refine ⟨rfl, .inr ⟨v, L, k, HJ.out.below HB1.out, ?_, rfl⟩⟩
          rw [← HX.out, HD.out, lexR_bad k hg (by rw [← HD.out]; exact ht)]
          rfl
        | some t =>
          rintro e w1 ⟨hb1, raw, a, len, cap, rfl, hraw, hnw⟩
          obtain ⟨hr1, hr2⟩ := (HR t ht).out
          obtain ⟨x, hxx⟩ : ∃ x : TV, x = ⟨t.kind, k, raw, ⟨⟨t.td.k, a, len, cap, t.td.n, t.td.s⟩, t.td.bs⟩⟩ := ⟨_, rfl⟩
          have hpt : x.pt = (k, t) := by rw [hxx]; show (k, (⟨t.kind, numsOf raw, ⟨t.td.k, t.td.bs, t.td.n, t.td.s⟩⟩ : PT)) = _; rw [hraw]
          have HJ2 : Hid (RJ w0 rb rd tb l D rec n s (w1.alloc (.cells (e7 x).toArray 98)) v L) := HJ.out.below (bl_trans hb1 (bl_a _))
          have hnw2 : Nw (w1.alloc (.cells (e7 x).toArray 98)) w0.heap.size x.t.t.a x.t.t.len x.t.b := by
            rw [hxx]
            exact (hnw.below (bl_a _)).mono (Nat.le_trans HJ.out.rs.hd (Nat.le_of_lt HJ.out.rs.ld))
          have hap : ∀ y ∈ L, Apart y x := fun y hy g g' h1 h2 e => by
            have q1 := (nw_lt (HJ.out.rs.txt y hy) h1).2
            have q2 := (nw_lt hnw (show a.map (·.block) = some g' by rw [hxx] at h2; exact h2)).1
            omega
          obtain ⟨fn, tmps, assign, body, hy, hR⟩ := HY.out L x v _ HJ2.out (by have := HL.out; omega) hnw2 hap
          have HRn : Hid (raw.size = t.raw.length) := by show _ = _; rw [← hraw, numsOf_len]
          have HPT : Hid (x.pt = (k, t)) := hpt
          have HTK : Hid (tokOf ((numsOf s).drop k) = some t) := ht
          have hwl : w1.heap.size < (w1.alloc (.cells (e7 x).toArray 98)).heap.size := by simp
          clear TA HR ht hpt hnw hnw2 hap hraw
          unfold tokV
          subst hxx
          simp only [e7] at hy hR
          have hsz1 := hb1.size
          have HB1 : Hid (Below wr.heap.size wr w1) := hb1
          clear hb1
          gi_wp2
          refine ⟨fun hz => Bool.noConfusion hz, ?_⟩
          refine hR.mono ?_
          rintro e W3 ⟨rfl, v', hJ3, hk3⟩
          have hc3 : W3.cell? ⟨w1.heap.size, 2, none⟩ = some (.string raw) := by
            refine (hk3.cell (b := w1.heap.size) (o := 2) hwl ?_ ?_ ?_).trans (by simp [go_sem])
            · have := HJ.out.rs.ld
              omega
            · have := (Array.getElem?_eq_some_iff.1 HJ.out.lp).1
              omega
            · intro e
              have := (HJ.out.rs.own.2 _ e.symm).2
              omega
          have HJ3 : Hid (RJ w0 rb rd tb l D rec n s W3 v' (L ++ [⟨t.kind, k, raw, ⟨⟨t.td.k, a, len, cap, t.td.n, t.td.s⟩, t.td.bs⟩⟩])) := hJ3
          have hra : (raw.size : Int) = (t.raw.length : Int) := by have := HRn.out; omega
          clear hR hJ3 hk3 hy HJ2
          gi_wp2
          go_roundw
          case rel =>
            refine ⟨k + t.raw.length, v', _, hr2, by go_num, HJ3, ?_, ?_⟩
            · have := HL.out
              show _ ≤ _
              rw [List.length_append]
              simp
              omega
            · have e1 := HX.out
              have e2 := HTK.out
              show withPre (List.map TV.pt (L ++ [_])) _ = _
              rw [HD.out] at e1 e2
              rw [lexR_tok k hg e2, withPre_map, ← HD.out, List.drop_drop] at e1
              rw [List.map_append, List.map_cons, List.map_nil, HPT.out]
              exact e1
          case measure => simp [intOf]; omega
      · have HG : Hid (lexR ((numsOf s).drop k) k = lexR ((numsOf s).drop (k + 1)) (k + 1)) := by
          show _ = _
          rw [HD.out, lexR_gap _ hg]
        gi_wp2
        refine ⟨trivial, fun hz => Bool.noConfusion hz, ?_⟩
        refine (callsIn_wide.2 (gap_any _ _)).mono ?_
        rintro e w1 ⟨rfl, hw1⟩
        subst w1
        rw [hg]
        gi_wp2
        go_roundw
        case rel =>
          refine ⟨k + 1, v, L, by omega, by go_num, HJ, Nat.le_succ_of_le HL.out, ?_⟩
          have e1 := HX.out
          rw [HG.out] at e1
          exact e1
        case measure => simp [intOf]; omega
    · gi_wp2
      go_end0
      refine .inl ⟨v, L, HJ.out, ?_, rfl⟩
      rw [← HX.out, nums_end s k hlt, lexR_nil]
      show Except.ok (L.map TV.pt ++ []) = Except.ok (L.map TV.pt)
      rw [List.append_nil]
end Go.Proofs.YtoclingolfdfeaaGreatDoor
