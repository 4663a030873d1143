/- Texts put together: RdB StrC GdrN GtxD DrwE OpnC ShwI -/
import Derived.Test.YtiodiooaaojbhaaGreatDoorNk14
import Derived.Test.YtiodiooaaojbhaaGreatDoorNk09
import Derived.Test.YtiodiooaaojbhaaGreatDoorNk07
import Derived.Deep.AppendLies
import Derived.Test.YtiodiooaaojbhaaGreatDoorNk10
import Derived.Sort.Row
import Derived.Test.YtiodiooaaojbhaaGreatDoorNk08
import Derived.Test.YtiodiooaaojbhaaGreatDoorNk02
import Derived.Test.YtiodiooaaojbhaaGreatDoorShf
import Derived.WalkSmall
/- RdB -/
namespace Go.Proofs.YtiodiooaaojbhaaGreatDoor
open Go.RowKit Go.Deep
set_option maxRecDepth 100000

theorem nums_at (s : ByteArray) (k : Nat) (h : k < s.size) : (numsOf s)[k]? = some ((s[k].toNat : Nat) : Int) := by
  have h' : k < s.data.toList.length := by simpa using h
  simp only [numsOf, List.getElem?_map, List.getElem?_eq_getElem h', Option.map_some]
  rfl
theorem nums_drop (s : ByteArray) (k : Nat) (h : k < s.size) : (numsOf s).drop k = ((s[k].toNat : Nat) : Int) :: (numsOf s).drop (k + 1) := by
  have h' : k < (numsOf s).length := by rw [numsOf_len]; exact h
  rw [List.drop_eq_getElem_cons h']
  have := nums_at s k h
  rw [List.getElem?_eq_getElem h'] at this
  rw [Option.some.inj this]
theorem nums_end (s : ByteArray) (k : Nat) (h : ¬ k < s.size) : (numsOf s).drop k = [] := List.drop_of_length_le (by rw [numsOf_len]; omega)
theorem nums_extract (s : ByteArray) (a b : Nat) : numsOf (s.extract a b) = ((numsOf s).drop a).take (b - a) := by
  unfold numsOf
  rw [← List.map_drop, ← List.map_take]
  congr 1
  simp [ByteArray.data_extract, Array.toList_extract, List.extract_eq_take_drop]

theorem great_any (b : Int) (w : World) : Calls Tryz.prog 77 #[.int .u8 b] w fun e w' => e = .returned (.bool (great b)) ∧ w' = w := by
  go_enter Tryz.func77, Tryz.ntmps77
  go_wp2
  all_goals go_ret
  all_goals (refine ⟨?_, rfl⟩; simp [great]; try omega)
theorem gap_any (b : Int) (w : World) : Calls Tryz.prog 36 #[.int .u8 b] w fun e w' => e = .returned (.bool (gapB b)) ∧ w' = w := by
  go_enter Tryz.func36, Tryz.ntmps36
  go_wp2
  all_goals go_ret
  all_goals (refine ⟨congrArg (fun b => Ending.returned (Value.bool b)) ?_, rfl⟩; rw [Bool.eq_iff_iff]; simp_all [gapB])
theorem ofPiece_any (b : Int) (w : World) : Calls Tryz.prog 100 #[.int .u8 b] w fun e w' => e = .returned (.bool (ofPiece b)) ∧ w' = w := by
  unfold ofPiece
  cases h1 : letter b <;> cases h2 : great b <;> cases h3 : digit b
  all_goals
    go_enter Tryz.func100, Tryz.ntmps100
    go_wp2_with (first | (go_at_call 106; refine (letter_any _ _).mono ?_; rintro e w2 ⟨rfl, rfl⟩; try rw [h1]) | (go_at_call 77; refine (great_any _ _).mono ?_; rintro e w3 ⟨rfl, rfl⟩; try rw [h2]) | (go_at_call 66; refine (digit_any _ _).mono ?_; rintro e w3 ⟨rfl, rfl⟩; try rw [h3]))
    go_ret
    exact ⟨rfl, rfl⟩
theorem isDigitAt_any (s : ByteArray) (k : Nat) (w : World) : Calls Tryz.prog 67 #[.string s, .int .i64 k] w fun e w' => e = .returned (.bool (digitHd ((numsOf s).drop k))) ∧ w' = w := by
  by_cases h : k < s.size
  · rw [nums_drop s k h]
    show Calls _ _ _ _ fun e w' => e = .returned (.bool (digit ((s[k].toNat : Nat) : Int))) ∧ _
    go_enter Tryz.func67, Tryz.ntmps67
    go_wp2_with (first | (go_at_call 66; refine (digit_any _ _).mono ?_; rintro e w1 ⟨rfl, rfl⟩))
    go_ret
    exact ⟨rfl, rfl⟩
  · rw [nums_end s k h]
    show Calls _ _ _ _ fun e w' => e = .returned (.bool false) ∧ _
    go_enter Tryz.func67, Tryz.ntmps67
    go_wp2_with fail
    go_ret
    exact ⟨rfl, rfl⟩
theorem pieceLen_yes {b : Int} {r : List Int} (h : (ofPiece b || (b == 46 && digitHd r)) = true) : pieceLen (b :: r) = pieceLen r + 1 := by rw [pieceLen, if_pos h]
theorem pieceLen_no {b : Int} {r : List Int} (h : (ofPiece b || (b == 46 && digitHd r)) = false) : pieceLen (b :: r) = 0 := by rw [pieceLen, if_neg (by rw [h]; decide)]

theorem withPiece_any (s : ByteArray) (f : Nat) (w : World) (hf : f ≤ s.size) (hs : s.size ≤ 1048576) :
    Calls Tryz.prog 68 #[.string s, .int .i64 f] w fun e w' => e = .returned (.string (s.extract 0 (f + pieceLen ((numsOf s).drop f)))) ∧ w' = w := by
  have hL := pieceLen_le ((numsOf s).drop f)
  rw [List.length_drop, numsOf_len] at hL
  generalize hE : f + pieceLen ((numsOf s).drop f) = E at *
  have HE : Hid (f + pieceLen ((numsOf s).drop f) = E) := hE
  have hEs : E ≤ s.size := by omega
  clear hE hL
  go_enter Tryz.func68, Tryz.ntmps68
  go_wp2_with fail
  go_loop [5] (fun i => ∃ k : Nat, k ≤ s.size ∧ i = .int .i64 k ∧ k + pieceLen ((numsOf s).drop k) = E)
    (fun i => s.size - (intOf i).toNat)
  case atStart => exact ⟨f, hf, rfl, HE.out⟩
  case round =>
    obtain ⟨k, hk, rfl, hH⟩ := hrel
    have HH : Hid (k + pieceLen ((numsOf s).drop k) = E) := hH
    clear hH HE
    by_cases hlt : k < s.size
    · have hd := nums_drop s k hlt
      have D := isDigitAt_any s (k + 1) 
      have HD : Hid ((numsOf s).drop k = ((s[k].toNat : Nat) : Int) :: (numsOf s).drop (k + 1)) := hd
      clear hd
      generalize hx : ((s[k].toNat : Nat) : Int) = x at *
      generalize hq : digitHd ((numsOf s).drop (k + 1)) = q at *
      have HQ : Hid (digitHd ((numsOf s).drop (k + 1)) = q) := hq
      clear hq
      have D' : ∀ w : World, Calls Tryz.prog 67 #[.string s, .int .i64 ((k : Int) + 1)] w fun e w' => e = .returned (.bool q) ∧ w' = w := fun w => D w
      clear D
      cases h1 : ofPiece x
      · by_cases h2 : x = 46
        · have h2' : (x == 46) = true := by simp [h2]
          cases q
          · go_wp2_with (first | (go_at_call 100; refine (ofPiece_any _ _).mono ?_; rintro e w2 ⟨rfl, rfl⟩; try rw [hx]; try rw [h1]) | (go_at_call 67; refine (D' _).mono ?_; rintro e w3 ⟨rfl, rfl⟩))
            have e := HH.out
            rw [HD.out, pieceLen_no (by simp [h1, HQ.out, h2'])] at e
            obtain rfl : k = E := by omega
            go_ret
            exact ⟨rfl, rfl⟩
          · go_wp2_with (first | (go_at_call 100; refine (ofPiece_any _ _).mono ?_; rintro e w2 ⟨rfl, rfl⟩; try rw [hx]; try rw [h1]) | (go_at_call 67; refine (D' _).mono ?_; rintro e w3 ⟨rfl, rfl⟩))
            go_round
            case rel => exact ⟨k + 1, by omega, by go_num, by
              have e := HH.out
              rw [HD.out, pieceLen_yes (by simp [h1, HQ.out, h2'])] at e
              omega⟩
            case measure => simp [intOf]; omega
        · have h2' : (x == 46) = false := by simp [h2]
          clear h2
          go_wp2_with (first | (go_at_call 100; refine (ofPiece_any _ _).mono ?_; rintro e w2 ⟨rfl, rfl⟩; try rw [hx]; try rw [h1]) | (go_at_call 67; refine (D' _).mono ?_; rintro e w3 ⟨rfl, rfl⟩))
          have e := HH.out
          rw [HD.out, pieceLen_no (by simp [h1, HQ.out, h2'])] at e
          obtain rfl : k = E := by omega
          go_ret
          exact ⟨rfl, rfl⟩
      · go_wp2_with (first | (go_at_call 100; refine (ofPiece_any _ _).mono ?_; rintro e w2 ⟨rfl, rfl⟩; try rw [hx]; try rw [h1]) | (go_at_call 67; refine (D' _).mono ?_; rintro e w3 ⟨rfl, rfl⟩))
        go_round
        case rel => exact ⟨k + 1, by omega, by go_num, by
          have e := HH.out
          rw [HD.out, pieceLen_yes (by simp [h1])] at e
          omega⟩
        case measure => simp [intOf]; omega
    · have e := HH.out
      rw [nums_end s k hlt] at e
      obtain rfl : k = E := by simpa [pieceLen] using e
      clear e
      go_wp2_with fail
      go_ret
      exact ⟨rfl, rfl⟩

theorem wordLength_any (s : ByteArray) (w : World) (hs : s.size ≤ 1048576) :
    Calls Tryz.prog 78 #[.string s] w fun e w' => e = .returned (.int .i64 (greatLen (numsOf s) : Nat)) ∧ w' = w := by
  have hL := greatLen_le (numsOf s)
  rw [numsOf_len] at hL
  generalize hE : greatLen (numsOf s) = E at *
  have HE : Hid (greatLen (numsOf s) = E) := hE
  clear hE
  go_enter Tryz.func78, Tryz.ntmps78
  go_wp2_with fail
  go_loop [3] (fun i => ∃ k : Nat, k ≤ s.size ∧ i = .int .i64 k ∧ k + greatLen ((numsOf s).drop k) = E)
    (fun i => s.size - (intOf i).toNat)
  case atStart => exact ⟨0, Nat.zero_le _, rfl, by rw [List.drop_zero, Nat.zero_add]; exact HE.out⟩
  case round =>
    obtain ⟨k, hk, rfl, hH⟩ := hrel
    have HH : Hid (k + greatLen ((numsOf s).drop k) = E) := hH
    clear hH HE
    by_cases hlt : k < s.size
    · have HD : Hid ((numsOf s).drop k = ((s[k].toNat : Nat) : Int) :: (numsOf s).drop (k + 1)) := nums_drop s k hlt
      generalize hx : ((s[k].toNat : Nat) : Int) = x at *
      cases h1 : great x
      · go_wp2_with (first | (go_at_call 77; refine (great_any _ _).mono ?_; rintro e w2 ⟨rfl, rfl⟩; try rw [hx]; try rw [h1]))
        have e := HH.out
        rw [HD.out, greatLen, if_neg (by rw [h1]; decide)] at e
        obtain rfl : k = E := by omega
        go_ret
        exact ⟨rfl, rfl⟩
      · go_wp2_with (first | (go_at_call 77; refine (great_any _ _).mono ?_; rintro e w2 ⟨rfl, rfl⟩; try rw [hx]; try rw [h1]))
        go_round
        case rel => exact ⟨k + 1, by omega, by go_num, by
          have e := HH.out
          rw [HD.out, greatLen, if_pos h1] at e
          omega⟩
        case measure => simp [intOf]; omega
    · have e := HH.out
      rw [nums_end s k hlt] at e
      obtain rfl : k = E := by simpa [greatLen] using e
      clear e
      go_wp2_with fail
      go_ret
      exact ⟨rfl, rfl⟩

/-- How far a text goes behind its first sign. -/
def qlen : Bool → List Int → Nat
  | _, [] => 0
  | true, _ :: r => qlen false r + 1
  | false, b :: r => if b = 34 then 1 else if b = 92 then qlen true r + 1 else qlen false r + 1
theorem qlen_le : ∀ (r : List Int) (f : Bool), qlen f r ≤ r.length
  | [], f => by cases f <;> simp [qlen]
  | b :: r, true => by have := qlen_le r false; simp [qlen]; omega
  | b :: r, false => by
    have h1 := qlen_le r false
    have h2 := qlen_le r true
    rw [qlen]
    split
    · simp
    · split <;> simp <;> omega
theorem quotedLength_any (s : ByteArray) (w : World) (h1 : 1 ≤ s.size) (hs : s.size ≤ 1048576) :
    Calls Tryz.prog 72 #[.string s] w fun e w' => e = .returned (.int .i64 ((1 + qlen false ((numsOf s).drop 1) : Nat))) ∧ w' = w := by
  have hL := qlen_le ((numsOf s).drop 1) false
  rw [List.length_drop, numsOf_len] at hL
  generalize hE : 1 + qlen false ((numsOf s).drop 1) = E at *
  have HE : Hid (1 + qlen false ((numsOf s).drop 1) = E) := hE
  have hEs : E ≤ s.size := by omega
  clear hE hL
  go_enter Tryz.func72, Tryz.ntmps72
  go_wp2_with fail
  go_loop [3] (fun i => ∃ k : Nat, k ≤ s.size + 1 ∧ i = .int .i64 k ∧ ((k ≤ s.size ∧ k + qlen false ((numsOf s).drop k) = E) ∨ (s.size < k ∧ E = s.size)))
    (fun i => s.size + 1 - (intOf i).toNat)
  case atStart => exact ⟨1, by omega, rfl, .inl ⟨h1, HE.out⟩⟩
  case round =>
    obtain ⟨k, hk, rfl, hH⟩ := hrel
    have HH : Hid ((k ≤ s.size ∧ k + qlen false ((numsOf s).drop k) = E) ∨ (s.size < k ∧ E = s.size)) := hH
    clear hH HE h1
    by_cases hlt : k < s.size
    · have HD : Hid ((numsOf s).drop k = ((s[k].toNat : Nat) : Int) :: (numsOf s).drop (k + 1)) := nums_drop s k hlt
      have HF : Hid (k + qlen false ((numsOf s).drop k) = E) := by
        rcases HH.out with h | h
        · exact h.2
        · omega
      clear HH
      generalize hx : ((s[k].toNat : Nat) : Int) = x at *
      by_cases h1 : x = 92
      · subst h1
        have hE : Hid (k + (qlen true ((numsOf s).drop (k + 1)) + 1) = E) := by
          have e := HF.out
          rw [HD.out, qlen, if_neg (by decide), if_pos rfl] at e
          exact e
        clear HF HD
        go_wp2_with fail
        go_round
        case rel =>
          refine ⟨k + 2, by omega, by go_num, ?_⟩
          have e := hE.out
          by_cases h2 : k + 1 < s.size
          · rw [nums_drop s (k + 1) h2, qlen] at e
            exact .inl ⟨by omega, by rw [show k + 2 = k + 1 + 1 from rfl]; omega⟩
          · rw [nums_end s (k + 1) h2, qlen] at e
            exact .inr ⟨by omega, by omega⟩
        case measure => simp [intOf]; omega
      · by_cases h2 : x = 34
        · subst h2
          have e := HF.out
          rw [HD.out, qlen, if_pos rfl] at e
          subst e
          clear HF HD h1
          go_wp2_with fail
          go_ret
          exact ⟨by go_num, rfl⟩
        · have hE : Hid (k + (qlen false ((numsOf s).drop (k + 1)) + 1) = E) := by
            have e := HF.out
            rw [HD.out, qlen, if_neg h2, if_neg h1] at e
            exact e
          have h1' : (x == 92) = false := by simp [h1]
          have h2' : (x == 34) = false := by simp [h2]
          clear HF HD h1 h2
          go_wp2_with fail
          go_round
          case rel => exact ⟨k + 1, by omega, by go_num, .inl ⟨by omega, by have e := hE.out; omega⟩⟩
          case measure => simp [intOf]; omega
    · have e : E = s.size := by
        rcases HH.out with h | h
        · rw [nums_end s k hlt, qlen] at h
          omega
        · exact h.2
      subst e
      clear HH
      go_wp2_with fail
      go_ret
      exact ⟨rfl, rfl⟩
end Go.Proofs.YtiodiooaaojbhaaGreatDoor

/- StrC -/
namespace Go.Proofs.YtiodiooaaojbhaaGreatDoor
open Go.RowKit Go.Deep
set_option maxRecDepth 100000

/-- A term's parts and what its text holds. -/
structure TB where
  t : Tm
  b : List Int
def TB.td (x : TB) : TD := ⟨x.t.k, x.b, x.t.n, x.t.s⟩
def enc4 (t : Tm) : List Value := [.int .i64 t.k, .slice t.a t.len t.cap, .int .i64 t.n, .int .i64 t.s]
/-- The cells of a row of terms. -/
def flat4 (l : List TB) : List Value := l.flatMap fun x => enc4 x.t
theorem flat4_len (l : List TB) : (flat4 l).length = l.length * 4 := by
  induction l with
  | nil => rfl
  | cons x l ih => simp only [flat4, List.flatMap_cons, List.length_append] at *; rw [ih]; simp [enc4]; omega
theorem flat4_get (l : List TB) (i c : Nat) (hi : i < l.length) (hc : c < 4) : (flat4 l)[i * 4 + c]? = (enc4 l[i].t)[c]? := by
  induction l generalizing i with
  | nil => cases hi
  | cons x l ih =>
    have e : flat4 (x :: l) = enc4 x.t ++ flat4 l := rfl
    rw [e]
    cases i with
    | zero => rw [List.getElem?_append_left (by simp [enc4]; omega)]; simp
    | succ i =>
      rw [List.getElem?_append_right (by simp [enc4]; omega)]
      have : (i + 1) * 4 + c - (enc4 x.t).length = i * 4 + c := by simp [enc4]; omega
      rw [this, ih i (by simpa using hi)]
      rfl
theorem flat4_take (l : List TB) (i : Nat) : flat4 (l.take i) = (flat4 l).take (i * 4) := by
  induction l generalizing i with
  | nil => simp [flat4]
  | cons x l ih =>
    cases i with
    | zero => simp [flat4]
    | succ i =>
      have e : flat4 (x :: l) = enc4 x.t ++ flat4 l := rfl
      have e2 : flat4 (x :: l.take i) = enc4 x.t ++ flat4 (l.take i) := rfl
      rw [List.take_succ_cons, e, e2, ih, show (i + 1) * 4 = (enc4 x.t).length + i * 4 by simp [enc4]; omega, List.take_length_add_append]
theorem flat4_drop (l : List TB) (i : Nat) : flat4 (l.drop i) = (flat4 l).drop (i * 4) := by
  induction l generalizing i with
  | nil => simp [flat4]
  | cons x l ih =>
    cases i with
    | zero => simp
    | succ i =>
      have e : flat4 (x :: l) = enc4 x.t ++ flat4 l := rfl
      rw [List.drop_succ_cons, e, ih, show (i + 1) * 4 = (enc4 x.t).length + i * 4 by simp [enc4]; omega, List.drop_length_add_append]

/-- Terms behind an address. -/
def TRow (w : World) (a : Option Addr) (l : List TB) : Prop := l = [] ∨ ∃ b off, a = some ⟨b, off, none⟩ ∧ b < w.heap.size ∧ ∀ j u, (flat4 l)[j]? = some u → w.cell? ⟨b, off + j, none⟩ = some u
theorem TRow.below {w w' : World} {a : Option Addr} {l : List TB} (h : TRow w a l) (hb : Below w.heap.size w w') : TRow w' a l := by
  rcases h with h | ⟨b, off, ha, hl, hc⟩
  · exact .inl h
  · exact .inr ⟨b, off, ha, Nat.lt_of_lt_of_le hl hb.size, fun j u hu => (hb.cell (p := ⟨b, off + j, none⟩) hl).trans (hc j u hu)⟩
theorem TRow.at {w : World} {b off : Nat} {l : List TB} (hc : ∀ j u, (flat4 l)[j]? = some u → w.cell? ⟨b, off + j, none⟩ = some u) (i : Nat) (hi : i < l.length) :
    w.cell? ⟨b, off + i * 4, none⟩ = some (.int .i64 l[i].t.k) ∧ w.cell? ⟨b, off + i * 4 + 1, none⟩ = some (.slice l[i].t.a l[i].t.len l[i].t.cap) ∧ w.cell? ⟨b, off + i * 4 + 2, none⟩ = some (.int .i64 l[i].t.n) ∧ w.cell? ⟨b, off + i * 4 + 3, none⟩ = some (.int .i64 l[i].t.s) := by
  refine ⟨hc (i * 4 + 0) _ ?_, ?_, ?_, ?_⟩
  · rw [flat4_get l i 0 hi (by omega)]; rfl
  · rw [Nat.add_assoc]; exact hc _ _ (by rw [flat4_get l i 1 hi (by omega)]; rfl)
  · rw [Nat.add_assoc]; exact hc _ _ (by rw [flat4_get l i 2 hi (by omega)]; rfl)
  · rw [Nat.add_assoc]; exact hc _ _ (by rw [flat4_get l i 3 hi (by omega)]; rfl)
/-- Their texts. -/
def TTxt (w : World) (l : List TB) : Prop := ∀ x ∈ l, Bs w x.t.a x.t.len x.b
theorem TTxt.below {w w' : World} {l : List TB} (h : TTxt w l) (hb : Below w.heap.size w w') : TTxt w' l := fun x hx => (h x hx).below hb

/-- A row of terms of the call's own, or none as yet. -/
def OwnTR (w : World) (B : Nat) (v : Value) (l : List TB) : Prop := w.ownsRow B 43 4 v l.length (flat4 l) ∧ ∀ g, v.ownBlock = some g → B ≤ g ∧ g < w.heap.size
theorem OwnTR.nil (w : World) (B : Nat) : OwnTR w B (.slice none 0 0) [] := ⟨World.ownsRow_nil _ _ _ _, fun g h => by cases h⟩
theorem OwnTR.below {w w' : World} {B : Nat} {v : Value} {l : List TB} (h : OwnTR w B v l) (hb : Below w.heap.size w w') : OwnTR w' B v l := by
  obtain ⟨⟨h1, h2⟩, hl⟩ := h
  refine ⟨⟨h1, ?_⟩, fun g hg => ⟨(hl g hg).1, Nat.lt_of_lt_of_le (hl g hg).2 hb.size⟩⟩
  rcases h2 with h2 | ⟨g', cap', cur, hv, hB, hh, r⟩
  · exact .inl h2
  · refine .inr ⟨g', cap', cur, hv, hB, ?_, r⟩
    have := (hl g' (by rw [hv]; rfl)).2
    rw [hb.block g' this]
    exact hh
theorem OwnTR.form {w : World} {B : Nat} {v : Value} {l : List TB} (h : OwnTR w B v l) : ∃ a cap, v = .slice a l.length cap ∧ TRow w a l ∧ l.length ≤ cap ∧ (a = none → l = [] ∧ cap = 0) ∧ ∀ x, a = some x → ∃ g, x = ⟨g, 0, none⟩ ∧ B ≤ g ∧ g < w.heap.size := by
  rcases h.1.2 with ⟨rfl, h0⟩ | ⟨g, cap, cur, rfl, hB, hh, hle, _, hsz, htk⟩
  · have := List.eq_nil_of_length_eq_zero h0
    subst this
    exact ⟨none, 0, rfl, .inl rfl, by simp, fun _ => ⟨rfl, rfl⟩, fun x hx => by cases hx⟩
  · have hlt := (h.2 g rfl).2
    refine ⟨some ⟨g, 0, none⟩, cap, rfl, .inr ⟨g, 0, rfl, hlt, fun j u hu => ?_⟩, hle, fun hx => (by cases hx), fun x hx => by cases hx; exact ⟨g, rfl, hB, hlt⟩⟩
    rw [Nat.zero_add]
    have hj : j < l.length * 4 := by
      apply Classical.byContradiction
      intro hn
      rw [List.getElem?_eq_none (by rw [flat4_len]; omega)] at hu
      cases hu
    rw [← htk, List.getElem?_take, if_pos hj] at hu
    simp only [World.cell?, hh]
    simpa using hu

theorem Tryz.info43 : (Tryz.prog.info? 43).map (fun i => (i.zero, i.size, i.bytes)) = some (some (.agg #[.int .i64 0, .slice none 0 0, .int .i64 0, .int .i64 0]), 4, 48) := by kernel_rfl

/-- The cells of some of them. -/
theorem TRow.news {w : World} {b off : Nat} {l : List TB} (hc : ∀ j u, (flat4 l)[j]? = some u → w.cell? ⟨b, off + j, none⟩ = some u) (i m : Nat) :
    ∀ j u, (flat4 ((l.drop i).take m))[j]? = some u → w.cell? ((⟨b, off + i * 4, none⟩ : Addr).add j) = some u := by
  intro j u hu
  have ea : (⟨b, off + i * 4, none⟩ : Addr).add j = ⟨b, off + (i * 4 + j), none⟩ := by
    by_cases h0 : j = 0 <;> simp [Addr.add, h0, Nat.add_assoc]
  rw [ea]
  refine hc _ _ ?_
  rw [flat4_take, flat4_drop, List.getElem?_take] at hu
  split at hu
  · rw [List.getElem?_drop] at hu; exact hu
  · cases hu
end Go.Proofs.YtiodiooaaojbhaaGreatDoor

/- GdrN -/
namespace Go.Proofs.YtiodiooaaojbhaaGreatDoor
open Go.RowKit Go.Deep Go.Sort Go.Lib
set_option maxRecDepth 100000

theorem ownG_cells {W : World} {B g n cap : Nat} {l : List G1} (h : OwnG W B (.slice (some ⟨g, 0, none⟩) n cap) l) : ∃ cur, W.heap[g]? = some (.cells cur 45 (0, 0)) ∧ n ≤ cap ∧ cap ≤ maxLen ∧ cur.size = cap * 12 ∧ cur.toList.take (n * 12) = flatG l ∧ n = l.length ∧ B ≤ g ∧ g < W.heap.size := by
  obtain ⟨hB, hgl⟩ := h.2 g rfl
  rcases h.1.2 with ⟨h, _⟩ | ⟨g', c', cur, hv, _, hh, h2, h3, h4, h5⟩
  · cases h
  · cases hv
    exact ⟨cur, hh, h2, h3, h4, h5, rfl, hB, hgl⟩
theorem ownG_mk {W : World} {B g n cap : Nat} {l : List G1} {cur : Array Value} (h1 : W.heap[g]? = some (.cells cur 45 (0, 0))) (h2 : n ≤ cap) (h3 : cap ≤ maxLen) (h4 : cur.size = cap * 12) (h5 : cur.toList.take (n * 12) = flatG l) (h6 : n = l.length) (h7 : B ≤ g) (h8 : g < W.heap.size) : OwnG W B (.slice (some ⟨g, 0, none⟩) n cap) l := by
  subst h6
  refine ⟨⟨by rw [flatG_len], .inr ⟨g, cap, cur, rfl, h7, h1, h2, h3, h4, h5⟩⟩, fun g' h' => ?_⟩
  have : g = g' := by simpa [Value.ownBlock] using h'
  subst this
  exact ⟨h7, h8⟩
theorem ownG_fr {W : World} {B g n cap : Nat} {l : List G1} (h : OwnG W B (.slice (some ⟨g, 0, none⟩) n cap) l) (o : Nat) : W.frozen? ⟨g, o, none⟩ = false := by
  obtain ⟨cur, hh, _⟩ := ownG_cells h
  simp [World.frozen?, hh]
theorem heap_setG {W : World} {g o : Nat} {v : Value} {cur : Array Value} {T : TypeId} {fz : Nat × Nat} (h : W.heap[g]? = some (.cells cur T fz)) : (W.setCell ⟨g, o, none⟩ v).heap[g]? = some (.cells (cur.setIfInBounds o v) T fz) := by
  rw [setCell_eq]
  show (W.heap.modify g (onCells (·.setIfInBounds o v)))[g]? = _
  rw [Array.getElem?_modify, if_pos rfl, h]
  rfl
end Go.Proofs.YtiodiooaaojbhaaGreatDoor

/- GtxD -/
namespace Go.Proofs.YtiodiooaaojbhaaGreatDoor
open Go.RowKit Go.Deep
set_option maxRecDepth 100000

/-- There lies a byte. -/
def U8 (w : World) (b j : Nat) : Prop := ∃ v, w.cell? ⟨b, j, none⟩ = some (.int .u8 v)
/-- Bytes stay bytes, and what may be written may be. -/
structure U8K (w w' : World) : Prop where
  u : ∀ b j, U8 w b j → U8 w' b j
  f : ∀ p, w'.frozen? p = w.frozen? p
theorem U8K.refl (w : World) : U8K w w := ⟨fun _ _ h => h, fun _ => rfl⟩
theorem U8K.trans {w w' w'' : World} (h : U8K w w') (k : U8K w' w'') : U8K w w'' := ⟨fun b j q => k.u b j (h.u b j q), fun p => (k.f p).trans (h.f p)⟩
theorem cell_set_other {w : World} {g i b j : Nat} {v : Value} (h : b ≠ g ∨ j ≠ i) : (w.setCell ⟨g, i, none⟩ v).cell? ⟨b, j, none⟩ = w.cell? ⟨b, j, none⟩ := by
  by_cases hb : b = g
  · subst hb
    exact set_other (h.resolve_left (fun k => k rfl))
  · exact World.cell?_of_block (Below.heap_setCell _ _ _ _ (by exact hb))

/-- What lies below B or from C on is as it was. -/
structure Mid (B C : Nat) (w w' : World) : Prop where
  os : w'.os = w.os
  tape : w'.tape = w.tape
  output : w'.output = w.output
  size : w'.heap.size = w.heap.size
  block : ∀ b, b < B ∨ C ≤ b → w'.heap[b]? = w.heap[b]?
theorem Mid.refl (B C : Nat) (w : World) : Mid B C w w := ⟨rfl, rfl, rfl, rfl, fun _ _ => rfl⟩
theorem Mid.but {B C g : Nat} {w w1 w2 : World} (h : Mid B C w w1) (k : But g w1 w2) (hB : B ≤ g) (hC : g < C) : Mid B C w w2 :=
  ⟨k.os.trans h.os, k.tape.trans h.tape, k.output.trans h.output, k.size.trans h.size, fun b hb => (k.block b (by omega)).trans (h.block b hb)⟩
theorem Mid.below {B C : Nat} {w w' : World} (h : Mid B C w w') : Below B w w' := ⟨h.os, h.tape, h.output, by rw [h.size]; exact Nat.le_refl _, fun b hb => h.block b (.inl hb)⟩

/-- A row of triples that may be marked. -/
structure Mk (w : World) (B C g n : Nat) (A1 A2 A3 l1 l2 l3 : Nat → Nat) : Prop where
  ex : Ex w g (n * 12)
  wr : Wr w g (n * 12)
  s1 : ∀ i, i < n → w.cell? ⟨g, i * 12 + 1, none⟩ = some (.slice (some ⟨A1 i, 0, none⟩) (l1 i) (l1 i))
  s2 : ∀ i, i < n → w.cell? ⟨g, i * 12 + 5, none⟩ = some (.slice (some ⟨A2 i, 0, none⟩) (l2 i) (l2 i))
  s3 : ∀ i, i < n → w.cell? ⟨g, i * 12 + 9, none⟩ = some (.slice (some ⟨A3 i, 0, none⟩) (l3 i) (l3 i))
  t1 : ∀ i, i < n → ∀ j, j < l1 i → U8 w (A1 i) j ∧ w.frozen? ⟨A1 i, j, none⟩ = false
  t2 : ∀ i, i < n → ∀ j, j < l2 i → U8 w (A2 i) j ∧ w.frozen? ⟨A2 i, j, none⟩ = false
  t3 : ∀ i, i < n → ∀ j, j < l3 i → U8 w (A3 i) j ∧ w.frozen? ⟨A3 i, j, none⟩ = false
  b1 : ∀ i, i < n → g < A1 i ∧ A1 i < C ∧ l1 i ≤ 1048576
  b2 : ∀ i, i < n → g < A2 i ∧ A2 i < C ∧ l2 i ≤ 1048576
  b3 : ∀ i, i < n → g < A3 i ∧ A3 i < C ∧ l3 i ≤ 1048576
  bg : B ≤ g ∧ g < C
theorem Mk.set {w : World} {B C g n i : Nat} {A1 A2 A3 l1 l2 l3 : Nat → Nat} (h : Mk w B C g n A1 A2 A3 l1 l2 l3) (v : Value) (hi : i % 4 ≠ 1) : Mk (w.setCell ⟨g, i, none⟩ v) B C g n A1 A2 A3 l1 l2 l3 := by
  refine ⟨h.ex.set, fun j hj => by rw [World.frozen?_setCell]; exact h.wr j hj, fun j hj => ?_, fun j hj => ?_, fun j hj => ?_, fun j hj q hq => ?_, fun j hj q hq => ?_, fun j hj q hq => ?_, h.b1, h.b2, h.b3, h.bg⟩
  · rw [cell_set_other (by omega)]; exact h.s1 j hj
  · rw [cell_set_other (by omega)]; exact h.s2 j hj
  · rw [cell_set_other (by omega)]; exact h.s3 j hj
  · unfold U8; rw [cell_set_other (by have := h.b1 j hj; omega), World.frozen?_setCell]; exact h.t1 j hj q hq
  · unfold U8; rw [cell_set_other (by have := h.b2 j hj; omega), World.frozen?_setCell]; exact h.t2 j hj q hq
  · unfold U8; rw [cell_set_other (by have := h.b3 j hj; omega), World.frozen?_setCell]; exact h.t3 j hj q hq
theorem Mid.set {B C g i : Nat} {w w1 : World} {v : Value} (h : Mid B C w w1) (hB : B ≤ g) (hC : g < C) : Mid B C w (w1.setCell ⟨g, i, none⟩ v) := h.but ((But.refl g w1).set i v) hB hC

end Go.Proofs.YtiodiooaaojbhaaGreatDoor

/- DrwE -/
namespace Go.Proofs.YtiodiooaaojbhaaGreatDoor
open Go.RowKit Go.Deep

/-- A term's parts, with its text's place. -/
structure Tq where
  k : Int
  a : Option Addr
  len : Nat
  cap : Nat
  bs : List Int
  n : Int
  s : Int
/-- Its numbers are of 64 bits, its text is there. -/
def Tq.at (t : Tq) (w : World) : Prop := (-9223372036854775808 ≤ t.n ∧ t.n ≤ 9223372036854775807) ∧ (-9223372036854775808 ≤ t.s ∧ t.s ≤ 9223372036854775807) ∧ Bs w t.a t.len t.bs
theorem Tq.at.below {t : Tq} {w w' : World} (h : t.at w) (hb : Below w.heap.size w w') : t.at w' := ⟨h.1, h.2.1, h.2.2.below hb⟩

end Go.Proofs.YtiodiooaaojbhaaGreatDoor

/- OpnC -/
namespace Go.Proofs.YtiodiooaaojbhaaGreatDoor
open Go.ChangeShapes Go.WideShapes Go.ChangeAt Go.RowKit Go.Joins

set_option maxRecDepth 100000 in
theorem open_code {H : Type} {enc : TypeId × Value → H} {W : World} {b0 : Nat} {v : Value} {d : DataW H} {p : List MemPlace}
    (hv : Value.okWide Tryz.prog W .any b0 22 v) (h : DataW.Trod enc Tryz.prog W 0 (fun _ => true) true 22 v d p) :
    ∃ (a : Option Addr) (len cap : Nat), v = .slice a len cap ∧ len ≤ 9223372036854775807 ∧ Code W a len := by
  obtain ⟨a1, len, cap, rfl⟩ := okWide_slice Tryz.underlying22 hv
  obtain ⟨fuel, hf⟩ := h
  refine ⟨a1, len, cap, rfl, ?_⟩
  rcases open_ints Tryz.underlying22 Tryz.underlying5 Tryz.cells5 hf with ⟨hcs, _⟩ | ⟨x, l, c, zs, hcs, _, hl, hm, hz, _, hcell, hwz⟩
  · simp [Value.cells] at hcs
    obtain ⟨rfl, rfl, rfl⟩ := hcs
    exact ⟨by omega, .inl rfl⟩
  · simp [Value.cells] at hcs
    obtain ⟨rfl, rfl, rfl⟩ := hcs
    simp only [if_true] at hz
    refine ⟨by unfold maxLen at hm; omega, ?_⟩
    by_cases h0 : len = 0
    · exact .inl h0
    right
    obtain ⟨b, off, spot⟩ := x
    have hc0 := hcell 0 (by omega)
    have hspot : spot = none := by simpa [Addr.add] using World.cell?_spot hc0
    subst hspot
    refine ⟨b, off, rfl, by simpa [Addr.add] using cell_lt hc0, fun i hi => ?_⟩
    have h := hcell i (by omega)
    have ea : (⟨b, off, none⟩ : Addr).add i = ⟨b, off + i, none⟩ := by
      by_cases h0 : i = 0 <;> simp [Addr.add, h0]
    rw [ea] at h
    have hil : i < zs.length := by omega
    have hb := bounds_u8 (hwz _ (List.getElem_mem hil))
    refine ⟨zs[i], ?_, hb.1, hb.2⟩
    rw [h, List.getD_eq_getElem?_getD, List.getElem?_eq_getElem hil]
    rfl
end Go.Proofs.YtiodiooaaojbhaaGreatDoor

/- ShwI -/
namespace Go.Proofs.YtiodiooaaojbhaaGreatDoor
open Go.RowKit Go.Deep
set_option maxRecDepth 100000

/-- The library's table of powers of ten lies as it is written. -/
def Tab (w : World) : Prop := Lib.TabIs Tryz.prog w "internal/strconv.uint64pow10" .u64 Lib.pow10Tab
theorem tab_lt {w : World} (h : Tab w) : ∃ g, Tryz.prog.globalNamed "internal/strconv.uint64pow10" = some g ∧ g < w.heap.size := by
  unfold Tab Lib.TabIs World.var? at h
  cases hg : Tryz.prog.globalNamed "internal/strconv.uint64pow10" with
  | none => rw [hg] at h; cases h
  | some g =>
    refine ⟨g, rfl, ?_⟩
    apply Classical.byContradiction
    intro hn
    rw [hg] at h
    simp only [Option.bind_some] at h
    rw [Array.getElem?_eq_none (by omega)] at h
    cases h
theorem Tab.below {w w' : World} (h : Tab w) (hb : Below w.heap.size w w') : Tab w' := by
  obtain ⟨g, hg, hlt⟩ := tab_lt h
  exact var?_below hb hg hlt h

theorem below_grow (w : World) (k : Nat) (os : Array Obj) : Below w.heap.size w (Go.Sort.grow (w.drewN k) os) := by
  have h0 : Below w.heap.size w (w.drewN k) := below_drewN (Below.refl _ _) k
  refine ⟨h0.os, h0.tape, h0.output, ?_, fun b hb => ?_⟩
  · simp
  · rw [Go.Sort.heap_grow_old _ _ (by simpa using hb)]
    exact h0.block b hb

theorem decDigits_nums (n : Nat) : (Lib.decDigits n).map (fun b => (b.toNat : Int)) = digitsL n := by
  induction n using Nat.strongRecOn with
  | ind n ih =>
    rw [Lib.decDigits]
    split
    · rename_i h
      rw [digitsL_small h]
      simp
      omega
    · rename_i h
      rw [digitsL_step h, List.map_append, ih (n / 10) (by omega)]
      simp
      omega

/-- What a text is told as. -/
def StrRes (w : World) (bs : List Int) (e : Ending) (w' : World) : Prop := ∃ s, e = .returned (.string s) ∧ numsOf s = bs ∧ Below w.heap.size w w'
theorem itoa_any (n : Int) (w : World) (h0 : 0 ≤ n) (h1 : n ≤ 9223372036854775807) (ht : Tab w) :
    Calls Tryz.prog 115 #[.int .i64 n] w fun e w' => StrRes w (digitsL n.toNat) e w' := by
  refine (Tryz.strconv_Itoa n (by omega) h1 w ht).mono ?_
  rintro e w' ⟨rfl, k, os, rfl⟩
  refine ⟨_, rfl, ?_, below_grow _ _ _⟩
  have hn : ¬ n < 0 := by omega
  simp only [numsOf, Lib.itoa, hn, if_false]
  exact decDigits_nums n.toNat

theorem repeatL_nums (c : Nat) : (Lib.repeatL [48] c).map (fun b : UInt8 => (b.toNat : Int)) = List.replicate c 48 := by
  induction c with
  | zero => rfl
  | succ c ih =>
    rw [Lib.repeatL, List.map_append, ih, List.replicate_succ]
    rfl
theorem repeat0_any (c : Nat) (w : World) (h : c ≤ 1000) :
    Calls Tryz.prog 126 #[.string ⟨#[48]⟩, .int .i64 c] w fun e w' => StrRes w (List.replicate c 48) e w' := by
  refine (Tryz.strings_Repeat ⟨#[48]⟩ c w (by omega) (by show 1 * c ≤ _; omega)).mono ?_
  rintro e w' ⟨rfl, hb⟩
  exact ⟨_, rfl, by simp only [numsOf]; exact repeatL_nums c, hb⟩

theorem size_pos (n : Int) (w : World) (h : 0 ≤ n) : Calls Tryz.prog 125 #[.int .i64 n] w fun e w' => e = .returned (.int .i64 n) ∧ w' = w := by
  go_enter Tryz.func125, Tryz.ntmps125
  go_wp2
  go_ret
  exact ⟨rfl, rfl⟩
theorem size_neg (n : Int) (w : World) (h : 0 < n) (h1 : n ≤ 9223372036854775807) : Calls Tryz.prog 125 #[.int .i64 (-n)] w fun e w' => e = .returned (.int .i64 n) ∧ w' = w := by
  go_enter Tryz.func125, Tryz.ntmps125
  go_wp2
  go_ret
  exact ⟨rfl, rfl⟩

/-- A box of two. -/
def At2 (w : World) (b : Nat) (v0 v1 : Value) : Prop := b < w.heap.size ∧ w.cell? ⟨b, 0, none⟩ = some v0 ∧ w.cell? ⟨b, 1, none⟩ = some v1
theorem At2.below {w w' : World} {b : Nat} {v0 v1 : Value} (h : At2 w b v0 v1) (hb : Below w.heap.size w w') : At2 w' b v0 v1 := by
  obtain ⟨hl, h0, h1⟩ := h
  exact ⟨Nat.lt_of_lt_of_le hl hb.size, (hb.cell (p := ⟨b, 0, none⟩) hl).trans h0, (hb.cell (p := ⟨b, 1, none⟩) hl).trans h1⟩
theorem At2.new (w : World) (v0 v1 : Value) (t : TypeId) : At2 (w.alloc (.cells #[v0, v1] t)) w.heap.size v0 v1 := by
  refine ⟨by simp, by simp [go_sem], by simp [go_sem]⟩

theorem p10_nat (s : Nat) : p10 s = ((10 ^ s : Nat) : Int) := by
  induction s with
  | zero => rfl
  | succ s ih =>
    rw [Nat.pow_succ]
    simp only [p10, ih]
    omega
theorem numsOf_nil : numsOf ⟨#[]⟩ = [] := rfl

set_option maxHeartbeats 1000000 in
theorem text_pos (n : Int) (s : Nat) (w : World) (hs : s ≤ 6) (hn : 0 ≤ n) (hn' : n ≤ 1000000000000000) (ht : Tab w) :
    Calls Tryz.prog 117 #[.agg #[.int .i64 n, .int .i64 s]] w fun e w' => StrRes w (numL n s) e w' := by
  have P := fun w => tenTo_any s w hs
  have hp := p10_pos s
  have hp6 := p10_le hs
  have d0 : 0 ≤ n / p10 s := Int.ediv_nonneg hn (by omega)
  have d1 : n / p10 s ≤ n := Int.ediv_le_self _ hn
  have m0 : 0 ≤ n % p10 s := Int.emod_nonneg _ (by omega)
  have m1 : n % p10 s < p10 s := Int.emod_lt_of_pos _ (by omega)
  have I1 := fun w ht => itoa_any (n / p10 s) w d0 (by omega) ht
  have I2 := fun w ht => itoa_any (n % p10 s) w m0 (by omega) ht
  have hL1 := digitsL_len 16 (n / p10 s).toNat (by omega)
  have hL2 : s ≠ 0 → (digitsL (n % p10 s).toNat).length ≤ s := fun h0 => by
    have := digitsL_len (s - 1) (n % p10 s).toNat (by have := p10_nat s; rw [show s - 1 + 1 = s by omega]; omega)
    omega
  have HA := At2.new w (.int .i64 n) (.int .i64 s) 120
  have HT : Hid (Tab (w.alloc (.cells #[.int .i64 n, .int .i64 s] 120))) := ht.below (bl_a _)
  have SZ := fun w => size_pos n w hn
  unfold numL
  generalize digitsL (n / p10 s).toNat = d at *
  generalize digitsL (n % p10 s).toNat = f at *
  go_enter Tryz.func117, Tryz.ntmps117
  go_wp2_with fail
  refine (P _).mono ?_
  rintro e w1 ⟨rfl, rfl⟩
  go_wp2_with fail
  refine (SZ _).mono ?_
  rintro e w1 ⟨rfl, rfl⟩
  go_wp2_with fail
  refine (I1 _ HT.out).mono ?_
  rintro e w2 ⟨s1, rfl, hs1, hb1⟩
  obtain ⟨ha0, ha1, ha2⟩ := HA.below hb1
  have HB2 : Hid (Below w.heap.size w w2) := bl_trans (bl_a _) hb1
  have HT2 : Hid (Tab w2) := HT.out.below hb1
  have HS1 : Hid (numsOf s1 = d) := hs1
  have hz1 : s1.size ≤ 17 := by rw [← numsOf_len, hs1]; omega
  clear hb1 hs1 HT HA I1 P
  by_cases hs0 : s = 0
  · go_wp2_with fail
    go_ret
    refine ⟨_, rfl, ?_, HB2.out⟩
    simp [HS1.out, numsOf_append, numsOf_nil]
  · go_wp2_with fail
    refine (SZ _).mono ?_
    rintro e w3 ⟨rfl, rfl⟩
    go_wp2_with fail
    refine (I2 _ HT2.out).mono ?_
    rintro e w4 ⟨s2, rfl, hs2, hb4⟩
    have ha4 := (hb4.cell (p := ⟨w.heap.size, 1, none⟩) ha0).trans ha2
    have HB4 : Hid (Below w.heap.size w w4) := bl_trans HB2.out hb4
    have hz : s2.size = f.length := by rw [← numsOf_len, hs2]
    have HS2 : Hid (numsOf s2 = f) := hs2
    clear hb4 hs2 I2 HT2 SZ
    have hf := hL2 hs0
    have R : ∀ c : Int, c = ((s - f.length : Nat) : Int) → ∀ w, Calls Tryz.prog 126 #[.string ⟨#[48]⟩, .int .i64 c] w fun e w' => StrRes w (List.replicate (s - f.length) 48) e w' := fun c hc w => by
      rw [hc]
      exact repeat0_any (s - f.length) w (by omega)
    go_wp2_with fail
    refine (R _ (by omega) _).mono ?_
    rintro e w5 ⟨s3, rfl, hs3, hb5⟩
    have hz3 : s3.size ≤ 6 := by rw [← numsOf_len, hs3]; simp; omega
    have HB5 : Hid (Below w.heap.size w w5) := bl_trans HB4.out hb5
    have HS3 : Hid (numsOf s3 = List.replicate (s - f.length) 48) := hs3
    clear hb5 hs3 R
    go_wp2_with fail
    go_ret
    refine ⟨_, rfl, ?_, HB5.out⟩
    simp only [numsOf_append, numsOf_nil, HS1.out, HS2.out, HS3.out]
    simp [numsOf]
set_option maxHeartbeats 1000000 in
theorem text_neg (n : Int) (s : Nat) (w : World) (hs : s ≤ 6) (hn1 : 0 < n) (hn' : n ≤ 1000000000000000) (ht : Tab w) :
    Calls Tryz.prog 117 #[.agg #[.int .i64 (-n), .int .i64 s]] w fun e w' => StrRes w (45 :: numL n s) e w' := by
  have hn : 0 ≤ n := by omega
  have P := fun w => tenTo_any s w hs
  have hp := p10_pos s
  have hp6 := p10_le hs
  have d0 : 0 ≤ n / p10 s := Int.ediv_nonneg hn (by omega)
  have d1 : n / p10 s ≤ n := Int.ediv_le_self _ hn
  have m0 : 0 ≤ n % p10 s := Int.emod_nonneg _ (by omega)
  have m1 : n % p10 s < p10 s := Int.emod_lt_of_pos _ (by omega)
  have I1 := fun w ht => itoa_any (n / p10 s) w d0 (by omega) ht
  have I2 := fun w ht => itoa_any (n % p10 s) w m0 (by omega) ht
  have hL1 := digitsL_len 16 (n / p10 s).toNat (by omega)
  have hL2 : s ≠ 0 → (digitsL (n % p10 s).toNat).length ≤ s := fun h0 => by
    have := digitsL_len (s - 1) (n % p10 s).toNat (by have := p10_nat s; rw [show s - 1 + 1 = s by omega]; omega)
    omega
  have HA := At2.new w (.int .i64 (-n)) (.int .i64 s) 120
  have HT : Hid (Tab (w.alloc (.cells #[.int .i64 (-n), .int .i64 s] 120))) := ht.below (bl_a _)
  have SZ := fun w => size_neg n w hn1 (by omega)
  unfold numL
  generalize digitsL (n / p10 s).toNat = d at *
  generalize digitsL (n % p10 s).toNat = f at *
  go_enter Tryz.func117, Tryz.ntmps117
  go_wp2_with fail
  refine (P _).mono ?_
  rintro e w1 ⟨rfl, rfl⟩
  go_wp2_with fail
  refine (SZ _).mono ?_
  rintro e w1 ⟨rfl, rfl⟩
  go_wp2_with fail
  refine (I1 _ HT.out).mono ?_
  rintro e w2 ⟨s1, rfl, hs1, hb1⟩
  obtain ⟨ha0, ha1, ha2⟩ := HA.below hb1
  have HB2 : Hid (Below w.heap.size w w2) := bl_trans (bl_a _) hb1
  have HT2 : Hid (Tab w2) := HT.out.below hb1
  have HS1 : Hid (numsOf s1 = d) := hs1
  have hz1 : s1.size ≤ 17 := by rw [← numsOf_len, hs1]; omega
  clear hb1 hs1 HT HA I1 P
  by_cases hs0 : s = 0
  · go_wp2_with fail
    go_ret
    refine ⟨_, rfl, ?_, HB2.out⟩
    simp [HS1.out, numsOf_append]
    rfl
  · go_wp2_with fail
    refine (SZ _).mono ?_
    rintro e w3 ⟨rfl, rfl⟩
    go_wp2_with fail
    refine (I2 _ HT2.out).mono ?_
    rintro e w4 ⟨s2, rfl, hs2, hb4⟩
    have ha4 := (hb4.cell (p := ⟨w.heap.size, 1, none⟩) ha0).trans ha2
    have HB4 : Hid (Below w.heap.size w w4) := bl_trans HB2.out hb4
    have hz : s2.size = f.length := by rw [← numsOf_len, hs2]
    have HS2 : Hid (numsOf s2 = f) := hs2
    clear hb4 hs2 I2 HT2 SZ
    have hf := hL2 hs0
    have R : ∀ c : Int, c = ((s - f.length : Nat) : Int) → ∀ w, Calls Tryz.prog 126 #[.string ⟨#[48]⟩, .int .i64 c] w fun e w' => StrRes w (List.replicate (s - f.length) 48) e w' := fun c hc w => by
      rw [hc]
      exact repeat0_any (s - f.length) w (by omega)
    go_wp2_with fail
    refine (R _ (by omega) _).mono ?_
    rintro e w5 ⟨s3, rfl, hs3, hb5⟩
    have hz3 : s3.size ≤ 6 := by rw [← numsOf_len, hs3]; simp; omega
    have HB5 : Hid (Below w.heap.size w w5) := bl_trans HB4.out hb5
    have HS3 : Hid (numsOf s3 = List.replicate (s - f.length) 48) := hs3
    clear hb5 hs3 R
    go_wp2_with fail
    go_ret
    refine ⟨_, rfl, ?_, HB5.out⟩
    simp only [numsOf_append, HS1.out, HS2.out, HS3.out]
    simp [numsOf]
end Go.Proofs.YtiodiooaaojbhaaGreatDoor
