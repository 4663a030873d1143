/- Texts put together: RdB StrC GdrN -/
import Derived.Test.YtoclingolfdfeaaGreatDoorMk17
import Derived.Test.YtoclingolfdfeaaGreatDoorMk12
import Derived.Test.YtoclingolfdfeaaGreatDoorMk08
import Derived.Deep.AppendLies
import Derived.Test.YtoclingolfdfeaaGreatDoorMk13
import Derived.Sort.Row
/- RdB -/
namespace Go.Proofs.YtoclingolfdfeaaGreatDoor
open Go.RowKit Go.Deep
set_option maxRecDepth 100000

theorem nums_at (s : ByteArray) (k : Nat) (h : k < s.size) : (numsOf s)[k]? = some ((s[k].toNat : Nat) : Int) := by
  have h' : k < s.data.toList.length := by simpa using h
  simp only [numsOf, List.getElem?_map, List.getElem?_eq_getElem h', Option.map_some]
  rfl
theorem nums_drop (s : ByteArray) (k : Nat) (h : k < s.size) : (numsOf s).drop k = ((s[k].toNat : Nat) : Int) :: (numsOf s).drop (k + 1) := by
  have h' : k < (numsOf s).length := by rw [numsOf_len]; exact h
  rw [List.drop_eq_getElem_cons h']
  have := nums_at s k h
  rw [List.getElem?_eq_getElem h'] at this
  rw [Option.some.inj this]
theorem nums_end (s : ByteArray) (k : Nat) (h : ¬ k < s.size) : (numsOf s).drop k = [] := List.drop_of_length_le (by rw [numsOf_len]; omega)
theorem nums_extract (s : ByteArray) (a b : Nat) : numsOf (s.extract a b) = ((numsOf s).drop a).take (b - a) := by
  unfold numsOf
  rw [← List.map_drop, ← List.map_take]
  congr 1
  simp [ByteArray.data_extract, Array.toList_extract, List.extract_eq_take_drop]

theorem great_any (b : Int) (w : World) : Calls Tryz.prog 145 #[.int .u8 b] w fun e w' => e = .returned (.bool (great b)) ∧ w' = w := by
  go_enter Tryz.func145, Tryz.ntmps145
  go_wp2
  all_goals go_ret
  all_goals (refine ⟨?_, rfl⟩; simp [great]; try omega)
theorem gap_any (b : Int) (w : World) : Calls Tryz.prog 96 #[.int .u8 b] w fun e w' => e = .returned (.bool (gapB b)) ∧ w' = w := by
  go_enter Tryz.func96, Tryz.ntmps96
  go_wp2
  all_goals go_ret
  all_goals (refine ⟨congrArg (fun b => Ending.returned (Value.bool b)) ?_, rfl⟩; rw [Bool.eq_iff_iff]; simp_all [gapB])
theorem ofPiece_any (b : Int) (w : World) : Calls Tryz.prog 163 #[.int .u8 b] w fun e w' => e = .returned (.bool (ofPiece b)) ∧ w' = w := by
  unfold ofPiece
  cases h1 : letter b <;> cases h2 : great b <;> cases h3 : digit b
  all_goals
    go_enter Tryz.func163, Tryz.ntmps163
    go_wp2_with (first | (go_at_call 66; refine (letter_any _ _).mono ?_; rintro e w2 ⟨rfl, rfl⟩; try rw [h1]) | (go_at_call 145; refine (great_any _ _).mono ?_; rintro e w3 ⟨rfl, rfl⟩; try rw [h2]) | (go_at_call 67; refine (digit_any _ _).mono ?_; rintro e w3 ⟨rfl, rfl⟩; try rw [h3]))
    go_ret
    exact ⟨rfl, rfl⟩
theorem isDigitAt_any (s : ByteArray) (k : Nat) (w : World) : Calls Tryz.prog 137 #[.string s, .int .i64 k] w fun e w' => e = .returned (.bool (digitHd ((numsOf s).drop k))) ∧ w' = w := by
  by_cases h : k < s.size
  · rw [nums_drop s k h]
    show Calls _ _ _ _ fun e w' => e = .returned (.bool (digit ((s[k].toNat : Nat) : Int))) ∧ _
    go_enter Tryz.func137, Tryz.ntmps137
    go_wp2_with (first | (go_at_call 67; refine (digit_any _ _).mono ?_; rintro e w1 ⟨rfl, rfl⟩))
    go_ret
    exact ⟨rfl, rfl⟩
  · rw [nums_end s k h]
    show Calls _ _ _ _ fun e w' => e = .returned (.bool false) ∧ _
    go_enter Tryz.func137, Tryz.ntmps137
    go_wp2_with fail
    go_ret
    exact ⟨rfl, rfl⟩
theorem pieceLen_yes {b : Int} {r : List Int} (h : (ofPiece b || (b == 46 && digitHd r)) = true) : pieceLen (b :: r) = pieceLen r + 1 := by rw [pieceLen, if_pos h]
theorem pieceLen_no {b : Int} {r : List Int} (h : (ofPiece b || (b == 46 && digitHd r)) = false) : pieceLen (b :: r) = 0 := by rw [pieceLen, if_neg (by rw [h]; decide)]

theorem withPiece_any (s : ByteArray) (f : Nat) (w : World) (hf : f ≤ s.size) (hs : s.size ≤ 1048576) :
    Calls Tryz.prog 138 #[.string s, .int .i64 f] w fun e w' => e = .returned (.string (s.extract 0 (f + pieceLen ((numsOf s).drop f)))) ∧ w' = w := by
  have hL := pieceLen_le ((numsOf s).drop f)
  rw [List.length_drop, numsOf_len] at hL
  generalize hE : f + pieceLen ((numsOf s).drop f) = E at *
  have HE : Hid (f + pieceLen ((numsOf s).drop f) = E) := hE
  have hEs : E ≤ s.size := by omega
  clear hE hL
  go_enter Tryz.func138, Tryz.ntmps138
  go_wp2_with fail
  go_loop [5] (fun i => ∃ k : Nat, k ≤ s.size ∧ i = .int .i64 k ∧ k + pieceLen ((numsOf s).drop k) = E)
    (fun i => s.size - (intOf i).toNat)
  case atStart => exact ⟨f, hf, rfl, HE.out⟩
  case round =>
    obtain ⟨k, hk, rfl, hH⟩ := hrel
    have HH : Hid (k + pieceLen ((numsOf s).drop k) = E) := hH
    clear hH HE
    by_cases hlt : k < s.size
    · have hd := nums_drop s k hlt
      have D := isDigitAt_any s (k + 1) 
      have HD : Hid ((numsOf s).drop k = ((s[k].toNat : Nat) : Int) :: (numsOf s).drop (k + 1)) := hd
      clear hd
      generalize hx : ((s[k].toNat : Nat) : Int) = x at *
      generalize hq : digitHd ((numsOf s).drop (k + 1)) = q at *
      have HQ : Hid (digitHd ((numsOf s).drop (k + 1)) = q) := hq
      clear hq
      have D' : ∀ w : World, Calls Tryz.prog 137 #[.string s, .int .i64 ((k : Int) + 1)] w fun e w' => e = .returned (.bool q) ∧ w' = w := fun w => D w
      clear D
      cases h1 : ofPiece x
      · by_cases h2 : x = 46
        · have h2' : (x == 46) = true := by simp [h2]
          cases q
          · go_wp2_with (first | (go_at_call 163; refine (ofPiece_any _ _).mono ?_; rintro e w2 ⟨rfl, rfl⟩; try rw [hx]; try rw [h1]) | (go_at_call 137; refine (D' _).mono ?_; rintro e w3 ⟨rfl, rfl⟩))
            have e := HH.out
            rw [HD.out, pieceLen_no (by simp [h1, HQ.out, h2'])] at e
            obtain rfl : k = E := by omega
            go_ret
            exact ⟨rfl, rfl⟩
          · go_wp2_with (first | (go_at_call 163; refine (ofPiece_any _ _).mono ?_; rintro e w2 ⟨rfl, rfl⟩; try rw [hx]; try rw [h1]) | (go_at_call 137; refine (D' _).mono ?_; rintro e w3 ⟨rfl, rfl⟩))
            go_round
            case rel => exact ⟨k + 1, by omega, by go_num, by
              have e := HH.out
              rw [HD.out, pieceLen_yes (by simp [h1, HQ.out, h2'])] at e
              omega⟩
            case measure => simp [intOf]; omega
        · have h2' : (x == 46) = false := by simp [h2]
          clear h2
          go_wp2_with (first | (go_at_call 163; refine (ofPiece_any _ _).mono ?_; rintro e w2 ⟨rfl, rfl⟩; try rw [hx]; try rw [h1]) | (go_at_call 137; refine (D' _).mono ?_; rintro e w3 ⟨rfl, rfl⟩))
          have e := HH.out
          rw [HD.out, pieceLen_no (by simp [h1, HQ.out, h2'])] at e
          obtain rfl : k = E := by omega
          go_ret
          exact ⟨rfl, rfl⟩
      · go_wp2_with (first | (go_at_call 163; refine (ofPiece_any _ _).mono ?_; rintro e w2 ⟨rfl, rfl⟩; try rw [hx]; try rw [h1]) | (go_at_call 137; refine (D' _).mono ?_; rintro e w3 ⟨rfl, rfl⟩))
        go_round
        case rel => exact ⟨k + 1, by omega, by go_num, by
          have e := HH.out
          rw [HD.out, pieceLen_yes (by simp [h1])] at e
          omega⟩
        case measure => simp [intOf]; omega
    · have e := HH.out
      rw [nums_end s k hlt] at e
      obtain rfl : k = E := by simpa [pieceLen] using e
      clear e
      go_wp2_with fail
      go_ret
      exact ⟨rfl, rfl⟩

theorem wordLength_any (s : ByteArray) (w : World) (hs : s.size ≤ 1048576) :
    Calls Tryz.prog 146 #[.string s] w fun e w' => e = .returned (.int .i64 (greatLen (numsOf s) : Nat)) ∧ w' = w := by
  have hL := greatLen_le (numsOf s)
  rw [numsOf_len] at hL
  generalize hE : greatLen (numsOf s) = E at *
  have HE : Hid (greatLen (numsOf s) = E) := hE
  clear hE
  go_enter Tryz.func146, Tryz.ntmps146
  go_wp2_with fail
  go_loop [3] (fun i => ∃ k : Nat, k ≤ s.size ∧ i = .int .i64 k ∧ k + greatLen ((numsOf s).drop k) = E)
    (fun i => s.size - (intOf i).toNat)
  case atStart => exact ⟨0, Nat.zero_le _, rfl, by rw [List.drop_zero, Nat.zero_add]; exact HE.out⟩
  case round =>
    obtain ⟨k, hk, rfl, hH⟩ := hrel
    have HH : Hid (k + greatLen ((numsOf s).drop k) = E) := hH
    clear hH HE
    by_cases hlt : k < s.size
    · have HD : Hid ((numsOf s).drop k = ((s[k].toNat : Nat) : Int) :: (numsOf s).drop (k + 1)) := nums_drop s k hlt
      generalize hx : ((s[k].toNat : Nat) : Int) = x at *
      cases h1 : great x
      · go_wp2_with (first | (go_at_call 145; refine (great_any _ _).mono ?_; rintro e w2 ⟨rfl, rfl⟩; try rw [hx]; try rw [h1]))
        have e := HH.out
        rw [HD.out, greatLen, if_neg (by rw [h1]; decide)] at e
        obtain rfl : k = E := by omega
        go_ret
        exact ⟨rfl, rfl⟩
      · go_wp2_with (first | (go_at_call 145; refine (great_any _ _).mono ?_; rintro e w2 ⟨rfl, rfl⟩; try rw [hx]; try rw [h1]))
        go_round
        case rel => exact ⟨k + 1, by omega, by go_num, by
          have e := HH.out
          rw [HD.out, greatLen, if_pos h1] at e
          omega⟩
        case measure => simp [intOf]; omega
    · have e := HH.out
      rw [nums_end s k hlt] at e
      obtain rfl : k = E := by simpa [greatLen] using e
      clear e
      go_wp2_with fail
      go_ret
      exact ⟨rfl, rfl⟩

/-- How far a text goes behind its first sign. -/
def qlen : Bool → List Int → Nat
  | _, [] => 0
  | true, _ :: r => qlen false r + 1
  | false, b :: r => if b = 34 then 1 else if b = 92 then qlen true r + 1 else qlen false r + 1
theorem qlen_le : ∀ (r : List Int) (f : Bool), qlen f r ≤ r.length
  | [], f => by cases f <;> simp [qlen]
  | b :: r, true => by have := qlen_le r false; simp [qlen]; omega
  | b :: r, false => by
    have h1 := qlen_le r false
    have h2 := qlen_le r true
    rw [qlen]
    split
    · simp
    · split <;> simp <;> omega
theorem quotedLength_any (s : ByteArray) (w : World) (h1 : 1 ≤ s.size) (hs : s.size ≤ 1048576) :
    Calls Tryz.prog 142 #[.string s] w fun e w' => e = .returned (.int .i64 ((1 + qlen false ((numsOf s).drop 1) : Nat))) ∧ w' = w := by
  have hL := qlen_le ((numsOf s).drop 1) false
  rw [List.length_drop, numsOf_len] at hL
  generalize hE : 1 + qlen false ((numsOf s).drop 1) = E at *
  have HE : Hid (1 + qlen false ((numsOf s).drop 1) = E) := hE
  have hEs : E ≤ s.size := by omega
  clear hE hL
  go_enter Tryz.func142, Tryz.ntmps142
  go_wp2_with fail
  go_loop [3] (fun i => ∃ k : Nat, k ≤ s.size + 1 ∧ i = .int .i64 k ∧ ((k ≤ s.size ∧ k + qlen false ((numsOf s).drop k) = E) ∨ (s.size < k ∧ E = s.size)))
    (fun i => s.size + 1 - (intOf i).toNat)
  case atStart => exact ⟨1, by omega, rfl, .inl ⟨h1, HE.out⟩⟩
  case round =>
    obtain ⟨k, hk, rfl, hH⟩ := hrel
    have HH : Hid ((k ≤ s.size ∧ k + qlen false ((numsOf s).drop k) = E) ∨ (s.size < k ∧ E = s.size)) := hH
    clear hH HE h1
    by_cases hlt : k < s.size
    · have HD : Hid ((numsOf s).drop k = ((s[k].toNat : Nat) : Int) :: (numsOf s).drop (k + 1)) := nums_drop s k hlt
      have HF : Hid (k + qlen false ((numsOf s).drop k) = E) := by
        rcases HH.out with h | h
        · exact h.2
        · omega
      clear HH
      generalize hx : ((s[k].toNat : Nat) : Int) = x at *
      by_cases h1 : x = 92
      · subst h1
        have hE : Hid (k + (qlen true ((numsOf s).drop (k + 1)) + 1) = E) := by
          have e := HF.out
          rw [HD.out, qlen, if_neg (by decide), if_pos rfl] at e
          exact e
        clear HF HD
        go_wp2_with fail
        go_round
        case rel =>
          refine ⟨k + 2, by omega, by go_num, ?_⟩
          have e := hE.out
          by_cases h2 : k + 1 < s.size
          · rw [nums_drop s (k + 1) h2, qlen] at e
            exact .inl ⟨by omega, by rw [show k + 2 = k + 1 + 1 from rfl]; omega⟩
          · rw [nums_end s (k + 1) h2, qlen] at e
            exact .inr ⟨by omega, by omega⟩
        case measure => simp [intOf]; omega
      · by_cases h2 : x = 34
        · subst h2
          have e := HF.out
          rw [HD.out, qlen, if_pos rfl] at e
          subst e
          clear HF HD h1
          go_wp2_with fail
          go_ret
          exact ⟨by go_num, rfl⟩
        · have hE : Hid (k + (qlen false ((numsOf s).drop (k + 1)) + 1) = E) := by
            have e := HF.out
            rw [HD.out, qlen, if_neg h2, if_neg h1] at e
            exact e
          have h1' : (x == 92) = false := by simp [h1]
          have h2' : (x == 34) = false := by simp [h2]
          clear HF HD h1 h2
          go_wp2_with fail
          go_round
          case rel => exact ⟨k + 1, by omega, by go_num, .inl ⟨by omega, by have e := hE.out; omega⟩⟩
          case measure => simp [intOf]; omega
    · have e : E = s.size := by
        rcases HH.out with h | h
        · rw [nums_end s k hlt, qlen] at h
          omega
        · exact h.2
      subst e
      clear HH
      go_wp2_with fail
      go_ret
      exact ⟨rfl, rfl⟩
end Go.Proofs.YtoclingolfdfeaaGreatDoor

/- StrC -/
namespace Go.Proofs.YtoclingolfdfeaaGreatDoor
open Go.RowKit Go.Deep
set_option maxRecDepth 100000

/-- A term's parts and what its text holds. -/
structure TB where
  t : Tm
  b : List Int
def TB.td (x : TB) : TD := ⟨x.t.k, x.b, x.t.n, x.t.s⟩
def enc4 (t : Tm) : List Value := [.int .i64 t.k, .slice t.a t.len t.cap, .int .i64 t.n, .int .i64 t.s]
/-- The cells of a row of terms. -/
def flat4 (l : List TB) : List Value := l.flatMap fun x => enc4 x.t
theorem flat4_len (l : List TB) : (flat4 l).length = l.length * 4 := by
  induction l with
  | nil => rfl
  | cons x l ih => simp only [flat4, List.flatMap_cons, List.length_append] at *; rw [ih]; simp [enc4]; omega
theorem flat4_get (l : List TB) (i c : Nat) (hi : i < l.length) (hc : c < 4) : (flat4 l)[i * 4 + c]? = (enc4 l[i].t)[c]? := by
  induction l generalizing i with
  | nil => cases hi
  | cons x l ih =>
    have e : flat4 (x :: l) = enc4 x.t ++ flat4 l := rfl
    rw [e]
    cases i with
    | zero => rw [List.getElem?_append_left (by simp [enc4]; omega)]; simp
    | succ i =>
      rw [List.getElem?_append_right (by simp [enc4]; omega)]
      have : (i + 1) * 4 + c - (enc4 x.t).length = i * 4 + c := by simp [enc4]; omega
      rw [this, ih i (by simpa using hi)]
      rfl
theorem flat4_take (l : List TB) (i : Nat) : flat4 (l.take i) = (flat4 l).take (i * 4) := by
  induction l generalizing i with
  | nil => simp [flat4]
  | cons x l ih =>
    cases i with
    | zero => simp [flat4]
    | succ i =>
      have e : flat4 (x :: l) = enc4 x.t ++ flat4 l := rfl
      have e2 : flat4 (x :: l.take i) = enc4 x.t ++ flat4 (l.take i) := rfl
      rw [List.take_succ_cons, e, e2, ih, show (i + 1) * 4 = (enc4 x.t).length + i * 4 by simp [enc4]; omega, List.take_length_add_append]
theorem flat4_drop (l : List TB) (i : Nat) : flat4 (l.drop i) = (flat4 l).drop (i * 4) := by
  induction l generalizing i with
  | nil => simp [flat4]
  | cons x l ih =>
    cases i with
    | zero => simp
    | succ i =>
      have e : flat4 (x :: l) = enc4 x.t ++ flat4 l := rfl
      rw [List.drop_succ_cons, e, ih, show (i + 1) * 4 = (enc4 x.t).length + i * 4 by simp [enc4]; omega, List.drop_length_add_append]

/-- Terms behind an address. -/
def TRow (w : World) (a : Option Addr) (l : List TB) : Prop := l = [] ∨ ∃ b off, a = some ⟨b, off, none⟩ ∧ b < w.heap.size ∧ ∀ j u, (flat4 l)[j]? = some u → w.cell? ⟨b, off + j, none⟩ = some u
theorem TRow.below {w w' : World} {a : Option Addr} {l : List TB} (h : TRow w a l) (hb : Below w.heap.size w w') : TRow w' a l := by
  rcases h with h | ⟨b, off, ha, hl, hc⟩
  · exact .inl h
  · exact .inr ⟨b, off, ha, Nat.lt_of_lt_of_le hl hb.size, fun j u hu => (hb.cell (p := ⟨b, off + j, none⟩) hl).trans (hc j u hu)⟩
theorem TRow.at {w : World} {b off : Nat} {l : List TB} (hc : ∀ j u, (flat4 l)[j]? = some u → w.cell? ⟨b, off + j, none⟩ = some u) (i : Nat) (hi : i < l.length) :
    w.cell? ⟨b, off + i * 4, none⟩ = some (.int .i64 l[i].t.k) ∧ w.cell? ⟨b, off + i * 4 + 1, none⟩ = some (.slice l[i].t.a l[i].t.len l[i].t.cap) ∧ w.cell? ⟨b, off + i * 4 + 2, none⟩ = some (.int .i64 l[i].t.n) ∧ w.cell? ⟨b, off + i * 4 + 3, none⟩ = some (.int .i64 l[i].t.s) := by
  refine ⟨hc (i * 4 + 0) _ ?_, ?_, ?_, ?_⟩
  · rw [flat4_get l i 0 hi (by omega)]; rfl
  · rw [Nat.add_assoc]; exact hc _ _ (by rw [flat4_get l i 1 hi (by omega)]; rfl)
  · rw [Nat.add_assoc]; exact hc _ _ (by rw [flat4_get l i 2 hi (by omega)]; rfl)
  · rw [Nat.add_assoc]; exact hc _ _ (by rw [flat4_get l i 3 hi (by omega)]; rfl)
/-- Their texts. -/
def TTxt (w : World) (l : List TB) : Prop := ∀ x ∈ l, Bs w x.t.a x.t.len x.b
theorem TTxt.below {w w' : World} {l : List TB} (h : TTxt w l) (hb : Below w.heap.size w w') : TTxt w' l := fun x hx => (h x hx).below hb

/-- A row of terms of the call's own, or none as yet. -/
def OwnTR (w : World) (B : Nat) (v : Value) (l : List TB) : Prop := w.ownsRow B 24 4 v l.length (flat4 l) ∧ ∀ g, v.ownBlock = some g → B ≤ g ∧ g < w.heap.size
theorem OwnTR.nil (w : World) (B : Nat) : OwnTR w B (.slice none 0 0) [] := ⟨World.ownsRow_nil _ _ _ _, fun g h => by cases h⟩
theorem OwnTR.below {w w' : World} {B : Nat} {v : Value} {l : List TB} (h : OwnTR w B v l) (hb : Below w.heap.size w w') : OwnTR w' B v l := by
  obtain ⟨⟨h1, h2⟩, hl⟩ := h
  refine ⟨⟨h1, ?_⟩, fun g hg => ⟨(hl g hg).1, Nat.lt_of_lt_of_le (hl g hg).2 hb.size⟩⟩
  rcases h2 with h2 | ⟨g', cap', cur, hv, hB, hh, r⟩
  · exact .inl h2
  · refine .inr ⟨g', cap', cur, hv, hB, ?_, r⟩
    have := (hl g' (by rw [hv]; rfl)).2
    rw [hb.block g' this]
    exact hh
theorem OwnTR.form {w : World} {B : Nat} {v : Value} {l : List TB} (h : OwnTR w B v l) : ∃ a cap, v = .slice a l.length cap ∧ TRow w a l ∧ l.length ≤ cap ∧ (a = none → l = [] ∧ cap = 0) ∧ ∀ x, a = some x → ∃ g, x = ⟨g, 0, none⟩ ∧ B ≤ g ∧ g < w.heap.size := by
  rcases h.1.2 with ⟨rfl, h0⟩ | ⟨g, cap, cur, rfl, hB, hh, hle, _, hsz, htk⟩
  · have := List.eq_nil_of_length_eq_zero h0
    subst this
    exact ⟨none, 0, rfl, .inl rfl, by simp, fun _ => ⟨rfl, rfl⟩, fun x hx => by cases hx⟩
  · have hlt := (h.2 g rfl).2
    refine ⟨some ⟨g, 0, none⟩, cap, rfl, .inr ⟨g, 0, rfl, hlt, fun j u hu => ?_⟩, hle, fun hx => (by cases hx), fun x hx => by cases hx; exact ⟨g, rfl, hB, hlt⟩⟩
    rw [Nat.zero_add]
    have hj : j < l.length * 4 := by
      apply Classical.byContradiction
      intro hn
      rw [List.getElem?_eq_none (by rw [flat4_len]; omega)] at hu
      cases hu
    rw [← htk, List.getElem?_take, if_pos hj] at hu
    simp only [World.cell?, hh]
    simpa using hu

theorem Tryz.info24 : (Tryz.prog.info? 24).map (fun i => (i.zero, i.size, i.bytes)) = some (some (.agg #[.int .i64 0, .slice none 0 0, .int .i64 0, .int .i64 0]), 4, 48) := by kernel_rfl

/-- The cells of some of them. -/
theorem TRow.news {w : World} {b off : Nat} {l : List TB} (hc : ∀ j u, (flat4 l)[j]? = some u → w.cell? ⟨b, off + j, none⟩ = some u) (i m : Nat) :
    ∀ j u, (flat4 ((l.drop i).take m))[j]? = some u → w.cell? ((⟨b, off + i * 4, none⟩ : Addr).add j) = some u := by
  intro j u hu
  have ea : (⟨b, off + i * 4, none⟩ : Addr).add j = ⟨b, off + (i * 4 + j), none⟩ := by
    by_cases h0 : j = 0 <;> simp [Addr.add, h0, Nat.add_assoc]
  rw [ea]
  refine hc _ _ ?_
  rw [flat4_take, flat4_drop, List.getElem?_take] at hu
  split at hu
  · rw [List.getElem?_drop] at hu; exact hu
  · cases hu
end Go.Proofs.YtoclingolfdfeaaGreatDoor

/- GdrN -/
namespace Go.Proofs.YtoclingolfdfeaaGreatDoor
open Go.RowKit Go.Deep Go.Sort Go.Lib
set_option maxRecDepth 100000

theorem ownG_cells {W : World} {B g n cap : Nat} {l : List G1} (h : OwnG W B (.slice (some ⟨g, 0, none⟩) n cap) l) : ∃ cur, W.heap[g]? = some (.cells cur 36 (0, 0)) ∧ n ≤ cap ∧ cap ≤ maxLen ∧ cur.size = cap * 12 ∧ cur.toList.take (n * 12) = flatG l ∧ n = l.length ∧ B ≤ g ∧ g < W.heap.size := by
  obtain ⟨hB, hgl⟩ := h.2 g rfl
  rcases h.1.2 with ⟨h, _⟩ | ⟨g', c', cur, hv, _, hh, h2, h3, h4, h5⟩
  · cases h
  · cases hv
    exact ⟨cur, hh, h2, h3, h4, h5, rfl, hB, hgl⟩
theorem ownG_mk {W : World} {B g n cap : Nat} {l : List G1} {cur : Array Value} (h1 : W.heap[g]? = some (.cells cur 36 (0, 0))) (h2 : n ≤ cap) (h3 : cap ≤ maxLen) (h4 : cur.size = cap * 12) (h5 : cur.toList.take (n * 12) = flatG l) (h6 : n = l.length) (h7 : B ≤ g) (h8 : g < W.heap.size) : OwnG W B (.slice (some ⟨g, 0, none⟩) n cap) l := by
  subst h6
  refine ⟨⟨by rw [flatG_len], .inr ⟨g, cap, cur, rfl, h7, h1, h2, h3, h4, h5⟩⟩, fun g' h' => ?_⟩
  have : g = g' := by simpa [Value.ownBlock] using h'
  subst this
  exact ⟨h7, h8⟩
theorem ownG_fr {W : World} {B g n cap : Nat} {l : List G1} (h : OwnG W B (.slice (some ⟨g, 0, none⟩) n cap) l) (o : Nat) : W.frozen? ⟨g, o, none⟩ = false := by
  obtain ⟨cur, hh, _⟩ := ownG_cells h
  simp [World.frozen?, hh]
theorem heap_setG {W : World} {g o : Nat} {v : Value} {cur : Array Value} {T : TypeId} {fz : Nat × Nat} (h : W.heap[g]? = some (.cells cur T fz)) : (W.setCell ⟨g, o, none⟩ v).heap[g]? = some (.cells (cur.setIfInBounds o v) T fz) := by
  rw [setCell_eq]
  show (W.heap.modify g (onCells (·.setIfInBounds o v)))[g]? = _
  rw [Array.getElem?_modify, if_pos rfl, h]
  rfl
end Go.Proofs.YtoclingolfdfeaaGreatDoor
