/- Texts put together: RdB GraA StrC LxA ApqA -/
import Derived.Test.YtoclingolfdfeaaGreatDoorMk06
import Derived.Test.YtoclingolfdfeaaGreatDoorMk03
import Derived.Deep.RegionHeld3
import Derived.Test.YtoclingolfdfeaaGreatDoorMk04
import Derived.Deep.AppendLies
import Derived.Test.YtoclingolfdfeaaGreatDoorMk01
import Derived.Test.YtoclingolfdfeaaGreatDoorMk02
import Derived.Deep.AppendSrc
import Derived.Deep.Upon
import Derived.Laws.IdiomCopy
/- RdB -/
namespace Go.Proofs.YtoclingolfdfeaaGreatDoor
open Go.RowKit Go.Deep
set_option maxRecDepth 100000

theorem nums_at (s : ByteArray) (k : Nat) (h : k < s.size) : (numsOf s)[k]? = some ((s[k].toNat : Nat) : Int) := by
  have h' : k < s.data.toList.length := by simpa using h
  simp only [numsOf, List.getElem?_map, List.getElem?_eq_getElem h', Option.map_some]
  rfl
theorem nums_drop (s : ByteArray) (k : Nat) (h : k < s.size) : (numsOf s).drop k = ((s[k].toNat : Nat) : Int) :: (numsOf s).drop (k + 1) := by
  have h' : k < (numsOf s).length := by rw [numsOf_len]; exact h
  rw [List.drop_eq_getElem_cons h']
  have := nums_at s k h
  rw [List.getElem?_eq_getElem h'] at this
  rw [Option.some.inj this]
theorem nums_end (s : ByteArray) (k : Nat) (h : ¬ k < s.size) : (numsOf s).drop k = [] := List.drop_of_length_le (by rw [numsOf_len]; omega)
theorem nums_extract (s : ByteArray) (a b : Nat) : numsOf (s.extract a b) = ((numsOf s).drop a).take (b - a) := by
  unfold numsOf
  rw [← List.map_drop, ← List.map_take]
  congr 1
  simp [ByteArray.data_extract, Array.toList_extract, List.extract_eq_take_drop]

theorem great_any (b : Int) (w : World) : Calls Tryz.prog 145 #[.int .u8 b] w fun e w' => e = .returned (.bool (great b)) ∧ w' = w := by
  go_enter Tryz.func145, Tryz.ntmps145
  go_wp2
  all_goals go_ret
  all_goals (refine ⟨?_, rfl⟩; simp [great]; try omega)
theorem gap_any (b : Int) (w : World) : Calls Tryz.prog 96 #[.int .u8 b] w fun e w' => e = .returned (.bool (gapB b)) ∧ w' = w := by
  go_enter Tryz.func96, Tryz.ntmps96
  go_wp2
  all_goals go_ret
  all_goals (refine ⟨congrArg (fun b => Ending.returned (Value.bool b)) ?_, rfl⟩; rw [Bool.eq_iff_iff]; simp_all [gapB])
theorem ofPiece_any (b : Int) (w : World) : Calls Tryz.prog 163 #[.int .u8 b] w fun e w' => e = .returned (.bool (ofPiece b)) ∧ w' = w := by
  unfold ofPiece
  cases h1 : letter b <;> cases h2 : great b <;> cases h3 : digit b
  all_goals
    go_enter Tryz.func163, Tryz.ntmps163
    go_wp2_with (first | (go_at_call 66; refine (letter_any _ _).mono ?_; rintro e w2 ⟨rfl, rfl⟩; try rw [h1]) | (go_at_call 145; refine (great_any _ _).mono ?_; rintro e w3 ⟨rfl, rfl⟩; try rw [h2]) | (go_at_call 67; refine (digit_any _ _).mono ?_; rintro e w3 ⟨rfl, rfl⟩; try rw [h3]))
    go_ret
    exact ⟨rfl, rfl⟩
theorem isDigitAt_any (s : ByteArray) (k : Nat) (w : World) : Calls Tryz.prog 137 #[.string s, .int .i64 k] w fun e w' => e = .returned (.bool (digitHd ((numsOf s).drop k))) ∧ w' = w := by
  by_cases h : k < s.size
  · rw [nums_drop s k h]
    show Calls _ _ _ _ fun e w' => e = .returned (.bool (digit ((s[k].toNat : Nat) : Int))) ∧ _
    go_enter Tryz.func137, Tryz.ntmps137
    go_wp2_with (first | (go_at_call 67; refine (digit_any _ _).mono ?_; rintro e w1 ⟨rfl, rfl⟩))
    go_ret
    exact ⟨rfl, rfl⟩
  · rw [nums_end s k h]
    show Calls _ _ _ _ fun e w' => e = .returned (.bool false) ∧ _
    go_enter Tryz.func137, Tryz.ntmps137
    go_wp2_with fail
    go_ret
    exact ⟨rfl, rfl⟩
theorem pieceLen_yes {b : Int} {r : List Int} (h : (ofPiece b || (b == 46 && digitHd r)) = true) : pieceLen (b :: r) = pieceLen r + 1 := by rw [pieceLen, if_pos h]
theorem pieceLen_no {b : Int} {r : List Int} (h : (ofPiece b || (b == 46 && digitHd r)) = false) : pieceLen (b :: r) = 0 := by rw [pieceLen, if_neg (by rw [h]; decide)]

theorem withPiece_any (s : ByteArray) (f : Nat) (w : World) (hf : f ≤ s.size) (hs : s.size ≤ 1048576) :
    Calls Tryz.prog 138 #[.string s, .int .i64 f] w fun e w' => e = .returned (.string (s.extract 0 (f + pieceLen ((numsOf s).drop f)))) ∧ w' = w := by
  have hL := pieceLen_le ((numsOf s).drop f)
  rw [List.length_drop, numsOf_len] at hL
  generalize hE : f + pieceLen ((numsOf s).drop f) = E at *
  have HE : Hid (f + pieceLen ((numsOf s).drop f) = E) := hE
  have hEs : E ≤ s.size := by omega
  clear hE hL
  go_enter Tryz.func138, Tryz.ntmps138
  go_wp2_with fail
  go_loop [5] (fun i => ∃ k : Nat, k ≤ s.size ∧ i = .int .i64 k ∧ k + pieceLen ((numsOf s).drop k) = E)
    (fun i => s.size - (intOf i).toNat)
  case atStart => exact ⟨f, hf, rfl, HE.out⟩
  case round =>
    obtain ⟨k, hk, rfl, hH⟩ := hrel
    have HH : Hid (k + pieceLen ((numsOf s).drop k) = E) := hH
    clear hH HE
    by_cases hlt : k < s.size
    · have hd := nums_drop s k hlt
      have D := isDigitAt_any s (k + 1) 
      have HD : Hid ((numsOf s).drop k = ((s[k].toNat : Nat) : Int) :: (numsOf s).drop (k + 1)) := hd
      clear hd
      generalize hx : ((s[k].toNat : Nat) : Int) = x at *
      generalize hq : digitHd ((numsOf s).drop (k + 1)) = q at *
      have HQ : Hid (digitHd ((numsOf s).drop (k + 1)) = q) := hq
      clear hq
      have D' : ∀ w : World, Calls Tryz.prog 137 #[.string s, .int .i64 ((k : Int) + 1)] w fun e w' => e = .returned (.bool q) ∧ w' = w := fun w => D w
      clear D
      cases h1 : ofPiece x
      · by_cases h2 : x = 46
        · have h2' : (x == 46) = true := by simp [h2]
          cases q
          · go_wp2_with (first | (go_at_call 163; refine (ofPiece_any _ _).mono ?_; rintro e w2 ⟨rfl, rfl⟩; try rw [hx]; try rw [h1]) | (go_at_call 137; refine (D' _).mono ?_; rintro e w3 ⟨rfl, rfl⟩))
            have e := HH.out
            rw [HD.out, pieceLen_no (by simp [h1, HQ.out, h2'])] at e
            obtain rfl : k = E := by omega
            go_ret
            exact ⟨rfl, rfl⟩
          · go_wp2_with (first | (go_at_call 163; refine (ofPiece_any _ _).mono ?_; rintro e w2 ⟨rfl, rfl⟩; try rw [hx]; try rw [h1]) | (go_at_call 137; refine (D' _).mono ?_; rintro e w3 ⟨rfl, rfl⟩))
            go_round
            case rel => exact ⟨k + 1, by omega, by go_num, by
              have e := HH.out
              rw [HD.out, pieceLen_yes (by simp [h1, HQ.out, h2'])] at e
              omega⟩
            case measure => simp [intOf]; omega
        · have h2' : (x == 46) = false := by simp [h2]
          clear h2
          go_wp2_with (first | (go_at_call 163; refine (ofPiece_any _ _).mono ?_; rintro e w2 ⟨rfl, rfl⟩; try rw [hx]; try rw [h1]) | (go_at_call 137; refine (D' _).mono ?_; rintro e w3 ⟨rfl, rfl⟩))
          have e := HH.out
          rw [HD.out, pieceLen_no (by simp [h1, HQ.out, h2'])] at e
          obtain rfl : k = E := by omega
          go_ret
          exact ⟨rfl, rfl⟩
      · go_wp2_with (first | (go_at_call 163; refine (ofPiece_any _ _).mono ?_; rintro e w2 ⟨rfl, rfl⟩; try rw [hx]; try rw [h1]) | (go_at_call 137; refine (D' _).mono ?_; rintro e w3 ⟨rfl, rfl⟩))
        go_round
        case rel => exact ⟨k + 1, by omega, by go_num, by
          have e := HH.out
          rw [HD.out, pieceLen_yes (by simp [h1])] at e
          omega⟩
        case measure => simp [intOf]; omega
    · have e := HH.out
      rw [nums_end s k hlt] at e
      obtain rfl : k = E := by simpa [pieceLen] using e
      clear e
      go_wp2_with fail
      go_ret
      exact ⟨rfl, rfl⟩

theorem wordLength_any (s : ByteArray) (w : World) (hs : s.size ≤ 1048576) :
    Calls Tryz.prog 146 #[.string s] w fun e w' => e = .returned (.int .i64 (greatLen (numsOf s) : Nat)) ∧ w' = w := by
  have hL := greatLen_le (numsOf s)
  rw [numsOf_len] at hL
  generalize hE : greatLen (numsOf s) = E at *
  have HE : Hid (greatLen (numsOf s) = E) := hE
  clear hE
  go_enter Tryz.func146, Tryz.ntmps146
  go_wp2_with fail
  go_loop [3] (fun i => ∃ k : Nat, k ≤ s.size ∧ i = .int .i64 k ∧ k + greatLen ((numsOf s).drop k) = E)
    (fun i => s.size - (intOf i).toNat)
  case atStart => exact ⟨0, Nat.zero_le _, rfl, by rw [List.drop_zero, Nat.zero_add]; exact HE.out⟩
  case round =>
    obtain ⟨k, hk, rfl, hH⟩ := hrel
    have HH : Hid (k + greatLen ((numsOf s).drop k) = E) := hH
    clear hH HE
    by_cases hlt : k < s.size
    · have HD : Hid ((numsOf s).drop k = ((s[k].toNat : Nat) : Int) :: (numsOf s).drop (k + 1)) := nums_drop s k hlt
      generalize hx : ((s[k].toNat : Nat) : Int) = x at *
      cases h1 : great x
      · go_wp2_with (first | (go_at_call 145; refine (great_any _ _).mono ?_; rintro e w2 ⟨rfl, rfl⟩; try rw [hx]; try rw [h1]))
        have e := HH.out
        rw [HD.out, greatLen, if_neg (by rw [h1]; decide)] at e
        obtain rfl : k = E := by omega
        go_ret
        exact ⟨rfl, rfl⟩
      · go_wp2_with (first | (go_at_call 145; refine (great_any _ _).mono ?_; rintro e w2 ⟨rfl, rfl⟩; try rw [hx]; try rw [h1]))
        go_round
        case rel => exact ⟨k + 1, by omega, by go_num, by
          have e := HH.out
          rw [HD.out, greatLen, if_pos h1] at e
          omega⟩
        case measure => simp [intOf]; omega
    · have e := HH.out
      rw [nums_end s k hlt] at e
      obtain rfl : k = E := by simpa [greatLen] using e
      clear e
      go_wp2_with fail
      go_ret
      exact ⟨rfl, rfl⟩

/-- How far a text goes behind its first sign. -/
def qlen : Bool → List Int → Nat
  | _, [] => 0
  | true, _ :: r => qlen false r + 1
  | false, b :: r => if b = 34 then 1 else if b = 92 then qlen true r + 1 else qlen false r + 1
theorem qlen_le : ∀ (r : List Int) (f : Bool), qlen f r ≤ r.length
  | [], f => by cases f <;> simp [qlen]
  | b :: r, true => by have := qlen_le r false; simp [qlen]; omega
  | b :: r, false => by
    have h1 := qlen_le r false
    have h2 := qlen_le r true
    rw [qlen]
    split
    · simp
    · split <;> simp <;> omega
theorem quotedLength_any (s : ByteArray) (w : World) (h1 : 1 ≤ s.size) (hs : s.size ≤ 1048576) :
    Calls Tryz.prog 142 #[.string s] w fun e w' => e = .returned (.int .i64 ((1 + qlen false ((numsOf s).drop 1) : Nat))) ∧ w' = w := by
  have hL := qlen_le ((numsOf s).drop 1) false
  rw [List.length_drop, numsOf_len] at hL
  generalize hE : 1 + qlen false ((numsOf s).drop 1) = E at *
  have HE : Hid (1 + qlen false ((numsOf s).drop 1) = E) := hE
  have hEs : E ≤ s.size := by omega
  clear hE hL
  go_enter Tryz.func142, Tryz.ntmps142
  go_wp2_with fail
  go_loop [3] (fun i => ∃ k : Nat, k ≤ s.size + 1 ∧ i = .int .i64 k ∧ ((k ≤ s.size ∧ k + qlen false ((numsOf s).drop k) = E) ∨ (s.size < k ∧ E = s.size)))
    (fun i => s.size + 1 - (intOf i).toNat)
  case atStart => exact ⟨1, by omega, rfl, .inl ⟨h1, HE.out⟩⟩
  case round =>
    obtain ⟨k, hk, rfl, hH⟩ := hrel
    have HH : Hid ((k ≤ s.size ∧ k + qlen false ((numsOf s).drop k) = E) ∨ (s.size < k ∧ E = s.size)) := hH
    clear hH HE h1
    by_cases hlt : k < s.size
    · have HD : Hid ((numsOf s).drop k = ((s[k].toNat : Nat) : Int) :: (numsOf s).drop (k + 1)) := nums_drop s k hlt
      have HF : Hid (k + qlen false ((numsOf s).drop k) = E) := by
        rcases HH.out with h | h
        · exact h.2
        · omega
      clear HH
      generalize hx : ((s[k].toNat : Nat) : Int) = x at *
      by_cases h1 : x = 92
      · subst h1
        have hE : Hid (k + (qlen true ((numsOf s).drop (k + 1)) + 1) = E) := by
          have e := HF.out
          rw [HD.out, qlen, if_neg (by decide), if_pos rfl] at e
          exact e
        clear HF HD
        go_wp2_with fail
        go_round
        case rel =>
          refine ⟨k + 2, by omega, by go_num, ?_⟩
          have e := hE.out
          by_cases h2 : k + 1 < s.size
          · rw [nums_drop s (k + 1) h2, qlen] at e
            exact .inl ⟨by omega, by rw [show k + 2 = k + 1 + 1 from rfl]; omega⟩
          · rw [nums_end s (k + 1) h2, qlen] at e
            exact .inr ⟨by omega, by omega⟩
        case measure => simp [intOf]; omega
      · by_cases h2 : x = 34
        · subst h2
          have e := HF.out
          rw [HD.out, qlen, if_pos rfl] at e
          subst e
          clear HF HD h1
          go_wp2_with fail
          go_ret
          exact ⟨by go_num, rfl⟩
        · have hE : Hid (k + (qlen false ((numsOf s).drop (k + 1)) + 1) = E) := by
            have e := HF.out
            rw [HD.out, qlen, if_neg h2, if_neg h1] at e
            exact e
          have h1' : (x == 92) = false := by simp [h1]
          have h2' : (x == 34) = false := by simp [h2]
          clear HF HD h1 h2
          go_wp2_with fail
          go_round
          case rel => exact ⟨k + 1, by omega, by go_num, .inl ⟨by omega, by have e := hE.out; omega⟩⟩
          case measure => simp [intOf]; omega
    · have e : E = s.size := by
        rcases HH.out with h | h
        · rw [nums_end s k hlt, qlen] at h
          omega
        · exact h.2
      subst e
      clear HH
      go_wp2_with fail
      go_ret
      exact ⟨rfl, rfl⟩
end Go.Proofs.YtoclingolfdfeaaGreatDoor

/- GraA -/
namespace Go.Proofs.YtoclingolfdfeaaGreatDoor
open Go.RowKit Go.Deep

/-- Three terms in a row from place o on in block b. -/
def Row12 (w : World) (b o : Nat) (t u v : Tm) : Prop :=
  (w.cell? ⟨b, o, none⟩ = some (.int .i64 t.k) ∧ w.cell? ⟨b, o + 1, none⟩ = some (.slice t.a t.len t.cap) ∧ w.cell? ⟨b, o + 2, none⟩ = some (.int .i64 t.n) ∧ w.cell? ⟨b, o + 3, none⟩ = some (.int .i64 t.s)) ∧
    (w.cell? ⟨b, o + 4, none⟩ = some (.int .i64 u.k) ∧ w.cell? ⟨b, o + 5, none⟩ = some (.slice u.a u.len u.cap) ∧ w.cell? ⟨b, o + 6, none⟩ = some (.int .i64 u.n) ∧ w.cell? ⟨b, o + 7, none⟩ = some (.int .i64 u.s)) ∧
    (w.cell? ⟨b, o + 8, none⟩ = some (.int .i64 v.k) ∧ w.cell? ⟨b, o + 9, none⟩ = some (.slice v.a v.len v.cap) ∧ w.cell? ⟨b, o + 10, none⟩ = some (.int .i64 v.n) ∧ w.cell? ⟨b, o + 11, none⟩ = some (.int .i64 v.s))
/-- n triples behind an address. -/
def Rows (w : World) (a : Option Addr) (n : Nat) (T U V : Nat → Tm) : Prop :=
  n = 0 ∨ ∃ b off, a = some ⟨b, off, none⟩ ∧ b < w.heap.size ∧ ∀ i, i < n → Row12 w b (off + i * 12) (T i) (U i) (V i)
theorem Row12.of_block {w w' : World} {b o : Nat} {t u v : Tm} (h : Row12 w b o t u v) (hb : w'.heap[b]? = w.heap[b]?) : Row12 w' b o t u v := by
  have e : ∀ i, w'.cell? ⟨b, i, none⟩ = w.cell? ⟨b, i, none⟩ := fun i => World.cell?_of_block (w := w) (a := ⟨b, i, none⟩) hb
  unfold Row12
  simp only [e]
  exact h
theorem Rows.below {w w' : World} {a : Option Addr} {n : Nat} {T U V : Nat → Tm} (h : Rows w a n T U V) (hb : Below w.heap.size w w') : Rows w' a n T U V := by
  rcases h with h | ⟨b, off, ha, hlt, hc⟩
  · exact .inl h
  · exact .inr ⟨b, off, ha, Nat.lt_of_lt_of_le hlt hb.size, fun i hi => (hc i hi).of_block (hb.block b hlt)⟩
/-- Their texts. -/
def Texts (w : World) (n : Nat) (T : Nat → Tm) (B : Nat → List Int) : Prop := ∀ i, i < n → Bs w (T i).a (T i).len (B i)
theorem Texts.below {w w' : World} {n : Nat} {T : Nat → Tm} {B : Nat → List Int} (h : Texts w n T B) (hb : Below w.heap.size w w') : Texts w' n T B := fun i hi => (h i hi).below hb

theorem bl_drew0 {w : World} : Below w.heap.size w w.drew := Below.drew (Below.refl _ _)

set_option maxRecDepth 20000 in
set_option maxHeartbeats 2000000 in
theorem eqTripleS_like (a a' : Option Addr) (n cap cap' : Nat) (T U V T' U' V' : Nat → Tm) (bt bu bv : Nat → List Int) (w : World) (hn : n ≤ 1048576)
    (hR : Rows w a n T U V) (hR' : Rows w a' n T' U' V') (h1 : Texts w n T bt) (h2 : Texts w n U bu) (h3 : Texts w n V bv) (h1' : Texts w n T' bt) (h2' : Texts w n U' bu) (h3' : Texts w n V' bv)
    (l1 : ∀ i, i < n → (T i).like (T' i)) (l2 : ∀ i, i < n → (U i).like (U' i)) (l3 : ∀ i, i < n → (V i).like (V' i)) :
    Calls Tryz.prog 54 #[.slice a n cap, .slice a' n cap'] w fun e w' => e = .returned (.bool true) ∧ Below w.heap.size w w' := by
  by_cases hn0 : n = 0
  · subst hn0
    go_enter Tryz.func54, Tryz.ntmps54
    go_wp2
    refine wp_loop_rounds 1 ?_
    rw [rounds_succ]
    go_wp2
    go_ret
    exact ⟨rfl, Below.refl _ _⟩
  obtain ⟨b, off, rfl, hlt, hc⟩ := hR.resolve_left hn0
  obtain ⟨b', off', rfl, hlt', hc'⟩ := hR'.resolve_left hn0
  clear hR hR'
  go_enter Tryz.func54, Tryz.ntmps54
  go_wp2
  go_loopw [5] (fun i wr => ∃ k : Nat, k ≤ n ∧ i = .int .i64 k ∧ Below w.heap.size w wr)
    (fun i _ => n - (intOf i).toNat)
  case atStart => exact ⟨0, Nat.zero_le _, rfl, Below.refl _ _⟩
  case round =>
    obtain ⟨k, hk, rfl, hb⟩ := hrel
    by_cases hlk : k < n
    · have hx := (hc k hlk).of_block (hb.block b hlt)
      have hy := (hc' k hlk).of_block (hb.block b' hlt')
      have E := fun (w' : World) (hq : Below w.heap.size w w') => eqTriple_like (T k) (U k) (V k) (T' k) (U' k) (V' k) (bt k) (bu k) (bv k) w' (l1 k hlk) (l2 k hlk) (l3 k hlk) ((h1 k hlk).below hq) ((h2 k hlk).below hq) ((h3 k hlk).below hq) ((h1' k hlk).below hq) ((h2' k hlk).below hq) ((h3' k hlk).below hq)
      clear hc hc' h1 h2 h3 h1' h2' h3' l1 l2 l3
      have hx0 := hx
      have hy0 := hy
      obtain ⟨⟨x0, x1, x2, x3⟩, ⟨x4, x5, x6, x7⟩, ⟨x8, x9, xa, xb⟩⟩ := hx
      obtain ⟨⟨y0, y1, y2, y3⟩, ⟨y4, y5, y6, y7⟩, ⟨y8, y9, ya, yb⟩⟩ := hy
      go_wp2_with fail
      go_region_held3 (fun w' => w'.cell? ⟨b, off + k * 12, none⟩ = some (.int .i64 (T k).k) ∧ w'.cell? ⟨b, off + k * 12 + 1, none⟩ = some (.slice (T k).a (T k).len (T k).cap) ∧ w'.cell? ⟨b, off + k * 12 + 2, none⟩ = some (.int .i64 (T k).n) ∧ w'.cell? ⟨b, off + k * 12 + 3, none⟩ = some (.int .i64 (T k).s) ∧ w'.cell? ⟨b, off + k * 12 + 4, none⟩ = some (.int .i64 (U k).k) ∧ w'.cell? ⟨b, off + k * 12 + 5, none⟩ = some (.slice (U k).a (U k).len (U k).cap) ∧ w'.cell? ⟨b, off + k * 12 + 6, none⟩ = some (.int .i64 (U k).n) ∧ w'.cell? ⟨b, off + k * 12 + 7, none⟩ = some (.int .i64 (U k).s) ∧ w'.cell? ⟨b, off + k * 12 + 8, none⟩ = some (.int .i64 (V k).k) ∧ w'.cell? ⟨b, off + k * 12 + 9, none⟩ = some (.slice (V k).a (V k).len (V k).cap) ∧ w'.cell? ⟨b, off + k * 12 + 10, none⟩ = some (.int .i64 (V k).n) ∧ w'.cell? ⟨b, off + k * 12 + 11, none⟩ = some (.int .i64 (V k).s) ∧ w'.cell? ⟨b', off' + k * 12, none⟩ = some (.int .i64 (T' k).k) ∧ w'.cell? ⟨b', off' + k * 12 + 1, none⟩ = some (.slice (T' k).a (T' k).len (T' k).cap) ∧ w'.cell? ⟨b', off' + k * 12 + 2, none⟩ = some (.int .i64 (T' k).n) ∧ w'.cell? ⟨b', off' + k * 12 + 3, none⟩ = some (.int .i64 (T' k).s) ∧ w'.cell? ⟨b', off' + k * 12 + 4, none⟩ = some (.int .i64 (U' k).k) ∧ w'.cell? ⟨b', off' + k * 12 + 5, none⟩ = some (.slice (U' k).a (U' k).len (U' k).cap) ∧ w'.cell? ⟨b', off' + k * 12 + 6, none⟩ = some (.int .i64 (U' k).n) ∧ w'.cell? ⟨b', off' + k * 12 + 7, none⟩ = some (.int .i64 (U' k).s) ∧ w'.cell? ⟨b', off' + k * 12 + 8, none⟩ = some (.int .i64 (V' k).k) ∧ w'.cell? ⟨b', off' + k * 12 + 9, none⟩ = some (.slice (V' k).a (V' k).len (V' k).cap) ∧ w'.cell? ⟨b', off' + k * 12 + 10, none⟩ = some (.int .i64 (V' k).n) ∧ w'.cell? ⟨b', off' + k * 12 + 11, none⟩ = some (.int .i64 (V' k).s)) (simp [*, go_sem])
        (first
          | (go_at_call 83; refine (E _ (bl_trans hb bl_drew0)).mono ?_; rintro e w2 ⟨rfl, hb2⟩; have hb3 := bl_trans bl_drew0 hb2; obtain ⟨⟨x0, x1, x2, x3⟩, ⟨x4, x5, x6, x7⟩, ⟨x8, x9, xa, xb⟩⟩ := hx0.of_block (hb3.block b (Nat.lt_of_lt_of_le hlt hb.size)); obtain ⟨⟨y0, y1, y2, y3⟩, ⟨y4, y5, y6, y7⟩, ⟨y8, y9, ya, yb⟩⟩ := hy0.of_block (hb3.block b' (Nat.lt_of_lt_of_le hlt' hb.size))))
      go_wp2
      go_roundw
      case rel => exact ⟨k + 1, by omega, by go_num, bl_trans hb hb3⟩
      case measure => simp [intOf]; omega
    · clear hc hc' h1 h2 h3 h1' h2' h3' l1 l2 l3
      go_wp2
      go_ret
      exact ⟨rfl, hb⟩
end Go.Proofs.YtoclingolfdfeaaGreatDoor

/- StrC -/
namespace Go.Proofs.YtoclingolfdfeaaGreatDoor
open Go.RowKit Go.Deep
set_option maxRecDepth 100000

/-- A term's parts and what its text holds. -/
structure TB where
  t : Tm
  b : List Int
def TB.td (x : TB) : TD := ⟨x.t.k, x.b, x.t.n, x.t.s⟩
def enc4 (t : Tm) : List Value := [.int .i64 t.k, .slice t.a t.len t.cap, .int .i64 t.n, .int .i64 t.s]
/-- The cells of a row of terms. -/
def flat4 (l : List TB) : List Value := l.flatMap fun x => enc4 x.t
theorem flat4_len (l : List TB) : (flat4 l).length = l.length * 4 := by
  induction l with
  | nil => rfl
  | cons x l ih => simp only [flat4, List.flatMap_cons, List.length_append] at *; rw [ih]; simp [enc4]; omega
theorem flat4_get (l : List TB) (i c : Nat) (hi : i < l.length) (hc : c < 4) : (flat4 l)[i * 4 + c]? = (enc4 l[i].t)[c]? := by
  induction l generalizing i with
  | nil => cases hi
  | cons x l ih =>
    have e : flat4 (x :: l) = enc4 x.t ++ flat4 l := rfl
    rw [e]
    cases i with
    | zero => rw [List.getElem?_append_left (by simp [enc4]; omega)]; simp
    | succ i =>
      rw [List.getElem?_append_right (by simp [enc4]; omega)]
      have : (i + 1) * 4 + c - (enc4 x.t).length = i * 4 + c := by simp [enc4]; omega
      rw [this, ih i (by simpa using hi)]
      rfl
theorem flat4_take (l : List TB) (i : Nat) : flat4 (l.take i) = (flat4 l).take (i * 4) := by
  induction l generalizing i with
  | nil => simp [flat4]
  | cons x l ih =>
    cases i with
    | zero => simp [flat4]
    | succ i =>
      have e : flat4 (x :: l) = enc4 x.t ++ flat4 l := rfl
      have e2 : flat4 (x :: l.take i) = enc4 x.t ++ flat4 (l.take i) := rfl
      rw [List.take_succ_cons, e, e2, ih, show (i + 1) * 4 = (enc4 x.t).length + i * 4 by simp [enc4]; omega, List.take_length_add_append]
theorem flat4_drop (l : List TB) (i : Nat) : flat4 (l.drop i) = (flat4 l).drop (i * 4) := by
  induction l generalizing i with
  | nil => simp [flat4]
  | cons x l ih =>
    cases i with
    | zero => simp
    | succ i =>
      have e : flat4 (x :: l) = enc4 x.t ++ flat4 l := rfl
      rw [List.drop_succ_cons, e, ih, show (i + 1) * 4 = (enc4 x.t).length + i * 4 by simp [enc4]; omega, List.drop_length_add_append]

/-- Terms behind an address. -/
def TRow (w : World) (a : Option Addr) (l : List TB) : Prop := l = [] ∨ ∃ b off, a = some ⟨b, off, none⟩ ∧ b < w.heap.size ∧ ∀ j u, (flat4 l)[j]? = some u → w.cell? ⟨b, off + j, none⟩ = some u
theorem TRow.below {w w' : World} {a : Option Addr} {l : List TB} (h : TRow w a l) (hb : Below w.heap.size w w') : TRow w' a l := by
  rcases h with h | ⟨b, off, ha, hl, hc⟩
  · exact .inl h
  · exact .inr ⟨b, off, ha, Nat.lt_of_lt_of_le hl hb.size, fun j u hu => (hb.cell (p := ⟨b, off + j, none⟩) hl).trans (hc j u hu)⟩
theorem TRow.at {w : World} {b off : Nat} {l : List TB} (hc : ∀ j u, (flat4 l)[j]? = some u → w.cell? ⟨b, off + j, none⟩ = some u) (i : Nat) (hi : i < l.length) :
    w.cell? ⟨b, off + i * 4, none⟩ = some (.int .i64 l[i].t.k) ∧ w.cell? ⟨b, off + i * 4 + 1, none⟩ = some (.slice l[i].t.a l[i].t.len l[i].t.cap) ∧ w.cell? ⟨b, off + i * 4 + 2, none⟩ = some (.int .i64 l[i].t.n) ∧ w.cell? ⟨b, off + i * 4 + 3, none⟩ = some (.int .i64 l[i].t.s) := by
  refine ⟨hc (i * 4 + 0) _ ?_, ?_, ?_, ?_⟩
  · rw [flat4_get l i 0 hi (by omega)]; rfl
  · rw [Nat.add_assoc]; exact hc _ _ (by rw [flat4_get l i 1 hi (by omega)]; rfl)
  · rw [Nat.add_assoc]; exact hc _ _ (by rw [flat4_get l i 2 hi (by omega)]; rfl)
  · rw [Nat.add_assoc]; exact hc _ _ (by rw [flat4_get l i 3 hi (by omega)]; rfl)
/-- Their texts. -/
def TTxt (w : World) (l : List TB) : Prop := ∀ x ∈ l, Bs w x.t.a x.t.len x.b
theorem TTxt.below {w w' : World} {l : List TB} (h : TTxt w l) (hb : Below w.heap.size w w') : TTxt w' l := fun x hx => (h x hx).below hb

/-- A row of terms of the call's own, or none as yet. -/
def OwnTR (w : World) (B : Nat) (v : Value) (l : List TB) : Prop := w.ownsRow B 24 4 v l.length (flat4 l) ∧ ∀ g, v.ownBlock = some g → B ≤ g ∧ g < w.heap.size
theorem OwnTR.nil (w : World) (B : Nat) : OwnTR w B (.slice none 0 0) [] := ⟨World.ownsRow_nil _ _ _ _, fun g h => by cases h⟩
theorem OwnTR.below {w w' : World} {B : Nat} {v : Value} {l : List TB} (h : OwnTR w B v l) (hb : Below w.heap.size w w') : OwnTR w' B v l := by
  obtain ⟨⟨h1, h2⟩, hl⟩ := h
  refine ⟨⟨h1, ?_⟩, fun g hg => ⟨(hl g hg).1, Nat.lt_of_lt_of_le (hl g hg).2 hb.size⟩⟩
  rcases h2 with h2 | ⟨g', cap', cur, hv, hB, hh, r⟩
  · exact .inl h2
  · refine .inr ⟨g', cap', cur, hv, hB, ?_, r⟩
    have := (hl g' (by rw [hv]; rfl)).2
    rw [hb.block g' this]
    exact hh
theorem OwnTR.form {w : World} {B : Nat} {v : Value} {l : List TB} (h : OwnTR w B v l) : ∃ a cap, v = .slice a l.length cap ∧ TRow w a l ∧ l.length ≤ cap ∧ (a = none → l = [] ∧ cap = 0) ∧ ∀ x, a = some x → ∃ g, x = ⟨g, 0, none⟩ ∧ B ≤ g ∧ g < w.heap.size := by
  rcases h.1.2 with ⟨rfl, h0⟩ | ⟨g, cap, cur, rfl, hB, hh, hle, _, hsz, htk⟩
  · have := List.eq_nil_of_length_eq_zero h0
    subst this
    exact ⟨none, 0, rfl, .inl rfl, by simp, fun _ => ⟨rfl, rfl⟩, fun x hx => by cases hx⟩
  · have hlt := (h.2 g rfl).2
    refine ⟨some ⟨g, 0, none⟩, cap, rfl, .inr ⟨g, 0, rfl, hlt, fun j u hu => ?_⟩, hle, fun hx => (by cases hx), fun x hx => by cases hx; exact ⟨g, rfl, hB, hlt⟩⟩
    rw [Nat.zero_add]
    have hj : j < l.length * 4 := by
      apply Classical.byContradiction
      intro hn
      rw [List.getElem?_eq_none (by rw [flat4_len]; omega)] at hu
      cases hu
    rw [← htk, List.getElem?_take, if_pos hj] at hu
    simp only [World.cell?, hh]
    simpa using hu

theorem Tryz.info24 : (Tryz.prog.info? 24).map (fun i => (i.zero, i.size, i.bytes)) = some (some (.agg #[.int .i64 0, .slice none 0 0, .int .i64 0, .int .i64 0]), 4, 48) := by kernel_rfl

/-- The cells of some of them. -/
theorem TRow.news {w : World} {b off : Nat} {l : List TB} (hc : ∀ j u, (flat4 l)[j]? = some u → w.cell? ⟨b, off + j, none⟩ = some u) (i m : Nat) :
    ∀ j u, (flat4 ((l.drop i).take m))[j]? = some u → w.cell? ((⟨b, off + i * 4, none⟩ : Addr).add j) = some u := by
  intro j u hu
  have ea : (⟨b, off + i * 4, none⟩ : Addr).add j = ⟨b, off + (i * 4 + j), none⟩ := by
    by_cases h0 : j = 0 <;> simp [Addr.add, h0, Nat.add_assoc]
  rw [ea]
  refine hc _ _ ?_
  rw [flat4_take, flat4_drop, List.getElem?_take] at hu
  split at hu
  · rw [List.getElem?_drop] at hu; exact hu
  · cases hu
end Go.Proofs.YtoclingolfdfeaaGreatDoor

/- LxA -/
namespace Go.Proofs.YtoclingolfdfeaaGreatDoor
open Go.RowKit Go.Deep
set_option maxRecDepth 100000

/-- A text's byte at a place, and what is left from there. -/
theorem Bs.byte {w : World} {a : Option Addr} {len : Nat} {bs : List Int} (h : Bs w a len bs) {k : Nat} (hk : k < len) : ∃ b off x, a = some ⟨b, off, none⟩ ∧ w.cell? ⟨b, off + k, none⟩ = some (.int .u8 x) ∧ bs.drop k = x :: bs.drop (k + 1) ∧ 0 ≤ x ∧ x ≤ 255 := by
  obtain ⟨h1, _, h3, h4⟩ := h
  obtain ⟨b, off, ha, _, hc⟩ := h4.resolve_left (by omega)
  have hkb : k < bs.length := by omega
  have e : bs[k]? = some bs[k] := List.getElem?_eq_getElem hkb
  have hx := hc k hk
  have h3 := h3 k
  rw [e] at hx h3
  exact ⟨b, off, bs[k], ha, hx, List.drop_eq_getElem_cons hkb, h3.1, h3.2⟩
theorem piece_more {bs : List Int} {k E : Nat} {x : Int} (hd : bs.drop k = x :: bs.drop (k + 1)) (h : (ofPiece x || (x == 46 && digitHd (bs.drop (k + 1)))) = true) (hE : k + pieceLen (bs.drop k) = E) : k + 1 + pieceLen (bs.drop (k + 1)) = E := by
  rw [hd, pieceLen_yes h] at hE
  omega
theorem piece_end {bs : List Int} {k E : Nat} {x : Int} (hd : bs.drop k = x :: bs.drop (k + 1)) (h : (ofPiece x || (x == 46 && digitHd (bs.drop (k + 1)))) = false) (hE : k + pieceLen (bs.drop k) = E) : k = E := by
  rw [hd, pieceLen_no h] at hE
  omega
set_option maxHeartbeats 4000000 in
theorem l2end_any (a : Option Addr) (len cap : Nat) (bs : List Int) (f : Nat) (w : World) (hB : Bs w a len bs) (hf : f ≤ len) :
    Calls Tryz.prog 122 #[.slice a len cap, .int .i64 f] w fun e w' => e = .returned (.int .i64 ((f + pieceLen (bs.drop f) : Nat) : Int)) ∧ w' = w := by
  have hL := pieceLen_le (bs.drop f)
  have hlen := hB.1
  have hl2 := hB.2.1
  rw [List.length_drop] at hL
  obtain ⟨E, hE⟩ : ∃ E, f + pieceLen (bs.drop f) = E := ⟨_, rfl⟩
  rw [hE]
  have HE : Hid (f + pieceLen (bs.drop f) = E) := hE
  have hEs : E ≤ len := by omega
  have HB : Hid (Bs w a len bs) := hB
  have HN : Hid (bs.length = len) := hlen
  clear hE hL hB hlen
  go_enter Tryz.func122, Tryz.ntmps122
  go_wp2_with fail
  go_loop [1] (fun i => ∃ k : Nat, k ≤ len ∧ i = .int .i64 k ∧ k + pieceLen (bs.drop k) = E)
    (fun i => len - (intOf i).toNat)
  case atStart => exact ⟨f, hf, rfl, HE.out⟩
  case round =>
    obtain ⟨k, hk, rfl, hH⟩ := hrel
    have HH : Hid (k + pieceLen (bs.drop k) = E) := hH
    clear hH HE
    by_cases hlt : k < len
    · obtain ⟨b, off, x, rfl, hx, hd, x0, x1⟩ := HB.out.byte hlt
      have HD : Hid (bs.drop k = x :: bs.drop (k + 1)) := hd
      clear hd
      have hkz : (k : Int) < (len : Int) := by omega
      cases hs : (letter x || digit x)
      · by_cases hg : 65 ≤ x
        · by_cases hg2 : x ≤ 90
          · have hP := piece_more HD.out (by simp [ofPiece, great, hg, hg2]) HH.out
            have HP : Hid _ := hP
            clear hP
            go_wp2_with (go_at_call 33; refine (small_any _ _).mono ?_; rintro e w2 ⟨rfl, rfl⟩; rw [hs])
            go_round
            case rel => exact ⟨k + 1, by omega, by go_num, HP.out⟩
            case measure => simp [intOf]; omega
          · have hP := piece_end HD.out (by have h1 := hs; simp only [Bool.or_eq_false_iff] at h1; have h46 : (x == 46) = false := (by simp; omega); simp [ofPiece, great, h1.1, h1.2, hg2, h46]) HH.out
            subst hP
            go_wp2_with (go_at_call 33; refine (small_any _ _).mono ?_; rintro e w2 ⟨rfl, rfl⟩; rw [hs])
            go_ret
            exact ⟨rfl, rfl⟩
        · by_cases h46 : x = 46
          · have h46b : (x == 46) = true := by simp [h46]
            have HX46 : Hid (x = 46) := h46
            clear h46
            by_cases hn : k + 1 < len
            · obtain ⟨b', off', y, e', hy, hd2, y0, y1⟩ := HB.out.byte hn
              cases e'
              have HD2 : Hid (bs.drop (k + 1) = y :: bs.drop (k + 1 + 1)) := hd2
              clear hd2
              have hnz : (k : Int) + 1 < (len : Int) := by omega
              by_cases hy1 : 48 ≤ y
              · by_cases hy2 : y ≤ 57
                · have hP := piece_more HD.out (by simp [HX46.out, HD2.out, digitHd, digit, hy1, hy2]) HH.out
                  have HP : Hid _ := hP
                  clear hP
                  go_wp2_with (go_at_call 33; refine (small_any _ _).mono ?_; rintro e w2 ⟨rfl, rfl⟩; rw [hs])
                  go_round
                  case rel => exact ⟨k + 1, by omega, by go_num, HP.out⟩
                  case measure => simp [intOf]; omega
                · have hP := piece_end HD.out (by rw [HD2.out, HX46.out]; simp [ofPiece, letter, great, digit, digitHd, hy2]) HH.out
                  subst hP
                  go_wp2_with (go_at_call 33; refine (small_any _ _).mono ?_; rintro e w2 ⟨rfl, rfl⟩; rw [hs])
                  go_ret
                  exact ⟨rfl, rfl⟩
              · have hP := piece_end HD.out (by rw [HD2.out, HX46.out]; simp [ofPiece, letter, great, digit, digitHd, hy1]) HH.out
                subst hP
                go_wp2_with (go_at_call 33; refine (small_any _ _).mono ?_; rintro e w2 ⟨rfl, rfl⟩; rw [hs])
                go_ret
                exact ⟨rfl, rfl⟩
            · have hnz : ¬ (k : Int) + 1 < (len : Int) := by omega
              have hP := piece_end HD.out (by have e0 : bs.drop (k + 1) = [] := List.drop_eq_nil_of_le (by have := HN.out; omega); rw [e0, HX46.out]; simp [ofPiece, letter, great, digit, digitHd]) HH.out
              subst hP
              go_wp2_with (go_at_call 33; refine (small_any _ _).mono ?_; rintro e w2 ⟨rfl, rfl⟩; rw [hs])
              go_ret
              exact ⟨rfl, rfl⟩
          · have h46b : (x == 46) = false := by simp [h46]
            have hP := piece_end HD.out (by have h1 := hs; simp only [Bool.or_eq_false_iff] at h1; simp [ofPiece, great, h1.1, h1.2, hg, h46b]) HH.out
            subst hP
            go_wp2_with (go_at_call 33; refine (small_any _ _).mono ?_; rintro e w2 ⟨rfl, rfl⟩; rw [hs])
            go_ret
            exact ⟨rfl, rfl⟩
      · have hP := piece_more HD.out (by rw [ofPiece]; revert hs; cases letter x <;> cases digit x <;> simp) HH.out
        have HP : Hid _ := hP
        clear hP
        go_wp2_with (go_at_call 33; refine (small_any _ _).mono ?_; rintro e w2 ⟨rfl, rfl⟩; rw [hs])
        go_round
        case rel => exact ⟨k + 1, by omega, by go_num, HP.out⟩
        case measure => simp [intOf]; omega
    · have hkz : ¬ (k : Int) < (len : Int) := by omega
      have e := HH.out
      have e0 : bs.drop k = [] := List.drop_eq_nil_of_le (by have := HN.out; omega)
      rw [e0] at e
      obtain rfl : k = E := by simpa [pieceLen] using e
      clear e e0
      go_wp2_with fail
      go_ret
      exact ⟨rfl, rfl⟩
end Go.Proofs.YtoclingolfdfeaaGreatDoor

/- ApqA -/
namespace Go.Proofs.YtoclingolfdfeaaGreatDoor
open Go.RowKit Go.Deep
set_option maxRecDepth 100000

theorem below_setCells {w0 : World} {B b : Nat} (hB : B ≤ b) : ∀ (vs : List Value) (o : Nat) (w : World), Below B w0 w → Below B w0 (w.setCells b o vs)
  | [], _, _, h => h
  | v :: r, o, w, h => by
    rw [World.setCells]
    exact below_setCells hB r (o + 1) _ (h.setCell (p := ⟨b, o, none⟩) hB v)
theorem bs_of_cells {w : World} {g n : Nat} {bs : List Int} (hl : bs.length = n) (hn : n ≤ 1048576) (hb : Byt bs) (hg : g < w.heap.size) (hc : ∀ i, i < n → w.cell? ⟨g, i, none⟩ = some (.int .u8 (bs[i]?.getD 0))) : Bs w (some ⟨g, 0, none⟩) n bs :=
  ⟨hl, hn, fun i => hb.get i, .inr ⟨g, 0, rfl, hg, fun i hi => by rw [Nat.zero_add]; exact hc i hi⟩⟩
end Go.Proofs.YtoclingolfdfeaaGreatDoor
