/- Texts put together: TxtB TokA TokB TokC -/
import Derived.Test.YtdcaicoomldmgaaGreatDoorMk01
/- TxtB -/
namespace Go.Proofs.YtdcaicoomldmgaaGreatDoor
open Go.RowKit Go.Deep

theorem list_eq_of (xs bs : List Int) (h : xs.length = bs.length) (H : ∀ j : Nat, j < xs.length → xs[j]?.getD 0 = bs[j]?.getD 0) : xs = bs := by
  apply List.ext_getElem h
  intro i h1 h2
  have := H i h1
  simpa [h1, h2] using this
theorem list_ne_of (xs bs : List Int) (k : Nat) (H : xs[k]?.getD 0 ≠ bs[k]?.getD 0) : xs ≠ bs := by
  intro e; subst e; exact H rfl

theorem eqByteS_any (a b : Option Addr) (la lb ca cb : Nat) (xs bs : List Int) (w : World) (hA : Bs w a la xs) (hB : Bs w b lb bs) :
    Calls Tryz.prog 60 #[.slice a la ca, .slice b lb cb] w fun e w' => e = .returned (.bool (decide (xs = bs))) ∧ ∃ q, w' = w.drewN q := by
  obtain ⟨hla, h2a, h3a, h4a⟩ := hA
  obtain ⟨hlb, h2b, h3b, h4b⟩ := hB
  by_cases hne : la = lb
  · subst hne
    rcases h4a with h4a | ⟨ba, offa, rfl, hlta, hca⟩
    · subst h4a
      have e : xs = bs := by
        rw [List.eq_nil_of_length_eq_zero hla, List.eq_nil_of_length_eq_zero hlb]
      have e' : decide (xs = bs) = true := by simp [e]
      rw [e']
      go_enter Tryz.func60, Tryz.ntmps60
      go_wp2
      refine wp_loop_rounds 1 ?_
      rw [rounds_succ]
      go_wp2
      go_ret
      exact ⟨rfl, 0, rfl⟩
    · rcases h4b with h4b | ⟨bb, offb, rfl, hltb, hcb⟩
      · subst h4b
        have e : xs = bs := by
          rw [List.eq_nil_of_length_eq_zero hla, List.eq_nil_of_length_eq_zero hlb]
        have e' : decide (xs = bs) = true := by simp [e]
        rw [e']
        go_enter Tryz.func60, Tryz.ntmps60
        go_wp2
        refine wp_loop_rounds 1 ?_
        rw [rounds_succ]
        go_wp2
        go_ret
        exact ⟨rfl, 0, rfl⟩
      · go_enter Tryz.func60, Tryz.ntmps60
        go_wp2
        go_loopw [5] (fun i wr => ∃ k q : Nat, k ≤ la ∧ i = .int .i64 k ∧ wr = w.drewN q ∧ ∀ j : Nat, j < k → xs[j]?.getD 0 = bs[j]?.getD 0)
          (fun i _ => la - (intOf i).toNat)
        case atStart => exact ⟨0, 0, Nat.zero_le _, rfl, rfl, by intro j hj; omega⟩
        case round =>
          obtain ⟨k, q, hk, rfl, rfl, hH⟩ := hrel
          have HA : Hid (xs.length = la) := hla
          have HB : Hid (bs.length = la) := hlb
          have HH : Hid (∀ j : Nat, j < k → xs[j]?.getD 0 = bs[j]?.getD 0) := hH
          by_cases hlt : k < la
          · have hx := hca k hlt
            have hy := hcb k hlt
            clear hca hcb hla hlb hH h3a h3b
            go_wp2
            go_region
            all_goals go_wp2
            · have hd : (xs[k]?.getD 0 != bs[k]?.getD 0) = true := by assumption
              have : xs ≠ bs := list_ne_of xs bs k (by simpa using hd)
              go_ret
              exact ⟨by simp [this], _, rfl⟩
            · have hd : (xs[k]?.getD 0 != bs[k]?.getD 0) = false := by assumption
              have hd' : xs[k]?.getD 0 = bs[k]?.getD 0 := by simpa using hd
              go_roundw
              case rel => exact ⟨k + 1, q + 1, by omega, by go_num, rfl, fun j hj => by
                by_cases e : j = k
                · rw [e]; exact hd'
                · exact HH.out j (by omega)⟩
              case measure => simp [intOf]; omega
          · clear hca hcb hla hlb hH h3a h3b
            go_wp2
            go_ret
            refine ⟨?_, q, rfl⟩
            have : xs = bs := list_eq_of xs bs (HA.out.trans HB.out.symm) (fun j hj => HH.out j (by have := HA.out; omega))
            simp [this]
  · have e : xs ≠ bs := by intro e; subst e; exact hne (hla.symm.trans hlb)
    have e' : decide (xs = bs) = false := by simp [e]
    rw [e']
    have hz : ((la : Int) == (lb : Int)) = false := by simp; omega
    clear h4a h4b h3a h3b
    go_enter Tryz.func60, Tryz.ntmps60
    go_wp2
    go_ret
    exact ⟨rfl, 0, rfl⟩

theorem szByteS_any (a : Option Addr) (len cap : Nat) (left : Int) (w : World) (_h1 : 0 ≤ left) (_h2 : left ≤ 1048576) (_h3 : len ≤ 9223372036854775807) :
    Calls Tryz.prog 52 #[.slice a len cap, .int .i64 left] w fun e w' => e = .returned (.int .i64 (if left < len then -1 else left - len)) ∧ w' = w := by
  go_enter Tryz.func52, Tryz.ntmps52
  go_wp2
  all_goals go_ret
  all_goals exact ⟨rfl, rfl⟩

theorem toTerm_any (k n s : Int) (a : Option Addr) (len cap : Nat) (bs : List Int) (w : World) (hB : Bs w a len bs) :
    Calls Tryz.prog 20 #[.agg #[.int .i64 k, .slice a len cap, .int .i64 n, .int .i64 s]] w fun e w' =>
      ∃ g, e = .returned (.agg #[.int .i64 k, .slice (some ⟨g, 0, none⟩) len len, .int .i64 n, .int .i64 s]) ∧ Bs w' (some ⟨g, 0, none⟩) len bs ∧ Below w.heap.size w w' := by
  have hB3 : ∀ o1 o2 o3, Bs (((w.alloc o1).alloc o2).alloc o3) a len bs := fun o1 o2 o3 => hB.below (bl_alloc (bl_alloc (bl_alloc (Below.refl _ _) _) _) _)
  obtain ⟨hl, h2, h3, h4⟩ := hB
  clear h4
  have hM : ∀ (w : World) (g : Nat), g = w.heap.size → Bs (w.alloc (.cells (cellsOf bs) 5)) (some ⟨g, 0, none⟩) len bs := fun w g e => by subst e; exact Bs.made w bs len hl h2 h3
  clear h3
  go_enter Tryz.func20, Tryz.ntmps20
  go_wp2_with (go_at_call 57; refine (toByteS_any a len cap bs _ (hB3 _ _ _)).mono ?_; rintro e w1 ⟨rfl, rfl⟩)
  simp [bodyPost, results, Tryz.results20, go_sem]
  exact ⟨hM _ _ (by simp), bl_alloc (bl_alloc (bl_alloc (bl_alloc (Below.refl _ _) _) _) _) _⟩

/-- How much is left of the room for arguments. -/
def leftOf (left : Int) (len : Nat) : Int := if left < len then -1 else left - len

theorem szTerm_any (k n s : Int) (a : Option Addr) (len cap : Nat) (left : Int) (w : World) (h1 : 0 ≤ left) (h2 : left ≤ 1048576) (h3 : len ≤ 9223372036854775807) :
    Calls Tryz.prog 17 #[.agg #[.int .i64 k, .slice a len cap, .int .i64 n, .int .i64 s], .int .i64 left] w fun e w' => e = .returned (.int .i64 (leftOf left len)) ∧ Below w.heap.size w w' := by
  unfold leftOf
  go_enter Tryz.func17, Tryz.ntmps17
  go_wp2_with (go_at_call 52; refine (szByteS_any a len cap left _ h1 h2 h3).mono ?_; rintro e w1 ⟨rfl, rfl⟩)
  all_goals go_ret
  all_goals refine ⟨?_, bl_alloc (Below.refl _ _) _⟩
  all_goals (simp_all; try omega)

theorem keep4 {u w2 : World} {a b c d : Value} {t : TypeId} (h : Below (u.alloc (.cells #[a, b, c, d] t)).heap.size (u.alloc (.cells #[a, b, c, d] t)) w2) :
    w2.cell? ⟨u.heap.size, 0, none⟩ = some a ∧ w2.cell? ⟨u.heap.size, 1, none⟩ = some b ∧ w2.cell? ⟨u.heap.size, 2, none⟩ = some c ∧ w2.cell? ⟨u.heap.size, 3, none⟩ = some d ∧ u.heap.size < w2.heap.size := by
  have e : ∀ i, w2.cell? ⟨u.heap.size, i, none⟩ = (u.alloc (.cells #[a, b, c, d] t)).cell? ⟨u.heap.size, i, none⟩ := fun i => h.cell (by simp)
  have hs := h.size
  simp at hs
  simp [e, go_sem]
  omega

theorem eqTerm_any (k n s k' n' s' : Int) (a a' : Option Addr) (len cap len' cap' : Nat) (bs bs' : List Int) (w : World) (hB : Bs w a len bs) (hB' : Bs w a' len' bs') :
    Calls Tryz.prog 22 #[.agg #[.int .i64 k, .slice a len cap, .int .i64 n, .int .i64 s], .agg #[.int .i64 k', .slice a' len' cap', .int .i64 n', .int .i64 s']] w fun e w' =>
      e = .returned (.bool (decide (k = k' ∧ bs = bs' ∧ n = n' ∧ s = s'))) ∧ Below w.heap.size w w' := by
  have h1 : ∀ o1 o2, Bs ((w.alloc o1).alloc o2) a len bs := fun o1 o2 => hB.below (bl_alloc (bl_alloc (Below.refl _ _) _) _)
  have h2 : ∀ o1 o2, Bs ((w.alloc o1).alloc o2) a' len' bs' := fun o1 o2 => hB'.below (bl_alloc (bl_alloc (Below.refl _ _) _) _)
  clear hB hB'
  go_enter Tryz.func22, Tryz.ntmps22
  go_wp2_with (go_at_call 60; refine (eqByteS_any a a' len len' cap cap' bs bs' _ (h1 _ _) (h2 _ _)).mono ?_; rintro e w1 ⟨rfl, q, rfl⟩)
  all_goals go_ret
  all_goals refine ⟨?_, ?_⟩
  all_goals first | ((repeat (first | with_reducible exact Below.refl _ _ | with_reducible apply bl_alloc | with_reducible apply Below.drew | with_reducible apply below_drewN)); done) | skip
  all_goals (go_light; simp_all)
end Go.Proofs.YtdcaicoomldmgaaGreatDoor

/- TokA -/
namespace Go.Proofs.YtdcaicoomldmgaaGreatDoor
open Go.RowKit Go.Deep

def letter (b : Int) : Bool := decide (97 ≤ b) && decide (b ≤ 122)
def digit (b : Int) : Bool := decide (48 ≤ b) && decide (b ≤ 57)
def plainB (b : Int) : Bool := decide (32 ≤ b) && decide (b ≤ 126)
def nameOk (bs : List Int) : Bool := decide (1 ≤ bs.length) && decide (bs.length ≤ 12) && letter (bs[0]?.getD 0) && bs.all (fun b => letter b || digit b)
def textOk (bs : List Int) : Bool := decide (bs.length ≤ 30) && bs.all plainB
/-- A term that may be. -/
def termOk (k : Int) (bs : List Int) (n s : Int) : Bool :=
  if k = 0 then nameOk bs && n == 0 && s == 0
  else if k = 1 then bs.length == 0 && decide (0 ≤ n) && decide (n ≤ 999999) && s == 0
  else if k = 2 then textOk bs && n == 0 && s == 0
  else if k = 3 then bs.length == 0 && numOk n s
  else false

theorem all_of (bs : List Int) (p : Int → Bool) (H : ∀ j : Nat, j < bs.length → p (bs[j]?.getD 0) = true) : bs.all p = true := by
  rw [List.all_eq_true]
  intro x hx
  obtain ⟨i, hi, rfl⟩ := List.getElem_of_mem hx
  have := H i hi
  simpa [hi] using this
theorem all_not (bs : List Int) (p : Int → Bool) (k : Nat) (h : k < bs.length) (H : p (bs[k]?.getD 0) = false) : bs.all p = false := by
  rw [List.all_eq_false]
  refine ⟨bs[k], List.getElem_mem h, ?_⟩
  simpa [h] using H

theorem small_any (b : Int) (w : World) : Calls Tryz.prog 92 #[.int .u8 b] w fun e w' => e = .returned (.bool (letter b || digit b)) ∧ w' = w := by
  go_enter Tryz.func92, Tryz.ntmps92
  go_wp2
  all_goals go_ret
  all_goals (refine ⟨congrArg (fun b => Ending.returned (Value.bool b)) ?_, rfl⟩; rw [Bool.eq_iff_iff]; simp [letter, digit]; try omega)
theorem letter_any (b : Int) (w : World) : Calls Tryz.prog 122 #[.int .u8 b] w fun e w' => e = .returned (.bool (letter b)) ∧ w' = w := by
  go_enter Tryz.func122, Tryz.ntmps122
  go_wp2
  all_goals go_ret
  all_goals (refine ⟨?_, rfl⟩; simp [letter]; try omega)
theorem digit_any (b : Int) (w : World) : Calls Tryz.prog 123 #[.int .u8 b] w fun e w' => e = .returned (.bool (digit b)) ∧ w' = w := by
  go_enter Tryz.func123, Tryz.ntmps123
  go_wp2
  all_goals go_ret
  all_goals (refine ⟨?_, rfl⟩; simp [digit]; try omega)

theorem isText_any (a : Option Addr) (len cap : Nat) (bs : List Int) (w : World) (hB : Bs w a len bs) :
    Calls Tryz.prog 95 #[.slice a len cap] w fun e w' => e = .returned (.bool (textOk bs)) ∧ w' = w := by
  obtain ⟨hl, h2, h3, h4⟩ := hB
  clear h3
  by_cases h30 : len ≤ 30
  · rcases h4 with h4 | ⟨b, off, rfl, hlt, hc⟩
    · subst h4
      have e : textOk bs = true := by simp [textOk, List.eq_nil_of_length_eq_zero hl]
      rw [e]
      clear hl
      go_enter Tryz.func95, Tryz.ntmps95
      go_wp2
      refine wp_loop_rounds 1 ?_
      rw [rounds_succ]
      go_wp2
      go_ret
      exact ⟨rfl, rfl⟩
    · have HL : Hid (bs.length = len) := hl
      clear hl
      go_enter Tryz.func95, Tryz.ntmps95
      go_wp2
      go_loop [10] (fun i => ∃ k : Nat, k ≤ len ∧ i = .int .i64 k ∧ ∀ j : Nat, j < k → plainB (bs[j]?.getD 0) = true)
        (fun i => len - (intOf i).toNat)
      case atStart => exact ⟨0, Nat.zero_le _, rfl, by intro j hj; omega⟩
      case round =>
        obtain ⟨k, hk, rfl, hH⟩ := hrel
        have HH : Hid (∀ j : Nat, j < k → plainB (bs[j]?.getD 0) = true) := hH
        have hcx : k < len → w.cell? ⟨b, off + k, none⟩ = some (.int .u8 (bs[k]?.getD 0)) := fun h => hc k h
        clear hc hH
        go_wp2
        · have hx : bs[k]?.getD 0 < 32 ∨ 126 < bs[k]?.getD 0 := by assumption
          go_ret
          refine ⟨?_, rfl⟩
          have e := all_not bs plainB k (by have := HL.out; omega) (by simp [plainB]; omega)
          simp [textOk, e]
        · have hx : 32 ≤ bs[k]?.getD 0 ∧ bs[k]?.getD 0 ≤ 126 := by assumption
          go_round
          case rel => exact ⟨k + 1, by omega, by go_num, fun j hj => by
            by_cases e : j = k
            · subst e; simp [plainB]; omega
            · exact HH.out j (by omega)⟩
          case measure => simp [intOf]; omega
        · have hx : bs[k]?.getD 0 < 32 := by assumption
          go_ret
          refine ⟨?_, rfl⟩
          have e := all_not bs plainB k (by have := HL.out; omega) (by simp [plainB]; omega)
          simp [textOk, e]
        · go_ret
          refine ⟨?_, rfl⟩
          have hl := HL.out
          have e := all_of bs plainB (fun j hj => HH.out j (by omega))
          simp [textOk, e]; omega
  · have e : textOk bs = false := by simp [textOk]; omega
    rw [e]
    clear h4
    go_enter Tryz.func95, Tryz.ntmps95
    go_wp2
    go_ret
    exact ⟨rfl, rfl⟩

theorem isName_any (a : Option Addr) (len cap : Nat) (bs : List Int) (w : World) (hB : Bs w a len bs) :
    Calls Tryz.prog 94 #[.slice a len cap] w fun e w' => e = .returned (.bool (nameOk bs)) ∧ w' = w := by
  obtain ⟨hl, h2, h3, h4⟩ := hB
  clear h3
  by_cases h0 : len = 0
  · subst h0
    have e : nameOk bs = false := by simp [nameOk, hl]
    rw [e]
    clear hl h4
    go_enter Tryz.func94, Tryz.ntmps94
    go_wp2
    go_ret
    exact ⟨rfl, rfl⟩
  obtain ⟨b, off, rfl, hlt, hc⟩ : ∃ b off, a = some ⟨b, off, none⟩ ∧ b < w.heap.size ∧ ∀ i, i < len → w.cell? ⟨b, off + i, none⟩ = some (.int .u8 (bs[i]?.getD 0)) := by
    rcases h4 with h4 | h4
    · exact absurd h4 h0
    · exact h4
  clear h4
  by_cases h12 : len ≤ 12
  · have hc0 : w.cell? ⟨b, off, none⟩ = some (.int .u8 (bs[0]?.getD 0)) := hc 0 (by omega)
    have hb1 : (1 : Int) ≤ (len : Int) := by omega
    have hb0 : (0 : Int) < (len : Int) := by omega
    have HL : Hid (bs.length = len) := hl
    clear hl
    by_cases hf : letter (bs[0]?.getD 0) = true
    · go_enter Tryz.func94, Tryz.ntmps94
      go_wp2_with (first | (go_at_call 122; refine (letter_any _ _).mono ?_; rintro e w1 ⟨rfl, rfl⟩) | go_in)
      go_loop [18] (fun i => ∃ k : Nat, k ≤ len ∧ i = .int .i64 k ∧ ∀ j : Nat, j < k → (letter (bs[j]?.getD 0) || digit (bs[j]?.getD 0)) = true)
        (fun i => len - (intOf i).toNat)
      case atStart => exact ⟨0, Nat.zero_le _, rfl, by intro j hj; omega⟩
      case round =>
        obtain ⟨k, hk, rfl, hH⟩ := hrel
        have HH : Hid (∀ j : Nat, j < k → (letter (bs[j]?.getD 0) || digit (bs[j]?.getD 0)) = true) := hH
        have HC := hc
        have HF : Hid (letter (bs[0]?.getD 0) = true) := hf
        clear hc hH hc0 hf
        by_cases hlt2 : k < len
        · have hcx := HC k hlt2
          clear HC
          generalize hg : bs[k]?.getD 0 = x at hcx
          have HG : Hid (bs[k]?.getD 0 = x) := hg
          clear hg
          have hkl : k < bs.length := by have := HL.out; omega
          by_cases h1 : letter x = true
          · go_wp2_with (first | (go_at_call 122; refine (letter_any _ _).mono ?_; rintro e w2 ⟨rfl, rfl⟩) | (go_at_call 123; refine (digit_any _ _).mono ?_; rintro e w3 ⟨rfl, rfl⟩))
            go_round
            case rel => exact ⟨k + 1, by omega, by go_num, fun j hj => by
              by_cases e : j = k
              · subst e; rw [HG.out, h1]; rfl
              · exact HH.out j (by omega)⟩
            case measure => simp [intOf]; omega
          · have h1' : letter x = false := by simpa using h1
            clear h1
            by_cases h2 : digit x = true
            · go_wp2_with (first | (go_at_call 122; refine (letter_any _ _).mono ?_; rintro e w2 ⟨rfl, rfl⟩) | (go_at_call 123; refine (digit_any _ _).mono ?_; rintro e w3 ⟨rfl, rfl⟩))
              go_round
              case rel => exact ⟨k + 1, by omega, by go_num, fun j hj => by
                by_cases e : j = k
                · subst e; rw [HG.out, h2]; simp
                · exact HH.out j (by omega)⟩
              case measure => simp [intOf]; omega
            · have h2' : digit x = false := by simpa using h2
              clear h2
              go_wp2_with (first | (go_at_call 122; refine (letter_any _ _).mono ?_; rintro e w2 ⟨rfl, rfl⟩) | (go_at_call 123; refine (digit_any _ _).mono ?_; rintro e w3 ⟨rfl, rfl⟩))
              go_ret
              refine ⟨?_, rfl⟩
              have e := all_not bs (fun b => letter b || digit b) k hkl (by show (letter _ || digit _) = false; rw [HG.out, h1', h2']; rfl)
              simp [nameOk, e]
        · clear HC
          go_wp2
          go_ret
          refine ⟨?_, rfl⟩
          have hl := HL.out
          have e := all_of bs (fun b => letter b || digit b) (fun j hj => HH.out j (by omega))
          have hf := HF.out
          simp only [nameOk, e, hf, hl]
          simp; omega
    · have hf' : letter (bs[0]?.getD 0) = false := by simpa using hf
      have e : nameOk bs = false := by simp [nameOk, hf']
      rw [e]
      clear hf
      go_enter Tryz.func94, Tryz.ntmps94
      go_wp2_with (first | (go_at_call 122; refine (letter_any _ _).mono ?_; rintro e w1 ⟨rfl, rfl⟩) | go_in)
      go_ret
      exact ⟨rfl, rfl⟩
  · have e : nameOk bs = false := by simp [nameOk, hl]; omega
    rw [e]
    have h12' : decide ((len : Int) ≤ 12) = false := by simp; omega
    clear hl hc
    go_enter Tryz.func94, Tryz.ntmps94
    go_wp2
    go_ret
    exact ⟨rfl, rfl⟩
end Go.Proofs.YtdcaicoomldmgaaGreatDoor

/- TokB -/
namespace Go.Proofs.YtdcaicoomldmgaaGreatDoor
open Go.RowKit Go.Deep

theorem specTermOk_blank (n s : Int) (a : Option Addr) (len cap : Nat) (bs : List Int) (w : World) (hB : Bs w a len bs) :
    Calls Tryz.prog 53 #[.agg #[.int .i64 1, .slice a len cap, .int .i64 n, .int .i64 s]] w fun e w' => e = .returned (.bool (termOk 1 bs n s)) ∧ ∃ o1, w' = w.alloc o1 := by
  obtain ⟨hl, h2, h3, h4⟩ := hB
  have HL : Hid (bs.length = len) := hl
  clear h3 h4 hl
  go_enter Tryz.func53, Tryz.ntmps53
  go_wp2
  all_goals go_ret
  all_goals (refine ⟨congrArg (fun b => Ending.returned (Value.bool b)) ?_, _, rfl⟩; have hl := HL.out; rw [Bool.eq_iff_iff]; go_light; simp [termOk, -List.length_eq_zero_iff]; try omega)

theorem specTermOk_number (n s : Int) (a : Option Addr) (len cap : Nat) (bs : List Int) (w : World) (hB : Bs w a len bs) (_h1 : -9223372036854775808 ≤ n) (_h2 : n ≤ 9223372036854775807) :
    Calls Tryz.prog 53 #[.agg #[.int .i64 3, .slice a len cap, .int .i64 n, .int .i64 s]] w fun e w' => e = .returned (.bool (termOk 3 bs n s)) ∧ ∃ o1, w' = w.alloc o1 := by
  obtain ⟨hl, h2, h3, h4⟩ := hB
  have HL : Hid (bs.length = len) := hl
  clear h3 h4 hl
  go_enter Tryz.func53, Tryz.ntmps53
  go_wp2
  all_goals go_ret
  all_goals (refine ⟨congrArg (fun b => Ending.returned (Value.bool b)) ?_, _, rfl⟩; have hl := HL.out; rw [Bool.eq_iff_iff]; go_light; simp [termOk, numOk, -List.length_eq_zero_iff]; try omega)

theorem specTermOk_other (k n s : Int) (a : Option Addr) (len cap : Nat) (bs : List Int) (w : World) (h0 : k ≠ 0) (h1 : k ≠ 1) (h2 : k ≠ 2) (h3 : k ≠ 3) :
    Calls Tryz.prog 53 #[.agg #[.int .i64 k, .slice a len cap, .int .i64 n, .int .i64 s]] w fun e w' => e = .returned (.bool (termOk k bs n s)) ∧ ∃ o1, w' = w.alloc o1 := by
  have e : termOk k bs n s = false := by simp [termOk, h0, h1, h2, h3]
  rw [e]
  have g0 : (k == 0) = false := by simp; omega
  have g1 : (k == 1) = false := by simp; omega
  have g2 : (k == 2) = false := by simp; omega
  have g3 : (k == 3) = false := by simp; omega
  clear h0 h1 h2 h3 e
  go_enter Tryz.func53, Tryz.ntmps53
  go_wp2
  go_ret
  exact ⟨rfl, _, rfl⟩

set_option maxRecDepth 10000 in
set_option maxHeartbeats 1000000 in
theorem specTermOk_text (n s : Int) (a : Option Addr) (len cap : Nat) (bs : List Int) (w : World) (hB : Bs w a len bs) :
    Calls Tryz.prog 53 #[.agg #[.int .i64 2, .slice a len cap, .int .i64 n, .int .i64 s]] w fun e w' => e = .returned (.bool (termOk 2 bs n s)) ∧ ∃ o1, w' = w.alloc o1 := by
  obtain ⟨hl, h2, h3, h4⟩ := hB
  have et : termOk 2 bs n s = (textOk bs && n == 0 && s == 0) := by simp [termOk]
  rw [et]
  clear h3 et
  by_cases h30 : len ≤ 30 ∧ n = 0 ∧ s = 0
  · obtain ⟨h30, rfl, rfl⟩ := h30
    have eb : (textOk bs && (0 : Int) == 0 && (0 : Int) == 0) = textOk bs := by simp
    rw [eb]
    clear eb
    rcases h4 with h4 | ⟨b, off, rfl, hlt, hc⟩
    · subst h4
      have e : textOk bs = true := by simp [textOk, List.eq_nil_of_length_eq_zero hl]
      rw [e]
      clear hl e
      go_enter Tryz.func53, Tryz.ntmps53
      go_wp2
      refine wp_loop_rounds 1 ?_
      rw [rounds_succ]
      go_wp2
      go_ret
      exact ⟨rfl, _, rfl⟩
    · have HL : Hid (bs.length = len) := hl
      clear hl
      go_enter Tryz.func53, Tryz.ntmps53
      go_wp2
      go_loop [4] (fun i => ∃ k : Nat, k ≤ len ∧ i = .int .i64 k ∧ ∀ j : Nat, j < k → plainB (bs[j]?.getD 0) = true)
        (fun i => len - (intOf i).toNat)
      case atStart => exact ⟨0, Nat.zero_le _, rfl, by intro j hj; omega⟩
      case round =>
        obtain ⟨k, hk, rfl, hH⟩ := hrel
        have HH : Hid (∀ j : Nat, j < k → plainB (bs[j]?.getD 0) = true) := hH
        have hcx : k < len → w.cell? ⟨b, off + k, none⟩ = some (.int .u8 (bs[k]?.getD 0)) := fun h => hc k h
        clear hc hH
        go_wp2
        · have hx : bs[k]?.getD 0 < 32 ∨ 126 < bs[k]?.getD 0 := by assumption
          go_ret
          refine ⟨?_, _, rfl⟩
          have e := all_not bs plainB k (by have := HL.out; omega) (by simp [plainB]; omega)
          simp [textOk, e]
        · have hx : 32 ≤ bs[k]?.getD 0 ∧ bs[k]?.getD 0 ≤ 126 := by assumption
          go_round
          case rel => exact ⟨k + 1, by omega, by go_num, fun j hj => by
            by_cases e : j = k
            · subst e; simp [plainB]; omega
            · exact HH.out j (by omega)⟩
          case measure => simp [intOf]; omega
        · have hx : bs[k]?.getD 0 < 32 := by assumption
          go_ret
          refine ⟨?_, _, rfl⟩
          have e := all_not bs plainB k (by have := HL.out; omega) (by simp [plainB]; omega)
          simp [textOk, e]
        · go_ret
          refine ⟨?_, _, rfl⟩
          have hl := HL.out
          have e := all_of bs plainB (fun j hj => HH.out j (by omega))
          simp [textOk, e]; omega
  · have e : (textOk bs && n == 0 && s == 0) = false := by
      rw [Bool.eq_false_iff]
      intro h
      simp [textOk] at h
      omega
    rw [e]
    clear e h4
    by_cases g30 : len ≤ 30
    · by_cases gn : n = 0
      · have gs : (s != 0) = true := by simp; omega
        subst gn
        clear h30
        go_enter Tryz.func53, Tryz.ntmps53
        go_wp2
        go_ret
        exact ⟨rfl, _, rfl⟩
      · have gn' : (n != 0) = true := by simp; omega
        clear h30 gn
        go_enter Tryz.func53, Tryz.ntmps53
        go_wp2
        go_ret
        exact ⟨rfl, _, rfl⟩
    · clear h30
      go_enter Tryz.func53, Tryz.ntmps53
      go_wp2
      go_ret
      exact ⟨rfl, _, rfl⟩
end Go.Proofs.YtdcaicoomldmgaaGreatDoor

/- TokC -/
namespace Go.Proofs.YtdcaicoomldmgaaGreatDoor
open Go.RowKit Go.Deep

set_option maxRecDepth 10000 in
set_option maxHeartbeats 1000000 in
theorem specTermOk_name (n s : Int) (a : Option Addr) (len cap : Nat) (bs : List Int) (w : World) (hB : Bs w a len bs) :
    Calls Tryz.prog 53 #[.agg #[.int .i64 0, .slice a len cap, .int .i64 n, .int .i64 s]] w fun e w' => e = .returned (.bool (termOk 0 bs n s)) ∧ ∃ o1, w' = w.alloc o1 := by
  obtain ⟨hl, h2, h3, h4⟩ := hB
  have et : termOk 0 bs n s = (nameOk bs && n == 0 && s == 0) := by simp [termOk]
  rw [et]
  clear h3 et
  by_cases h12 : 1 ≤ len ∧ len ≤ 12 ∧ n = 0 ∧ s = 0
  · obtain ⟨h1, h12, rfl, rfl⟩ := h12
    have eb : (nameOk bs && (0 : Int) == 0 && (0 : Int) == 0) = nameOk bs := by simp
    rw [eb]
    clear eb
    obtain ⟨b, off, rfl, hlt, hc⟩ : ∃ b off, a = some ⟨b, off, none⟩ ∧ b < w.heap.size ∧ ∀ i, i < len → w.cell? ⟨b, off + i, none⟩ = some (.int .u8 (bs[i]?.getD 0)) := by
      rcases h4 with h4 | h4
      · omega
      · exact h4
    clear h4
    have HL : Hid (bs.length = len) := hl
    clear hl
    go_enter Tryz.func53, Tryz.ntmps53
    go_wp2
    go_loop [3] (fun i => ∃ k : Nat, k ≤ len ∧ i = .int .i64 k ∧ ∀ j : Nat, j < k → (letter (bs[j]?.getD 0) || digit (bs[j]?.getD 0)) = true ∧ (j = 0 → 57 < bs[j]?.getD 0))
      (fun i => len - (intOf i).toNat)
    case atStart => exact ⟨0, Nat.zero_le _, rfl, by intro j hj; omega⟩
    case round =>
      obtain ⟨k, hk, rfl, hH⟩ := hrel
      have HH : Hid (∀ j : Nat, j < k → (letter (bs[j]?.getD 0) || digit (bs[j]?.getD 0)) = true ∧ (j = 0 → 57 < bs[j]?.getD 0)) := hH
      have HC := hc
      clear hc hH
      by_cases hlt2 : k < len
      · have hcx := HC k hlt2
        clear HC
        generalize hg : bs[k]?.getD 0 = x at hcx
        have HG : Hid (bs[k]?.getD 0 = x) := hg
        clear hg
        have hkl : k < bs.length := by have := HL.out; omega
        by_cases hs : (letter x || digit x) = true
        · by_cases hk0 : k = 0
          · subst hk0
            simp only [Nat.add_zero] at hcx
            by_cases h57 : x ≤ 57
            · have hd : decide (x ≤ 57) = true := by simpa using h57
              go_wp2_with (go_at_call 92; refine (small_any _ _).mono ?_; rintro e w2 ⟨rfl, rfl⟩)
              go_ret
              refine ⟨?_, _, rfl⟩
              have el : letter (bs[0]?.getD 0) = false := by rw [HG.out]; simp [letter]; omega
              simp [nameOk, el]
            · have hd : decide (x ≤ 57) = false := by simpa using h57
              go_wp2_with (go_at_call 92; refine (small_any _ _).mono ?_; rintro e w2 ⟨rfl, rfl⟩)
              go_round
              case rel => exact ⟨1, by omega, by go_num, fun j hj => by
                obtain rfl : j = 0 := by omega
                rw [HG.out]; exact ⟨hs, fun _ => by omega⟩⟩
              case measure => simp [intOf]; omega
          · have hk0' : ((k : Int) == 0) = false := by simp; omega
            go_wp2_with (go_at_call 92; refine (small_any _ _).mono ?_; rintro e w2 ⟨rfl, rfl⟩)
            go_round
            case rel => exact ⟨k + 1, by omega, by go_num, fun j hj => by
              by_cases e : j = k
              · subst e; rw [HG.out]; exact ⟨hs, fun h => absurd h hk0⟩
              · exact HH.out j (by omega)⟩
            case measure => simp [intOf]; omega
        · have hs' : (letter x || digit x) = false := by simpa using hs
          clear hs
          go_wp2_with (go_at_call 92; refine (small_any _ _).mono ?_; rintro e w2 ⟨rfl, rfl⟩)
          go_ret
          refine ⟨?_, _, rfl⟩
          have e := all_not bs (fun b => letter b || digit b) k hkl (by show (letter _ || digit _) = false; rw [HG.out]; exact hs')
          simp [nameOk, e]
      · clear HC
        go_wp2
        go_ret
        refine ⟨?_, _, rfl⟩
        have hl := HL.out
        have e := all_of bs (fun b => letter b || digit b) (fun j hj => (HH.out j (by omega)).1)
        have hf : letter (bs[0]?.getD 0) = true := by
          have h := HH.out 0 (by omega)
          have h' := h.2 rfl
          have h'' := h.1
          simp [letter, digit] at h'' ⊢
          omega
        simp only [nameOk, e, hf, hl]
        simp; omega
  · have e : (nameOk bs && n == 0 && s == 0) = false := by
      rw [Bool.eq_false_iff]
      intro h
      simp [nameOk] at h
      omega
    rw [e]
    clear e h4
    by_cases g1 : 1 ≤ len
    · by_cases g12 : len ≤ 12
      · by_cases gn : n = 0
        · have gs : (s != 0) = true := by simp; omega
          subst gn
          clear h12
          go_enter Tryz.func53, Tryz.ntmps53
          go_wp2
          go_ret
          exact ⟨rfl, _, rfl⟩
        · have gn' : (n != 0) = true := by simp; omega
          clear h12 gn
          go_enter Tryz.func53, Tryz.ntmps53
          go_wp2
          go_ret
          exact ⟨rfl, _, rfl⟩
      · clear h12
        go_enter Tryz.func53, Tryz.ntmps53
        go_wp2
        go_ret
        exact ⟨rfl, _, rfl⟩
    · clear h12
      go_enter Tryz.func53, Tryz.ntmps53
      go_wp2
      go_ret
      exact ⟨rfl, _, rfl⟩
end Go.Proofs.YtdcaicoomldmgaaGreatDoor
