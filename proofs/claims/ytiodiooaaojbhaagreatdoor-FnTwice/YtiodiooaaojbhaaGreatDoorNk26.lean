/- PROVED: for every row of bytes: a drawn text behind itself is the same graph, or is refused where it is refused alone (FnTwiceCardSaid; no condition; the tables and the errors of the library lie as the text of the program lays them, which the card ties). Texts put together: ReL ReM ReN ReO ReF ReX ReY -/
import Derived.Test.YtiodiooaaojbhaaGreatDoorNk25
import Derived.Test.YtiodiooaaojbhaaGreatDoorNk01
import Derived.Test.YtiodiooaaojbhaaGreatDoorNk15
import Derived.Deep.AppendSrc
import Derived.Deep.Upon
import Derived.Laws.IdiomCopy
import Derived.Lib.QuietBelow
import Derived.Test.YtiodiooaaojbhaaGreatDoorNk17
import Derived.Test.YtiodiooaaojbhaaGreatDoorNk02
import Derived.Test.YtiodiooaaojbhaaGreatDoorCards
import Derived.Test.YtiodiooaaojbhaaGreatDoorTie
import Derived.LaidMore
import Derived.Stop.Joined
import Derived.Lib.LaidTab
import Derived.Stop.LaidErr
import Derived.SevenTiedAt
import Derived.LaidLaws
/- ReL -/
namespace Go.Proofs.YtiodiooaaojbhaaGreatDoor
open Go.RowKit Go.Deep
set_option maxRecDepth 100000

theorem digitHd_nl (r x : List Int) : digitHd (r ++ 10 :: x) = digitHd r := by
  cases r with
  | nil => simp [digitHd, digit]
  | cons d r => rfl
theorem pieceLen_nl : ∀ r x : List Int, pieceLen (r ++ 10 :: x) = pieceLen r
  | [], x => by simp [pieceLen, ofPiece, letter, great, digit]
  | b :: r, x => by rw [List.cons_append, pieceLen, pieceLen, digitHd_nl, pieceLen_nl r x]
theorem greatLen_nl : ∀ r x : List Int, greatLen (r ++ 10 :: x) = greatLen r
  | [], x => by simp [greatLen, great]
  | b :: r, x => by rw [List.cons_append, greatLen, greatLen, greatLen_nl r x]
theorem quoteF_more : ∀ (r x : List Int) (f : Bool) (p : List Int × Nat), quoteF f r = some p → quoteF f (r ++ x) = some p
  | [], x, f, p, h => by cases f <;> cases h
  | b :: r, x, false, p, h => by
    rw [List.cons_append]
    rw [quoteF] at h ⊢
    split at h
    · rename_i hb
      rw [if_pos hb]
      exact h
    · rename_i hb
      rw [if_neg hb]
      split at h
      · rename_i h2
        rw [if_pos h2]
        obtain ⟨q, hq, e⟩ := Option.map_eq_some_iff.1 h
        rw [quoteF_more r x true q hq]
        exact congrArg some e
      · rename_i h2
        rw [if_neg h2]
        obtain ⟨q, hq, e⟩ := Option.map_eq_some_iff.1 h
        rw [quoteF_more r x false q hq]
        exact congrArg some e
  | b :: r, x, true, p, h => by
    rw [List.cons_append]
    rw [quoteF] at h ⊢
    split at h
    · rename_i hb
      rw [if_pos hb]
      obtain ⟨q, hq, e⟩ := Option.map_eq_some_iff.1 h
      rw [quoteF_more r x false q hq]
      exact congrArg some e
    · cases h
theorem quoteF_nl : ∀ (r x : List Int) (f : Bool) (p : List Int × Nat), quoteF f r = none → quoteF f (r ++ 10 :: x) = some p → (10 : Int) ∈ p.1
  | [], x, false, p, _, h => by
    rw [List.nil_append, quoteF, if_neg (by decide), if_neg (by decide)] at h
    obtain ⟨q, _, e⟩ := Option.map_eq_some_iff.1 h
    rw [← e]
    exact List.mem_cons_self ..
  | [], x, true, p, _, h => by
    rw [List.nil_append, quoteF, if_neg (by decide)] at h
    cases h
  | b :: r, x, false, p, h0, h => by
    rw [List.cons_append] at h
    rw [quoteF] at h0 h
    split at h0
    · cases h0
    · rename_i hb
      rw [if_neg hb] at h
      split at h0
      · rename_i h2
        rw [if_pos h2] at h
        obtain ⟨q, hq, e⟩ := Option.map_eq_some_iff.1 h
        rw [← e]
        exact quoteF_nl r x true q (Option.map_eq_none_iff.1 h0) hq
      · rename_i h2
        rw [if_neg h2] at h
        obtain ⟨q, hq, e⟩ := Option.map_eq_some_iff.1 h
        rw [← e]
        exact List.mem_cons_of_mem _ (quoteF_nl r x false q (Option.map_eq_none_iff.1 h0) hq)
  | b :: r, x, true, p, h0, h => by
    rw [List.cons_append] at h
    rw [quoteF] at h0 h
    split at h0
    · rename_i hb
      rw [if_pos hb] at h
      obtain ⟨q, hq, e⟩ := Option.map_eq_some_iff.1 h
      rw [← e]
      exact List.mem_cons_of_mem _ (quoteF_nl r x false q (Option.map_eq_none_iff.1 h0) hq)
    · rename_i hb
      rw [if_neg hb] at h
      cases h
theorem head_nl (r x : List Int) (k : Nat) (c : Int) (hc : c ≠ 10) (hk : k ≤ r.length) : (((r ++ 10 :: x).drop k)[0]? == some c) = ((r.drop k)[0]? == some c) := by
  rw [List.getElem?_drop, List.getElem?_drop, Nat.add_zero]
  by_cases h : k < r.length
  · rw [List.getElem?_append_left h]
  · rw [List.getElem?_append_right (by omega), List.getElem?_eq_none (show r.length ≤ k by omega), show k - r.length = 0 by omega]
    simp
    omega
/-- A token never reaches over a new line. -/
theorem tokOf_nl (b : Int) (r x : List Int) : tokOf (b :: (r ++ 10 :: x)) = tokOf (b :: r) := by
  have hp := pieceLen_le r
  have e1 : (r ++ 10 :: x).take (pieceLen r) = r.take (pieceLen r) := List.take_append_of_le_length hp
  have e2 := head_nl r x (pieceLen r) 62 (by decide) hp
  have e3 : ((r ++ 10 :: x)[0]? == some (58 : Int)) = (r[0]? == some 58) := by
    have := head_nl r x 0 58 (by decide) (by omega)
    simpa using this
  have hg : (b :: (r ++ 10 :: x)).take (greatLen (b :: r)) = (b :: r).take (greatLen (b :: r)) := by
    rw [← List.cons_append]
    exact List.take_append_of_le_length (greatLen_le _)
  have hgl : greatLen (b :: (r ++ 10 :: x)) = greatLen (b :: r) := greatLen_nl (b :: r) x
  have hq : ((quoteF false (r ++ 10 :: x)).bind fun p => if textOk p.1 = true then some (⟨0, 34 :: (r ++ 10 :: x).take p.2, ⟨2, p.1, 0, 0⟩⟩ : PT) else none) = (quoteF false r).bind fun p => if textOk p.1 = true then some ⟨0, 34 :: r.take p.2, ⟨2, p.1, 0, 0⟩⟩ else none := by
    cases h : quoteF false r with
    | some p =>
      rw [quoteF_more r _ false p h]
      simp only [Option.bind_some]
      rw [List.take_append_of_le_length (quoteF_le r p.1 p.2 h)]
    | none =>
      cases h2 : quoteF false (r ++ 10 :: x) with
      | none => rfl
      | some p =>
        have := quoteF_nl r x false p h h2
        simp only [Option.bind_some, Option.bind_none]
        rw [if_neg]
        intro ht
        simp only [textOk, Bool.and_eq_true, List.all_eq_true] at ht
        have := ht.2 10 this
        simp [plainB] at this
  have hbl : r[0]? = some 58 → ((r ++ 10 :: x).drop 1).take (pieceLen ((r ++ 10 :: x).drop 1)) = (r.drop 1).take (pieceLen (r.drop 1)) := fun h => by
    cases r with
    | nil => cases h
    | cons c r =>
      simp only [List.cons_append, List.drop_succ_cons, List.drop_zero]
      rw [pieceLen_nl, List.take_append_of_le_length (pieceLen_le r)]
  rw [tokOf, tokOf, digitHd_nl, pieceLen_nl, e1, e2, e3, hq, hgl, hg]
  by_cases h5 : r[0]? = some 58
  · rw [hbl h5]
  · have h6 : (b == 95 && r[0]? == some 58) = false := by simp [h5]
    rw [h6]
    rfl
end Go.Proofs.YtiodiooaaojbhaaGreatDoor

/- ReM -/
namespace Go.Proofs.YtiodiooaaojbhaaGreatDoor
open Go.RowKit Go.Deep
set_option maxRecDepth 100000

def thenL (x : Except Nat Toks) (y : Except Nat Toks) : Except Nat Toks :=
  match x with
  | .error q => .error q
  | .ok ts => y.map (ts ++ ·)
theorem lexR_nl : ∀ (n : Nat) (l x : List Int) (p : Nat), l.length ≤ n → lexR (l ++ 10 :: x) p = thenL (lexR l p) (lexR x (p + l.length + 1)) := by
  intro n
  induction n with
  | zero =>
    intro l x p h
    have : l = [] := List.eq_nil_of_length_eq_zero (by omega)
    subst this
    rw [List.nil_append, lexR_gap p (by decide), lexR_nil]
    show lexR x (p + 1) = (lexR x (p + 0 + 1)).map ([] ++ ·)
    cases lexR x (p + 1) <;> rfl
  | succ n ih =>
    intro l x p h
    cases l with
    | nil =>
      rw [List.nil_append, lexR_gap p (by decide), lexR_nil]
      show lexR x (p + 1) = (lexR x (p + 0 + 1)).map ([] ++ ·)
      cases lexR x (p + 1) <;> rfl
    | cons b r =>
      simp only [List.length_cons] at h
      rw [List.cons_append]
      cases hg : gapB b with
      | true =>
        rw [lexR_gap p hg, lexR_gap p hg, ih r x (p + 1) (by omega), List.length_cons, show p + 1 + r.length + 1 = p + (r.length + 1) + 1 by omega]
      | false =>
        cases ht : tokOf (b :: r) with
        | none =>
          rw [lexR_bad p hg ht, lexR_bad p hg ((tokOf_nl b r x).trans ht)]
          rfl
        | some t =>
          have hr := tokOf_raw ht
          rw [lexR_tok p hg ht, lexR_tok p hg ((tokOf_nl b r x).trans ht)]
          have hd : (b :: (r ++ 10 :: x)).drop t.raw.length = (b :: r).drop t.raw.length ++ 10 :: x := by
            rw [← List.cons_append, List.drop_append_of_le_length hr.2.1]
          rw [hd, ih _ x _ (by rw [List.length_drop, List.length_cons]; omega)]
          have e : p + t.raw.length + ((b :: r).drop t.raw.length).length + 1 = p + (b :: r).length + 1 := by
            rw [List.length_drop]
            omega
          rw [e]
          cases lexR ((b :: r).drop t.raw.length) (p + t.raw.length) with
          | error q => rfl
          | ok ts =>
            show (Except.map (ts ++ ·) (lexR x (p + (b :: r).length + 1))).map ((p, t) :: ·) = Except.map (((p, t) :: ts) ++ ·) (lexR x (p + (b :: r).length + 1))
            cases lexR x (p + (b :: r).length + 1) <;> rfl
/-- The tokens without their places: they do not hang on where the text begins. -/
theorem lexF_at : ∀ (f : Nat) (l : List Int) (p q : Nat), (lexF f l p).map (List.map Prod.snd) = (match lexF f l q with | .ok ts => .ok (ts.map Prod.snd) | .error e => .error (e + p - q) : Except Nat (List PT)) ∧ ∀ e, lexF f l q = .error e → q ≤ e
  | 0, l, p, q => ⟨rfl, fun e h => by cases h⟩
  | f + 1, [], p, q => ⟨rfl, fun e h => by cases h⟩
  | f + 1, b :: r, p, q => by
    rw [lexF, lexF]
    by_cases hg : gapB b = true
    · rw [if_pos hg, if_pos hg]
      obtain ⟨h1, h2⟩ := lexF_at f r (p + 1) (q + 1)
      refine ⟨?_, fun e h => by have := h2 e h; omega⟩
      rw [h1]
      cases hx : lexF f r (q + 1) with
      | ok ts => rfl
      | error e =>
        have := h2 e hx
        simp only [Except.error.injEq]
        omega
    · rw [if_neg hg, if_neg hg]
      cases ht : tokOf (b :: r) with
      | none =>
        refine ⟨?_, fun e h => by cases h; omega⟩
        simp only [Except.map, Except.error.injEq]
        omega
      | some t =>
        simp only
        obtain ⟨h1, h2⟩ := lexF_at f ((b :: r).drop t.raw.length) (p + t.raw.length) (q + t.raw.length)
        cases hx : lexF f ((b :: r).drop t.raw.length) (q + t.raw.length) with
        | ok us =>
          rw [hx] at h1
          cases hy : lexF f ((b :: r).drop t.raw.length) (p + t.raw.length) with
          | ok vs =>
            rw [hy] at h1
            simp only [Except.map, Except.ok.injEq] at h1
            refine ⟨?_, fun e h => by cases h⟩
            simp [Except.map, h1]
          | error e => rw [hy] at h1; cases h1
        | error e =>
          rw [hx] at h1
          have hq := h2 e hx
          cases hy : lexF f ((b :: r).drop t.raw.length) (p + t.raw.length) with
          | ok vs => rw [hy] at h1; cases h1
          | error e' =>
            rw [hy] at h1
            simp only [Except.map, Except.error.injEq] at h1
            refine ⟨?_, fun e2 h => by cases h; omega⟩
            simp only [Except.map, Except.error.injEq]
            omega
/-- Whether each token stands where it may: k says which is asked next. -/
def roleOk (k : Nat) (t : PT) : Bool := if k = 0 then okSubj t else if k = 1 then okProp t else if k = 2 then okTerm t else okStop t
def roles : Nat → List PT → Bool
  | k, [] => k == 0
  | k, t :: r => roleOk k t && roles ((k + 1) % 4) r
def rolesAll : Nat → List PT → Bool
  | _, [] => true
  | k, t :: r => roleOk k t && rolesAll ((k + 1) % 4) r
theorem roles_app : ∀ (l m : List PT) (k : Nat), k < 4 → roles k (l ++ m) = (rolesAll k l && roles ((k + l.length) % 4) m)
  | [], m, k, h => by simp [rolesAll, Nat.mod_eq_of_lt h]
  | t :: l, m, k, h => by
    rw [List.cons_append, roles, rolesAll, roles_app l m ((k + 1) % 4) (by omega), Bool.and_assoc, List.length_cons]
    congr 3
    omega
theorem roles_all (l : List PT) (k : Nat) (h : k < 4) : roles k l = (rolesAll k l && ((k + l.length) % 4 == 0)) := by
  have := roles_app l [] k h
  rwa [List.append_nil] at this
/-- What is no graph is none when it stands twice. -/
theorem roles_twice {l : List PT} (h : roles 0 (l ++ l) = true) : roles 0 l = true := by
  rw [roles_app l l 0 (by omega), Bool.and_eq_true, Nat.zero_add] at h
  obtain ⟨h1, h2⟩ := h
  rw [roles_all l _ (by omega), Bool.and_eq_true, beq_iff_eq] at h2
  rw [roles_all l 0 (by omega), Bool.and_eq_true, beq_iff_eq, Nat.zero_add]
  refine ⟨h1, ?_⟩
  obtain ⟨h2, h3⟩ := h2
  have hs : l.length % 4 = 0 ∨ l.length % 4 = 2 := by omega
  rcases hs with hs | hs
  · exact hs
  · exfalso
    rw [hs] at h2
    match l, hs, h1, h2 with
    | [], hs, _, _ => simp at hs
    | [t], hs, _, _ => simp at hs
    | t :: u :: r, _, h1, h2 =>
      simp only [rolesAll, Bool.and_eq_true] at h1 h2
      have a := h1.2.1
      have b := h2.2.1
      simp only [roleOk] at a b
      simp [okProp] at a
      simp [okStop] at b
      omega
end Go.Proofs.YtiodiooaaojbhaaGreatDoor

/- ReN -/
namespace Go.Proofs.YtiodiooaaojbhaaGreatDoor
open Go.RowKit Go.Deep
set_option maxRecDepth 100000

def tsOf : List PT → List T3
  | s :: p :: o :: _ :: r => (s.td, p.td, o.td) :: tsOf r
  | _ => []
def Said (l : List PT) (x : Except Nat (List T3)) : Prop :=
  match x with
  | .ok ts => roles 0 l = true ∧ ts = tsOf l
  | .error _ => roles 0 l = false
theorem readF_said : ∀ (f : Nat) (l : Toks) (e : Nat), l.length ≤ f → Said (l.map Prod.snd) (readF f l e)
  | 0, l, e, h => by
    have : l = [] := List.eq_nil_of_length_eq_zero (by omega)
    subst this
    exact ⟨rfl, rfl⟩
  | f + 1, [], e, _ => ⟨rfl, rfl⟩
  | f + 1, [a], e, _ => by
    have : ∃ q, triP [a] e = .error q := by
      by_cases h1 : okSubj a.2 = true <;> simp [triP, takeP, h1]
    obtain ⟨q, hq⟩ := this
    rw [readF, hq]
    simp [Said, roles]
  | f + 1, [a, b], e, _ => by
    have : ∃ q, triP [a, b] e = .error q := by
      by_cases h1 : okSubj a.2 = true <;> by_cases h2 : okProp b.2 = true <;> simp [triP, takeP, h1, h2]
    obtain ⟨q, hq⟩ := this
    rw [readF, hq]
    simp [Said, roles]
  | f + 1, [a, b, c], e, _ => by
    have : ∃ q, triP [a, b, c] e = .error q := by
      by_cases h1 : okSubj a.2 = true <;> by_cases h2 : okProp b.2 = true <;> by_cases h3 : okTerm c.2 = true <;> simp [triP, takeP, h1, h2, h3]
    obtain ⟨q, hq⟩ := this
    rw [readF, hq]
    simp [Said, roles]
  | f + 1, a :: b :: c :: d :: r, e, h => by
    by_cases hk : okSubj a.2 = true ∧ okProp b.2 = true ∧ okTerm c.2 = true ∧ okStop d.2 = true
    · obtain ⟨h1, h2, h3, h4⟩ := hk
      have ht : triP (a :: b :: c :: d :: r) e = .ok ((a.2.td, b.2.td, c.2.td), r) := by simp [triP, takeP, h1, h2, h3, h4]
      have ih := readF_said f r e (by simp only [List.length_cons] at h; omega)
      rw [readF, ht]
      have hr : roles 0 ((a :: b :: c :: d :: r).map Prod.snd) = roles 0 (r.map Prod.snd) := by
        simp [roles, roleOk, h1, h2, h3, h4]
      simp only
      cases hx : readF f r e with
      | error q =>
        rw [hx] at ih
        show roles 0 _ = false
        rw [hr]
        exact ih
      | ok us =>
        rw [hx] at ih
        refine ⟨hr.trans ih.1, ?_⟩
        rw [ih.2]
        rfl
    · have : ∃ q, triP (a :: b :: c :: d :: r) e = .error q := by
        by_cases h1 : okSubj a.2 = true <;> by_cases h2 : okProp b.2 = true <;> by_cases h3 : okTerm c.2 = true <;> by_cases h4 : okStop d.2 = true <;> simp [triP, takeP, h1, h2, h3, h4] <;> exact absurd ⟨h1, h2, h3, h4⟩ hk
      obtain ⟨q, hq⟩ := this
      rw [readF, hq]
      show roles 0 _ = false
      cases hr : roles 0 ((a :: b :: c :: d :: r).map Prod.snd) with
      | false => rfl
      | true =>
        exfalso
        simp [roles, roleOk] at hr
        exact hk ⟨hr.1, hr.2.1, hr.2.2.1, hr.2.2.2.1⟩
theorem readR_said (l : Toks) (e : Nat) : Said (l.map Prod.snd) (readR l e) := readF_said _ _ _ (Nat.le_refl _)
theorem readR_ok {l : Toks} {e : Nat} {ts : List T3} : readR l e = .ok ts ↔ roles 0 (l.map Prod.snd) = true ∧ ts = tsOf (l.map Prod.snd) := by
  have h := readR_said l e
  cases hx : readR l e with
  | ok us =>
    rw [hx] at h
    simp only [Except.ok.injEq]
    constructor
    · rintro rfl
      exact h
    · intro h2
      rw [h2.2, h.2]
  | error q =>
    rw [hx] at h
    have h : roles 0 (l.map Prod.snd) = false := h
    constructor
    · intro h2
      cases h2
    · intro h2
      rw [h2.1] at h
      cases h
end Go.Proofs.YtiodiooaaojbhaaGreatDoor

/- ReO -/
namespace Go.Proofs.YtiodiooaaojbhaaGreatDoor
open Go.RowKit Go.Deep
set_option maxRecDepth 100000

theorem tsOf_app : ∀ (n : Nat) (l m : List PT), l.length ≤ n → l.length % 4 = 0 → tsOf (l ++ m) = tsOf l ++ tsOf m := by
  intro n
  induction n with
  | zero =>
    intro l m h _
    have : l = [] := List.eq_nil_of_length_eq_zero (by omega)
    subst this
    rfl
  | succ n ih =>
    intro l m h h4
    match l, h, h4 with
    | [], _, _ => rfl
    | [a], _, h4 => simp at h4
    | [a, b], _, h4 => simp at h4
    | [a, b, c], _, h4 => simp at h4
    | a :: b :: c :: d :: r, h, h4 =>
      simp only [List.length_cons] at h h4
      simp only [List.cons_append, tsOf]
      rw [ih r m (by omega) (by omega)]
theorem roles_len {l : List PT} (h : roles 0 l = true) : l.length % 4 = 0 := by
  rw [roles_all l 0 (by omega), Bool.and_eq_true, beq_iff_eq, Nat.zero_add] at h
  exact h.2
theorem roles_two {l : List PT} (h : roles 0 l = true) : roles 0 (l ++ l) = true := by
  have h4 := roles_len h
  rw [roles_app l l 0 (by omega), Nat.zero_add, h4, h, Bool.and_true]
  rw [roles_all l 0 (by omega), Bool.and_eq_true] at h
  exact h.1
/-- The tokens of a text behind itself. -/
theorem lex_two {l : List Int} : (∀ q, lexR l 0 = .error q → lexR (l ++ 10 :: l) 0 = .error q) ∧ ∀ ts, lexR l 0 = .ok ts → ∃ us, lexR (l ++ 10 :: l) 0 = .ok (ts ++ us) ∧ us.map Prod.snd = ts.map Prod.snd := by
  have h := lexR_nl l.length l l 0 (Nat.le_refl _)
  refine ⟨fun q hq => by rw [h, hq]; rfl, fun ts hts => ?_⟩
  have ha := (lexF_at l.length l (0 + l.length + 1) 0).1
  have e : lexF l.length l 0 = .ok ts := hts
  rw [e] at ha
  cases hx : lexR l (0 + l.length + 1) with
  | error q =>
    have : lexF l.length l (0 + l.length + 1) = .error q := hx
    rw [this] at ha
    cases ha
  | ok us =>
    have h2 : lexF l.length l (0 + l.length + 1) = .ok us := hx
    rw [h2] at ha
    simp only [Except.map, Except.ok.injEq] at ha
    refine ⟨us, ?_, ha⟩
    rw [h, hts, hx]
    rfl
theorem reads_two {l : List Int} {len len' : Nat} {ts : List T3} (h : Reads l len ts) : Reads (l ++ 10 :: l) len' (ts ++ ts) := by
  obtain ⟨toks, h1, h2⟩ := h
  obtain ⟨us, h3, h4⟩ := lex_two.2 toks h1
  refine ⟨_, h3, readR_ok.2 ?_⟩
  obtain ⟨r1, r2⟩ := readR_ok.1 h2
  rw [List.map_append, h4]
  refine ⟨roles_two r1, ?_⟩
  rw [tsOf_app _ _ _ (Nat.le_refl _) (roles_len r1), ← r2]
theorem reads_half {l : List Int} {len len' : Nat} {us : List T3} (h : Reads (l ++ 10 :: l) len' us) : ∃ ts, Reads l len ts ∧ us = ts ++ ts := by
  obtain ⟨toks, h1, h2⟩ := h
  cases hx : lexR l 0 with
  | error q =>
    rw [lex_two.1 q hx] at h1
    cases h1
  | ok ts =>
    obtain ⟨vs, h3, h4⟩ := lex_two.2 ts hx
    rw [h3] at h1
    cases h1
    obtain ⟨r1, r2⟩ := readR_ok.1 h2
    rw [List.map_append, h4] at r1 r2
    have r3 := roles_twice r1
    refine ⟨tsOf (ts.map Prod.snd), ⟨ts, hx, readR_ok.2 ⟨r3, rfl⟩⟩, ?_⟩
    rw [r2, tsOf_app _ _ _ (Nat.le_refl _) (roles_len r3)]
theorem OnceT.two {ts l : List T3} : OnceT (ts ++ ts) l ↔ OnceT ts l := by
  constructor
  · rintro ⟨h1, h2⟩
    exact ⟨h1, fun t => (h2 t).trans (by simp)⟩
  · rintro ⟨h1, h2⟩
    exact ⟨h1, fun t => (h2 t).trans (by simp)⟩
/-- A text that is refused is refused behind itself. -/
theorem Refuses.two {l : List Int} {len len' : Nat} {c p : Int} {w w' : World} {a : Option Addr} {cap : Nat} {r : List G1} (h : Refuses l len c p) (hl : l.length = len) (hl' : (l ++ 10 :: l).length = len') (hR : ReadWell (l ++ 10 :: l) len' w w' a cap r) : False := by
  have hle := hR.le
  obtain ⟨us, hr, ho⟩ := hR.ts
  obtain ⟨ts, h1, rfl⟩ := reads_half (len := len) hr
  have ho := OnceT.two.1 ho
  rw [List.length_append, List.length_cons] at hl'
  cases h with
  | long h => omega
  | byte q h hx =>
    obtain ⟨toks, g1, _⟩ := h1
    rw [hx] at g1
    cases g1
  | form toks q h hx hy =>
    obtain ⟨toks', g1, g2⟩ := h1
    rw [hx] at g1
    cases g1
    rw [hy] at g2
    cases g2
  | many ts' m h hr' ho' hm =>
    obtain ⟨toks, g1, g2⟩ := h1
    obtain ⟨toks', g1', g2'⟩ := hr'
    rw [g1] at g1'
    cases g1'
    rw [g2] at g2'
    cases g2'
    have hf : ∀ x ∈ r.map G1.td3, fine3 x := fun x hx => by
      obtain ⟨y, hy, rfl⟩ := List.mem_map.1 hx
      exact (hR.good y hy).2
    have e := asc_unique ordP_cmpD m (r.map G1.td3) (fun x hx => hf x ((ho.mem x).2 ((ho'.mem x).1 hx))) hf ho'.asc ho.asc fun x => (ho'.mem x).trans (ho.mem x).symm
    rw [e, List.length_map] at hm
    have := hR.few
    omega
end Go.Proofs.YtiodiooaaojbhaaGreatDoor

/- ReF -/
namespace Go.Proofs.YtiodiooaaojbhaaGreatDoor
open Go.RowKit Go.Deep
set_option maxRecDepth 100000

set_option maxHeartbeats 1000000 in
theorem textS_any (s : ByteArray) (w : World) (hs : s.size ≤ 1048576) : Calls Tryz.prog 5 #[.string s] w fun e w' => ∃ cap, e = .returned (.slice (some ⟨w.heap.size, 0, none⟩) s.size cap) ∧ Tx w' w.heap.size (some ⟨w.heap.size, 0, none⟩) s.size cap (numsOf s) ∧ Below w.heap.size w w' := by
  have hcv := fun (w : World) (s : ByteArray) => Lib.run_convert_string_bytes (P := Tryz.prog) w 9 22 5 s Tryz.underlying9 Tryz.underlying22 Tryz.underlying5
  go_enter Tryz.func5, Tryz.ntmps5
  go_wp2
  go_ret
  exact ⟨_, rfl, Tx.conv w s _ hs, bytesWorld_below _ _ _⟩
theorem sameBytes_likeS (a a' : Option Addr) (len cap len' cap' : Nat) (bs : List Int) (w : World) (h : Bs w a len bs) (h' : Bs w a' len' bs) :
    Calls Tryz.prog 9 #[.slice a len cap, .slice a' len' cap'] w fun e w' => e = .returned (.bool true) ∧ w' = w := by
  have e1 := h.str (cap := cap)
  have e2 := h'.str (cap := cap')
  clear h h'
  go_enter Tryz.func9, Tryz.ntmps9
  go_wp2
  go_ret
  exact ⟨by simp, rfl⟩
end Go.Proofs.YtiodiooaaojbhaaGreatDoor

/- ReX -/
namespace Go.Proofs.YtiodiooaaojbhaaGreatDoor
open Go.RowKit Go.Deep
set_option maxRecDepth 100000

def tdOne : TD := ⟨3, [], 1, 0⟩
theorem one_read (len : Nat) : Reads [60, 97, 62, 32, 60, 112, 62, 32, 49, 32, 46] len [(tdA, tdP, tdOne)] := by
  have h := shows_read (t := tdOne) (by decide) len
  rwa [show (([60, 97, 62, 32, 60, 112, 62, 32] ++ (tdOne.sh ++ [32, 46]) : List Int)) = [60, 97, 62, 32, 60, 112, 62, 32, 49, 32, 46] from rfl] at h
theorem one_fine : fine3 (tdA, tdP, tdOne) := ⟨⟨show tdA.ok = true by decide, byt_of_ok (k := 0) (n := 0) (s := 0) (show termOk 0 [97] 0 0 = true by decide)⟩, ⟨show tdP.ok = true by decide, byt_of_ok (k := 0) (n := 0) (s := 0) (show termOk 0 [112] 0 0 = true by decide)⟩, show tdOne.ok = true by decide, Byt.nil⟩
theorem bs_ten (w : World) : Bs (w.alloc (.cells #[.int .u8 10] 5)) (some ⟨w.heap.size, 0, none⟩) 1 [10] :=
  ⟨rfl, by omega, fun i => by cases i <;> simp, .inr ⟨_, 0, rfl, by simp, fun i hi => by
    obtain rfl : i = 0 := by omega
    simp [go_sem]⟩⟩
/-- What is read of a text behind itself. -/
theorem GrRes.twice {bs : List Int} {len len' : Nat} {w w' v v' : World} {e : Ending} {a : Option Addr} {cap : Nat} {r : List G1} (h : ReadWell bs len w w' a cap r) (hl : len' ≤ 3000) (hg : GrRes (bs ++ 10 :: bs) len' v e v') :
    Below v.heap.size v v' ∧ ∃ a' cap' r', ReadWell (bs ++ 10 :: bs) len' v v' a' cap' r' ∧ r'.map G1.td3 = r.map G1.td3 ∧ e = .returned (.tuple #[.agg #[.slice a' r'.length cap'], .int .i64 0, .int .i64 0]) := by
  obtain ⟨ts, hr, ho⟩ := h.ts
  refine hg.read hl (reads_two hr) (fun t ht => ?_) (OnceT.two.2 ho) (by rw [List.length_map]; exact h.few)
  have : t ∈ ts := by simpa using ht
  exact (h.ok t ((ho.mem t).2 this)).fine
theorem GrRes.long {bs : List Int} {len : Nat} {w w' : World} {e : Ending} (h : GrRes bs len w e w') (hl : 3000 < len) : Below w.heap.size w w' ∧ e = .returned (.tuple #[.agg #[.slice none 0 0], .int .i64 1, .int .i64 0]) := by
  obtain ⟨hb, ⟨c, p, hr, rfl⟩ | ⟨a, cap, r, hW, _⟩⟩ := h
  · cases hr with
    | long h => exact ⟨hb, rfl⟩
    | byte p h _ => omega
    | form t a h _ _ => omega
    | many ts l h _ _ _ => omega
  · have := hW.le
    omega
set_option maxHeartbeats 8000000 in
theorem walkTwice (a : Option Addr) (len cap : Nat) (w : World) (hlen : len ≤ 9223372036854775807) (hC : Code w a len) (hT : Tab w) (hE : Errs w) :
    Calls Tryz.prog 3 #[.slice a len cap] w fun e w' => e = .returned (.bool true) ∧ Below w.heap.size w w' := by
  have HTE : Hid (∀ W, Below w.heap.size w W → Tab W ∧ Errs W) := fun W hb => ⟨hT.below hb, hE.below hb⟩
  have HC : Hid (Code w a len) := hC
  clear hC hT hE
  go_enter Tryz.func3, Tryz.ntmps3
  go_wp2_with fail
  refine (textS_any _ w (by decide)).mono ?_
  rintro e w1 ⟨c1, rfl, hT1, hb1⟩
  rw [show (⟨#[60, 97, 62, 32, 60, 112, 62, 32, 49, 32, 46]⟩ : ByteArray).size = 11 from rfl] at hT1 ⊢
  rw [show numsOf ⟨#[60, 97, 62, 32, 60, 112, 62, 32, 49, 32, 46]⟩ = [60, 97, 62, 32, 60, 112, 62, 32, 49, 32, 46] from rfl] at hT1
  have HB1 : Hid (Below w.heap.size w w1) := hb1
  have hbs1 := hT1.1
  clear hT1 hb1
  go_wp2_with fail
  refine (implGraphRead_any _ 11 _ _ w1 hbs1 (HTE.out _ HB1.out).1 (HTE.out _ HB1.out).2).mono ?_
  rintro e w2 hR
  obtain ⟨hb2, a2, cap2, r, hW, hr, rfl⟩ := hR.read (by omega) (one_read 11) (fun x hx => by rw [List.mem_singleton.1 hx]; exact one_fine) (shows_once _) (by simp)
  have hr1 : r.length = 1 := by
    have := congrArg List.length hr
    simpa using this
  rw [hr1]
  have HB3 : Hid (Below w.heap.size w (w2.alloc (.cells #[.slice a2 1 cap2] 25))) := bl_trans (bl_trans HB1.out hb2) (bl_a _)
  clear hR hbs1 hW hr hr1 hb2 HB1
  go_wp2_with fail
  generalize w2.alloc (.cells #[.slice a2 1 cap2] 25) = w3 at *
  refine (drawGraphRead_any a len cap w3 hlen (code_below HC.out HB3.out)).mono ?_
  rintro e w4 ⟨ra, rc, rb, rfl, hor, hbs, hb4⟩
  have hrl : rb.length ≤ 8004 := by
    rcases hor with ⟨l, h1, h2, h3⟩ | ⟨b, h1, rfl⟩
    · have := rowTx_len h2
      omega
    · rw [List.length_append, List.length_replicate]
      omega
  obtain ⟨m, hm⟩ : ∃ m, m = rb.length := ⟨_, rfl⟩
  rw [← hm] at hbs hrl ⊢
  have HM : Hid (rb.length = m) := hm.symm
  have HBS4 : Hid (Bs w4 ra m rb) := hbs
  have HB4 : Hid (Below w.heap.size w w4) := bl_trans HB3.out hb4
  clear hm hor hbs hb4 HB3
  go_wp2_with fail
  refine (implGraphRead_any ra m rc rb w4 HBS4.out (HTE.out _ HB4.out).1 (HTE.out _ HB4.out).2).mono ?_
  rintro e w5 hR
  have hb5 := hR.1
  have HGR : Hid (GrRes rb m w4 e w5) := hR
  clear hR
  obtain ⟨xa, xn, xc, k5, p5, he⟩ : ∃ xa xn xc k5 p5, e = .returned (.tuple #[.agg #[.slice xa xn xc], .int .i64 k5, .int .i64 p5]) := by
    rcases HGR.out.2 with ⟨c, p, _, h⟩ | ⟨a', c', r', _, h⟩
    · exact ⟨_, _, _, _, _, h⟩
    · exact ⟨_, _, _, _, _, h⟩
  have HEQ : Hid (e = .returned (.tuple #[.agg #[.slice xa xn xc], .int .i64 k5, .int .i64 p5])) := he
  rw [he]
  clear he
  obtain ⟨w6, hw6⟩ : ∃ w6, w6 = w5.alloc (.cells #[.slice xa xn xc] 25) := ⟨_, rfl⟩
  have HB6 : Hid (Below w.heap.size w w6) := by
    rw [hw6]
    exact bl_trans (bl_trans HB4.out hb5) (bl_a _)
  have HX6 : Hid (w6.cell? ⟨w5.heap.size, 0, none⟩ = some (.slice xa xn xc) ∧ w5.heap.size < w6.heap.size) := by
    rw [hw6]
    exact ⟨by simp [go_sem], by simp⟩
  have HBS6 : Hid (Bs w6 ra m rb) := by
    rw [hw6]
    exact (HBS4.out.below hb5).below (bl_a _)
  have HB56 : Hid (Below w5.heap.size w5 w6) := by
    rw [hw6]
    exact bl_a _
  clear hb5 HB4 HBS4
  go_upto_region 6 with fail
  rw [← hw6]
  clear hw6
  have HTX : Hid (Tz (w6.alloc (.cells #[] 5)) w6.heap.size (some ⟨w6.heap.size, 0, none⟩) 0 0 []) := Tz.new0 w6
  have HSX : Hid (Src Tryz.prog 1 22 (.slice ra m rc) m (rb.map (Value.int .u8)) (w6.alloc (.cells #[] 5))) := src_bs (HBS6.out.below (bl_a _))
  have HYR : Hid (Byt rb) := byt_of_bs HBS6.out
  have HYX : Hid (Byt ([] ++ rb)) := by
    show Byt _
    rw [List.nil_append]
    exact HYR.out
  have HY2 : Hid (Byt (rb ++ [10])) := HYR.out.app (Byt.cons (by omega) Byt.nil)
  have HY3 : Hid (Byt (rb ++ [10] ++ rb)) := HY2.out.app HYR.out
  have hBX : w6.heap.size ≤ (w6.alloc (.cells #[] 5)).heap.size := by simp
  go_upto_region 7 with (first
    | (refine list_app8z rfl (.tmp 36) (.tmp 37) 22 rfl w6.heap.size 0 0 (some ⟨w6.heap.size, 0, none⟩) [] rfl HTX (.slice ra m rc) m rb rfl (fun h => by cases h) HSX HYX m (Nat.zero_add _) rb (List.nil_append _) (by omega) hBX ?_; intro g7 c7 w7 HT7 HD7; have HB67 : Hid (Below w6.heap.size w6 w7) := (bl_a (w := w6) _).trans HD7.out; have HT7' : Hid (Tz (w7.alloc (.cells #[.int .u8 10] 5)) w6.heap.size (some ⟨g7, 0, none⟩) m c7 rb) := HT7.out.below (bl_a _); have HS7 : Hid (Src Tryz.prog 1 22 (.slice (some ⟨w7.heap.size, 0, none⟩) 1 1) 1 (([10] : List Int).map (Value.int .u8)) (w7.alloc (.cells #[.int .u8 10] 5))) := src_bs (bs_ten w7); have hB7 : w6.heap.size ≤ (w7.alloc (.cells #[.int .u8 10] 5)).heap.size := Nat.le_trans HB67.out.size (by simp))
    | (refine list_app8z rfl (.tmp 38) (.tmp 39) 22 rfl w6.heap.size m c7 (some ⟨g7, 0, none⟩) rb rfl HT7' (.slice (some ⟨w7.heap.size, 0, none⟩) 1 1) 1 [10] rfl (fun h => by cases h) HS7 HY2 (m + 1) rfl (rb ++ [10]) rfl (by omega) hB7 ?_; intro g8 c8 w8 HT8 HD8; have HB68 : Hid (Below w6.heap.size w6 w8) := (HB67.out.trans ((bl_a (w := w7) _).mono HB67.out.size)).trans HD8.out; have HS8 : Hid (Src Tryz.prog 1 22 (.slice ra m rc) m (rb.map (Value.int .u8)) w8) := src_bs (HBS6.out.below HB68.out); have hB8 : w6.heap.size ≤ w8.heap.size := HB68.out.size)
    | (refine list_app8z rfl (.tmp 40) (.tmp 41) 22 rfl w6.heap.size (m + 1) c8 (some ⟨g8, 0, none⟩) (rb ++ [10]) rfl HT8 (.slice ra m rc) m rb rfl (fun h => by cases h) HS8 HY3 (m + 1 + m) rfl (rb ++ [10] ++ rb) rfl (by omega) hB8 ?_; intro g9 c9 w9 HT9 HD9; have HB69 : Hid (Below w6.heap.size w6 w9) := HB68.out.trans HD9.out))
  have HB9 : Hid (Below w.heap.size w w9) := bl_trans HB6.out HB69.out
  have hX9 : w9.cell? ⟨w5.heap.size, 0, none⟩ = some (.slice xa xn xc) := (HB69.out.cell (p := ⟨w5.heap.size, 0, none⟩) HX6.out.2).trans HX6.out.1
  have hX9l : w5.heap.size < w9.heap.size := Nat.lt_of_lt_of_le HX6.out.2 HB69.out.size
  have HT9' : Hid (Bs w9 (some ⟨g9, 0, none⟩) (m + 1 + m) (rb ++ 10 :: rb)) := by
    have h := HT9.out.1
    rwa [List.append_assoc] at h
  have HB59 : Hid (Below w5.heap.size w5 w9) := HB56.out.trans (HB69.out.mono HB56.out.size)
  have HML : Hid ((rb ++ 10 :: rb).length = m + 1 + m) := HT9'.out.1
  clear HTX HSX HYX HY2 HY3 HYR hBX HT7 HD7 HT7' HS7 hB7 HT8 HD8 HS8 hB8 HT9 HD9 HB67 HB68 HB69 HBS6 HX6 HB6 HB56
  go_wp2_with fail
  refine (implGraphRead_any _ (m + 1 + m) c9 _ w9 HT9'.out (HTE.out _ HB9.out).1 (HTE.out _ HB9.out).2).mono ?_
  rintro e2 wa hR2
  rcases HGR.out.2 with ⟨c, p, hrf, h⟩ | ⟨a', c', r', hW5, h⟩
  · rw [HEQ.out] at h
    simp only [Ending.returned.injEq, Value.tuple.injEq, Array.mk.injEq, List.cons.injEq, Value.agg.injEq, Value.slice.injEq, Value.int.injEq, true_and, and_true] at h
    obtain ⟨_, rfl, rfl⟩ := h
    obtain ⟨hba, ⟨c2, p2, hrf2, rfl⟩ | ⟨a2', c2', r2', hW2, rfl⟩⟩ := hR2
    · have q1 := hrf.place HM.out
      have q2 := hrf2.place HML.out
      have hc0 : (k5 != 0) = true := by simp; omega
      have hc2 : (c2 != 0) = true := by simp; omega
      have HBF : Hid (Below w.heap.size w (wa.alloc (.cells #[.slice none 0 0] 25))) := bl_trans (bl_trans HB9.out hba) (bl_a _)
      clear hrf hrf2 q1 q2 hba hX9
      go_wp2_with fail
      go_ret
      exact ⟨rfl, HBF.out⟩
    · exact (Refuses.two hrf HM.out HML.out hW2).elim
  · rw [HEQ.out] at h
    simp only [Ending.returned.injEq, Value.tuple.injEq, Array.mk.injEq, List.cons.injEq, Value.agg.injEq, Value.slice.injEq, Value.int.injEq, true_and, and_true] at h
    obtain ⟨⟨rfl, rfl, rfl⟩, rfl, rfl⟩ := h
    by_cases h3 : m + 1 + m ≤ 3000
    · obtain ⟨hba, a2', c2', r2', hW2, hr2, rfl⟩ := GrRes.twice hW5 h3 hR2
      have h3z : ¬ (3000 : Int) < (m : Int) + 1 + (m : Int) := by omega
      have HBb : Hid (Below w.heap.size w (wa.alloc (.cells #[.slice a2' r2'.length c2'] 25))) := bl_trans (bl_trans HB9.out hba) (bl_a _)
      have hb9b : Below w9.heap.size w9 (wa.alloc (.cells #[.slice a2' r2'.length c2'] 25)) := bl_trans hba (bl_a _)
      have hXb : (wa.alloc (.cells #[.slice a2' r2'.length c2'] 25)).cell? ⟨w5.heap.size, 0, none⟩ = some (.slice xa r'.length xc) := (hb9b.cell (p := ⟨w5.heap.size, 0, none⟩) hX9l).trans hX9
      have hYb : (wa.alloc (.cells #[.slice a2' r2'.length c2'] 25)).cell? ⟨wa.heap.size, 0, none⟩ = some (.slice a2' r2'.length c2') := by simp [go_sem]
      have hYl : wa.heap.size < (wa.alloc (.cells #[.slice a2' r2'.length c2'] 25)).heap.size := by simp
      have HX1 : Hid (Calls Tryz.prog 8 #[.agg #[.slice xa r'.length xc]] (wa.alloc (.cells #[.slice a2' r2'.length c2'] 25)) (GtRes (wa.alloc (.cells #[.slice a2' r2'.length c2'] 25)) true (linesT (r'.map G1.td3)))) := read_textS hW5 (HB59.out.trans (hb9b.mono HB59.out.size))
      have HX2 : Hid (∀ W, Below wa.heap.size wa W → Calls Tryz.prog 8 #[.agg #[.slice a2' r2'.length c2']] W (GtRes W true (linesT (r'.map G1.td3)))) := by
        intro W hW
        have := read_textS hW2 hW
        rwa [hr2] at this
      have HBA : Hid (Below wa.heap.size wa (wa.alloc (.cells #[.slice a2' r2'.length c2'] 25))) := bl_a _
      obtain ⟨n2, hn2⟩ : ∃ n2, n2 = r2'.length := ⟨_, rfl⟩
      obtain ⟨n1, hn1⟩ : ∃ n1, n1 = r'.length := ⟨_, rfl⟩
      rw [← hn2] at HX1 HX2 HBb hXb hYb hYl HBA ⊢
      rw [← hn1] at HX1 hXb hX9 ⊢
      clear hR2 hba hb9b hW2 hr2 hW5 hn1 hn2 HEQ HGR hX9 hX9l HB59
      obtain ⟨L, hL⟩ : ∃ L, L = linesT (r'.map G1.td3) := ⟨_, rfl⟩
      rw [← hL] at HX1 HX2
      clear hL
      go_wp2_with fail
      generalize wa.alloc (.cells #[.slice a2' n2 c2'] 25) = wb at *
      generalize wa.heap.size = za at *
      refine HX1.out.mono ?_
      rintro e wc ⟨da, dc, rfl, hNd, hbd⟩
      have hYc : wc.cell? ⟨za, 0, none⟩ = some (.slice a2' n2 c2') := (hbd.cell (p := ⟨za, 0, none⟩) hYl).trans hYb
      have HBc : Hid (Below w.heap.size w wc) := bl_trans HBb.out hbd
      have HXc : Hid (Calls Tryz.prog 8 #[.agg #[.slice a2' n2 c2']] wc (GtRes wc true L)) := HX2.out wc (HBA.out.trans (hbd.mono (Nat.le_of_lt hYl)))
      have HNd : Hid (Bs wc da L.length L) := hNd.bs
      clear HX1 HX2 HBb hXb hYb hYl HBA hNd hbd
      obtain ⟨n, hn⟩ : ∃ n, n = L.length := ⟨_, rfl⟩
      rw [← hn] at HNd ⊢
      clear hn
      go_wp2_with fail
      refine HXc.out.mono ?_
      rintro e wd ⟨fa, fc, rfl, hNf, hbf⟩
      have HBd : Hid (Below w.heap.size w wd) := bl_trans HBc.out hbf
      have HS : Hid (Calls Tryz.prog 9 #[.slice da n dc, .slice fa L.length fc] wd fun e w' => e = .returned (.bool true) ∧ w' = wd) := sameBytes_likeS da fa n dc L.length fc L wd (HNd.out.below hbf) hNf.bs
      clear hNf hbf HXc HBc HNd hYc
      go_wp2_with fail
      refine HS.out.mono ?_
      rintro e wh ⟨rfl, h⟩
      subst wh
      clear HS
      go_wp2_with fail
      go_ret
      exact ⟨rfl, HBd.out⟩
    · have hL := hR2.long (by omega)
      obtain ⟨hba, rfl⟩ := hL
      have h3z : (3000 : Int) < (m : Int) + 1 + (m : Int) := by omega
      have HBF : Hid (Below w.heap.size w (wa.alloc (.cells #[.slice none 0 0] 25))) := bl_trans (bl_trans HB9.out hba) (bl_a _)
      clear hba hX9 hR2
      go_wp2_with fail
      go_ret
      exact ⟨rfl, HBF.out⟩
end Go.Proofs.YtiodiooaaojbhaaGreatDoor

/- ReY -/
namespace Go.Proofs.YtiodiooaaojbhaaGreatDoor
open Go.ChangeShapes Go.WideShapes Go.ChangeAt Go.RowKit Go.Joins
set_option maxRecDepth 100000

theorem door_metTwice (os : Os) (args : Array Value) : laidMetH Tryz.prog Rows.fnTwiceRow.laid ((World.doorLaid Tryz.prog 62 os).forCall (fun _ _ => 0) ⟨#[], args, []⟩).memory :=
  laidMetH_of_parts3 (fuel := 8) (laidMet_of_run' 8 (by kernel_rfl) (by kernel_rfl)) (by kernel_rfl) (by kernel_rfl)

theorem Tryz.cells94 : Tryz.prog.cellsOf 94 = 1 := by kernel_rfl
theorem tab_of_laid {W : World} (h : laidMetH Tryz.prog Rows.fnTwiceRow.laid W) : Tab W := by
  rw [MakeChecks.laidMetH_plain _ _ _ (by kernel_rfl)] at h
  exact Lib.tabIs_of_head (k := .u64) (zs := Lib.pow10Tab) (rest := [("strconv.ErrRange", Rows.laid_strconv_ErrRange), ("strconv.ErrSyntax", Rows.laid_strconv_ErrSyntax)]) (g := 3) (t := 184) (n := 20) (by kernel_rfl) (by kernel_rfl) (by kernel_rfl) Tryz.underlying94 Tryz.cells94 (by kernel_rfl) (laidMet.tail (laidMet.tail h))
theorem starErr : "*" ++ "errors.errorString" = "*errors.errorString" := by decide
theorem rowErr (u : TypeId) (h : Tryz.prog.typeName? 3 u = some "*errors.errorString") : u = 180 :=
  typeName_ptr_named (nm := "errors.errorString") (by rw [starErr]; kernel_rfl) (by kernel_rfl) (by decide) u (by rw [starErr]; exact h)
theorem errs_of_laid {W : World} (h : laidMetH Tryz.prog Rows.fnTwiceRow.laid W) : Errs W := by
  rw [MakeChecks.laidMetH_plain _ _ _ (by kernel_rfl)] at h
  have hR := laidMet.tail (laidMet.tail (laidMet.tail h))
  have hS := laidMet.tail hR
  obtain ⟨a1, s1, hv1, _⟩ := laid_sentinel (g := 2) (ti := 132) (tp := 180) (te := 182) (ts := 9) (f := { name := "s", type := 9, offset := 0, embedded := false, tag := "", pkgPath := "errors", byteOffset := 0 }) (ms := #[("Error", 145)]) hR (by kernel_rfl) (by kernel_rfl) (by kernel_rfl) rowErr (by kernel_rfl) (by kernel_rfl) rfl rfl Tryz.underlying9 (by kernel_rfl) (by kernel_rfl)
  obtain ⟨a2, s2, hv2, _⟩ := laid_sentinel (g := 1) (ti := 132) (tp := 180) (te := 182) (ts := 9) (f := { name := "s", type := 9, offset := 0, embedded := false, tag := "", pkgPath := "errors", byteOffset := 0 }) (ms := #[("Error", 145)]) hS (by kernel_rfl) (by kernel_rfl) (by kernel_rfl) rowErr (by kernel_rfl) (by kernel_rfl) rfl rfl Tryz.underlying9 (by kernel_rfl) (by kernel_rfl)
  have c1 : W.cell? ⟨2, 0, none⟩ = some (.iface 180 (.pointer (some a1))) := by simpa using World.var?_cell (P := Tryz.prog) (by kernel_rfl) hv1 0
  have c2 : W.cell? ⟨1, 0, none⟩ = some (.iface 180 (.pointer (some a2))) := by simpa using World.var?_cell (P := Tryz.prog) (by kernel_rfl) hv2 0
  exact ⟨cell_lt c2, cell_lt c1, ⟨_, _, c2⟩, _, _, c1⟩

theorem liftedTwice (os : Os) (started : os.Started) (H : Type) (enc : TypeId × Value → H) :
    ReturnsInHanded {} Tryz.checked os 3 .any (fun w args => (Rows.fnTwiceSpec.pre enc Tryz.prog Tryz.f3 [] false w args ∧ laidMetH Tryz.prog Rows.fnTwiceRow.laid w) ∧ sizedMet enc Tryz.prog Tryz.f3 (OpenSpec.ofChange Rows.fnTwiceSpec) false w args)
      (Rows.fnTwiceSpec.post enc Tryz.prog Tryz.f3 false true false false) := by
  refine returnsInHanded_of_change_and (C := Tryz.checked) (X := fun w _ => laidMetH Tryz.prog Rows.fnTwiceRow.laid w) (fun _ _ _ hh h => h.of_heap hh) own started (by kernel_rfl) Tryz.func3
    (ChangeSpec.witness_shaped (enc := enc) (C := Tryz.checked) (os := os) (X := fun w _ => laidMetH Tryz.prog Rows.fnTwiceRow.laid w) false (World.doorLaid Tryz.prog 62 os) #[.slice none 0 0] 8 rfl (World.shaped_of_RefB (by kernel_rfl) (by kernel_rfl)) (by kernel_rfl) (by kernel_rfl) (by kernel_rfl) (door_metTwice os _)) ?_
  intro W base args ds gs before hval0 hW _ _ hL _
  have hval : ∀ (j : Nat) t v, Tryz.f3.params[j]? = some t → args[j]? = some v → Value.okWide Tryz.prog W .any base t v := hval0
  have hW' := hW
  obtain ⟨p, q, hA0, hV, rfl, hfz, hnd⟩ := hW
  have hA : DataW.TrodAll enc Tryz.prog W 0 (fun _ => true) true Tryz.f3.params.toList args.toList ds p := hA0
  rw [Tryz.params3] at hA hval
  obtain ⟨v0, vs0, d0, ds0, p0, q0, hargs, rfl, rfl, h0, r0⟩ := trodAll_cons hA
  obtain ⟨rfl, rfl, rfl⟩ := trodAll_nil r0
  obtain rfl : args = #[v0] := by cases args; simp_all
  obtain ⟨rfl, rfl⟩ := trodVars_none hV
  have k0 := h0
  have lt0 : ∀ x ∈ p0, x.block < W.heap.size := by obtain ⟨m, hm⟩ := k0; exact DataW.trod_lt m _ _ _ hm
  obtain ⟨a, len, cap, rfl, hlen, hC⟩ := open_code (hval 0 22 v0 rfl rfl) h0
  clear hA0 hval0
  refine (walkTwice a len cap W hlen hC (tab_of_laid hL) (errs_of_laid hL)).mono fun e W' ⟨he, bel⟩ => ?_
  subst he
  exact ⟨_, rfl, _, _, _, [], _, [], hW', trodAll_mk1 (shut_bool Tryz.underlying4 _), (trodAll_cons_mk (Below.trod laidOut (by kernel_rfl) (of_decide_eq_true (by kernel_rfl)) k0 bel lt0) trodAll_mk0), rfl, bel.frame _, fun h => by cases h⟩

theorem overTwice : Rows.FnTwiceSaid :=
  OpenClaim.holds_of_wide 3 Tryz.f3 rfl rfl rfl rfl rfl rfl rfl ⟨rfl, rfl, rfl, rfl, rfl⟩ rfl rfl rfl rfl rfl (by kernel_rfl) Tryz.func3 (by kernel_rfl)
    (of_decide_eq_true (by kernel_rfl)) (by unfold Func.isWrapper; first | (rw [if_pos (by decide +kernel)]; kernel_rfl) | (rw [if_neg (by decide +kernel)]; exact ⟨rfl, rfl⟩))
    (fun os started H enc _ => liftedTwice os started H enc)

theorem provedTwice : Rows.FnTwiceCardSaid :=
  Claim7.holds_tied_plain_at .later [] [.data, .data, .data, .sentinel, .sentinel] true Rows.fnTwiceCard.stood.harness true
    overTwice (fun _ h => by cases h) (by kernel_rfl) (fun _ h => by cases h) fnTwice_row_tie rfl ⟨rfl, rfl⟩ (by kernel_rfl) rfl
    (fun f fn hf hfn => by
      obtain rfl : f = 3 := Option.some.inj ((show Tryz.prog.funcNamed Rows.fnTwiceRow.func = some 3 by kernel_rfl).symm.trans hf) |>.symm
      obtain rfl : fn = Tryz.f3 := (Option.some.inj (Tryz.func3.symm.trans hfn)).symm
      exact ⟨by kernel_rfl, fun j t ht => by
        rw [Tryz.params3] at ht
        have hm : t ∈ [22] := by simpa using Array.mem_of_getElem? ht
        have hall : ([22].all fun u => !Tryz.prog.wantsStandIn u) = true := by kernel_rfl
        exact (show Tryz.prog.wantsStandIn t = false by simpa using List.all_eq_true.1 hall t hm)⟩)
    (by kernel_rfl)
#print axioms provedTwice
end Go.Proofs.YtiodiooaaojbhaaGreatDoor
