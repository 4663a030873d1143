import Derived.Test.YtoloadogihbdeaaGreatRows
import Derived.WalkKit
import Derived.WalkSpells
import Derived.WalkLawsBesides
import Derived.ProofKit
import Derived.OpenShut
import Derived.Deep.Light
import Derived.Below
import Derived.Deep.OwnRows
import Derived.Deep.Draws
import Derived.BigQuiet
import Derived.Deep.QuietTactic
import Derived.Deep.RegionWith
import Derived.Lib.Bytealg
import Derived.Lib.Bytes
import Derived.Laws.BytesArg
import Derived.Laws.Externs
import Derived.Deep.RegionHeld3
import Derived.Lib.ConvBytes
import Derived.ChangeOld
import Derived.Lib.SmallJoins
import Derived.Deep.AppendLies
import Derived.Deep.MidRow
namespace Go.Proofs.YtoloadogihbdeaaGreat
open Go.RowKit
set_option maxHeartbeats 40000000
variable {ops : Array Oper} {Q : Exit → Act → World → Prop} {k m : Int} {rest : List Oper} {L cs l oc pc zc : List Value} {B B' C b g i j len n sz : Nat} {op : Oper} {x : Operand} {a : Option Addr} {P : Program} {p : Prop} {ty : TypeId} {a0 a1 a10 a11 a12 a13 a14 a15 a16 a17 a18 a19 a2 a20 a21 a22 a23 a3 a4 a5 a6 a7 a8 a9 v : Value} {W w w' w'' w0 w1 w2 : World}
theorem brf : Below B w w := Below.refl B w
theorem nR : n ≤ n := Nat.le_refl n
theorem nZ : 0 ≤ n := Nat.zero_le n
theorem nN : ¬ n < 0 := Nat.not_lt_zero n
def Hd (p : Prop) : Prop := p
theorem Hd.o (h : Hd p) : p := h
theorem iH (h : p) : Hd p := h
abbrev Cl (f : FuncId) (a : Array Value) (w : World) (Q : Ending → World → Prop) : Prop := Calls Tryz.prog f a w Q
abbrev Bl (w w2 : World) : Prop := Below w.heap.size w w2
theorem lA {α : Type} {xs ys : List α} : (xs ++ ys).length = xs.length + ys.length := List.length_append
theorem lC {α : Type} {a : α} {xs : List α} : (a :: xs).length = xs.length + 1 := List.length_cons
theorem lN {α : Type} : ([] : List α).length = 0 := List.length_nil
theorem bdr : Below B w w.drew := Below.drew (Below.refl B w)
theorem sA {α : Type} {a : α} {xs : List α} : xs.toArray.setIfInBounds i a = (xs.set i a).toArray := List.setIfInBounds_toArray xs i a
theorem zA {α : Type} {a b : α} {l : List α} : (a :: l).set 0 b = b :: l := List.set_cons_zero
theorem cA {α : Type} {a b : α} {l : List α} : (a :: l).set (n + 1) b = a :: l.set n b := List.set_cons_succ
theorem wl1 {a : Act} {c : Code} (h : c.wp P (Exit.then (Code.rounds P c Q 0) Q) a w) : (Code.loop c).wp P Q a w := wp_loop_rounds 1 h
abbrev zPl : List Value := [.slice none 0 0, .int .i64 0, .slice none 0 0, .int .i64 0, .int .i64 0, .slice none 0 0, .int .i64 0, .slice none 0 0, .int .i64 0, .int .i64 0, .slice none 0 0, .int .i64 0, .slice none 0 0, .int .i64 0, .int .i64 0]
abbrev zPa : Array Value := zPl.toArray
abbrev zEl : List Value := [.int .i64 0, .int .i64 0, .slice none 0 0, .int .i64 0, .slice none 0 0, .int .i64 0, .int .i64 0, .slice none 0 0]
abbrev zEa : Array Value := zEl.toArray
abbrev zNl : List Value := [.int .i64 0, .int .i64 0, .slice none 0 0, .int .i64 0, .slice none 0 0, .int .i64 0, .int .i64 0, .slice none 0 0, .int .i64 0, .slice none 0 0, .int .i64 0, .int .i64 0, .slice none 0 0, .int .i64 0, .slice none 0 0, .int .i64 0, .int .i64 0, .int .i64 0, .int .i64 0, .slice none 0 0, .int .i64 0, .slice none 0 0, .int .i64 0, .int .i64 0, .slice none 0 0, .slice none 0 0, .slice none 0 0, .slice none 0 0]
abbrev zNa : Array Value := zNl.toArray
abbrev zGl : List Value := [.int .i64 0, .slice none 0 0, .int .i64 0, .int .i64 0, .slice none 0 0, .int .i64 0, .slice none 0 0, .int .i64 0, .int .i64 0, .slice none 0 0, .slice none 0 0, .slice none 0 0, .slice none 0 0]
abbrev zGa : Array Value := zGl.toArray
theorem bl_alloc (h : Bl w w') (o : Obj) : Bl w (w'.alloc o) := h.alloc h.size o
theorem bl_trans (h : Bl w w') (k : Below w'.heap.size w' w'') : Bl w w'' := h.trans (k.mono h.size)
theorem bl_set (h : Bl w w') {p : Addr} (hp : w.heap.size ≤ p.block) (u : Value) : Bl w (w'.setCell p u) := h.setCell hp u
def numOk (n s : Int) : Bool := decide (0 ≤ s) && decide (s ≤ 6) && decide (-1000000000000000 ≤ n) && decide (n ≤ 1000000000000000) && (s == 0 || n.tmod 10 != 0)
theorem within_any (n a b : Int) (w : World) :
 Calls Tryz.prog 150 #[.int .i64 n, .int .i64 a, .int .i64 b] w fun e w' => e = .returned (.bool (decide (a ≤ n) && decide (n ≤ b))) ∧ w' = w := by
 go_in;go_wp2;all_goals go_ret
 all_goals (refine ⟨?_, rfl⟩; simp [*]; try omega)
theorem decOk_any (n s : Int) (w : World) (_h1 : -9223372036854775808 ≤ n) (_h2 : n ≤ 9223372036854775807) (_h3 : -9223372036854775808 ≤ s) (_h4 : s ≤ 9223372036854775807) :
 Calls Tryz.prog 183 #[.agg #[.int .i64 n, .int .i64 s]] w fun e w' =>
  e = .returned (.bool (numOk n s)) ∧ ∃ o1, w' = w.alloc o1 := by
 go_in;go_wp2;all_goals go_ret
 all_goals refine ⟨?_, _, rfl⟩
 all_goals (go_light; simp_all [numOk]; try omega)
/-! The loops over an empty text: no round. -/
theorem eq0 (w : World) : Calls Tryz.prog 42 #[.slice none 0 0, .slice none 0 0] w fun e w' => e = .returned (.bool true) ∧ w' = w := by
 go_in;go_wp2;refine wl1 ?_;go_wp2;go_ret;exact ⟨rfl, rfl⟩
open Go.RowKit Go.Deep
def Bs (w : World) (a : Option Addr) (len : Nat) (bs : List Int) : Prop :=
 bs.length = len ∧ len ≤ 1048576 ∧ (∀ i : Nat, 0 ≤ bs[i]?.getD 0 ∧ bs[i]?.getD 0 ≤ 255) ∧
  (len = 0 ∨ ∃ b off, a = some ⟨b, off, none⟩ ∧ b < w.heap.size ∧ ∀ i, i < len → w.cell? ⟨b, off + i, none⟩ = some (.int .u8 (bs[i]?.getD 0)))
theorem Bs.below {bs : List Int} (h : Bs w a len bs) (hb : Bl w w') : Bs w' a len bs := by
 obtain ⟨h1, h2, h3, h4⟩ := h;refine ⟨h1, h2, h3, ?_⟩;rcases h4 with h4 | ⟨b, off, ha, hlt, hc⟩
 · exact .inl h4
 exact .inr ⟨b, off, ha, Nat.lt_of_lt_of_le hlt hb.size, fun i hi => (hb.cell (p := ⟨b, off + i, none⟩) hlt).trans (hc i hi)⟩
def cellsOf (bs : List Int) : Array Value := (bs.map (Value.int .u8)).toArray
theorem Bs.made (w : World) (bs : List Int) (len : Nat) (hl : bs.length = len) (h2 : len ≤ 1048576) (h3 : ∀ i : Nat, 0 ≤ bs[i]?.getD 0 ∧ bs[i]?.getD 0 ≤ 255) :
 Bs (w.alloc (.cells (cellsOf bs) 5)) (some ⟨w.heap.size, 0, none⟩) len bs := by
 refine ⟨hl, h2, h3, .inr ⟨w.heap.size, 0, rfl, by simp, fun i hi => ?_⟩⟩
 have hi' : i < bs.length := by omega
 simp [go_sem, cellsOf, hi']
theorem Tryz.info5 : (Tryz.prog.info? 5).map (fun i => (i.zero, i.size, i.bytes)) = some (some (.int .u8 0), 1, 1) := by kernel_rfl
def filled (bs : List Int) (k : Nat) : Array Value := (Array.range bs.length).map (fun i => Value.int .u8 (if i < k then bs[i]?.getD 0 else 0))
theorem filled_get (bs : List Int) (k i : Nat) : (filled bs k)[i]? = if i < bs.length then some (Value.int .u8 (if i < k then bs[i]?.getD 0 else 0)) else none := by
 by_cases h : i < bs.length <;> simp [filled, h]
theorem filled_zero (bs : List Int) (n : Nat) (h : bs.length = n) : madeCells #[Value.int .u8 0] n = filled bs 0 := by
 subst h;apply Array.ext_getElem?;intro i;rw [filled_get];by_cases h : i < bs.length <;> simp [madeCells, h, Nat.mod_one]
theorem filled_at (bs : List Int) (k : Nat) (h : k < bs.length) : (filled bs k)[k]? = some (Value.int .u8 0) := by
 rw [filled_get]; simp [h]
theorem filled_step (bs : List Int) (k : Nat) : (filled bs k).setIfInBounds k (Value.int .u8 (bs[k]?.getD 0)) = filled bs (k + 1) := by
 apply Array.ext_getElem?;intro i;rw [Array.getElem?_setIfInBounds, filled_get, filled_get];have hsz : (filled bs k).size = bs.length := by simp [filled]
 rw [hsz];by_cases e : k = i
 · subst e
   by_cases h : k < bs.length <;> simp [h]
 rw [if_neg e];by_cases h : i < k
 · rw [if_pos h, if_pos (by omega : i < k + 1)]
 rw [if_neg h, if_neg (by omega : ¬ i < k + 1)]
theorem filled_end (bs : List Int) (k : Nat) (hk : bs.length ≤ k) : filled bs k = cellsOf bs := by
 apply Array.ext_getElem?;intro i;rw [filled_get];by_cases h : i < bs.length
 · have : i < k := by omega
   simp [h, cellsOf, this]
 simp [h, cellsOf]
theorem toByteS_any (a : Option Addr) (len cap : Nat) (bs : List Int) (w : World) (hB : Bs w a len bs) :
 Calls Tryz.prog 33 #[.slice a len cap] w fun e w' =>
  e = .returned (.slice (some ⟨w.heap.size, 0, none⟩) len len) ∧ w' = w.alloc (.cells (cellsOf bs) 5) := by
 obtain ⟨hl, h2, h3, h4⟩ := hB;have hmk := run_make_row' (P := Tryz.prog) 23 5 (.int .u8 0) 1 Tryz.underlying23 Tryz.info5 rfl .i64 .i64 len (by omega) (by omega);rcases h4 with h4 | ⟨b, off, rfl, hlt, hc⟩
 · subst h4
   have e0 : cellsOf bs = madeCells #[Value.int .u8 0] 0 := by rw [filled_zero bs 0 hl, ← filled_end bs 0 (by omega)]
   rw [e0];have hmk0 : ∀ w, (Instr.makeSlice 23 (.int .i64 0) (.int .i64 0)).run Tryz.prog w = .ok (.slice (some ⟨w.heap.size, 0, none⟩) 0 0) (w.alloc (.cells (madeCells #[Value.int .u8 0] 0) 5)) := fun w => by simpa using hmk w
   clear hmk;go_in;go_wp2;refine wl1 ?_;go_wp2;go_ret;exact ⟨rfl, rfl⟩
 go_in;go_wp2;go_loopw [4] (fun i wr => ∃ k : Nat, k ≤ len ∧ i = .int .i64 k ∧ wr = w.alloc (.cells (filled bs k) 5))
  (fun i _ => len - (intOf i).toNat)
 case atStart => exact ⟨0, nZ, rfl, by rw [filled_zero bs len hl]⟩
 obtain ⟨k, hk, rfl, rfl⟩ := hrel;have hcx := fun (h : k < len) => hc k h;have hfx := fun (h : k < len) => filled_at bs k (by omega);have HL := iH hl;clear hc h3 hmk hl;go_wp2
 · go_roundw
   case rel =>
    refine ⟨k + 1, by omega, by go_num, ?_⟩
    rw [filled_step]
   case measure => simp [intOf]; omega
 go_ret;refine ⟨rfl, ?_⟩;rw [filled_end bs k (by have := HL.o; omega)]
theorem list_eq_of (xs bs : List Int) (h : xs.length = bs.length) (H : ∀ j : Nat, j < xs.length → xs[j]?.getD 0 = bs[j]?.getD 0) : xs = bs := by
 apply List.ext_getElem h;intro i h1 h2;have := H i h1;simpa [h1, h2] using this
theorem list_ne_of (xs bs : List Int) (k : Nat) (H : xs[k]?.getD 0 ≠ bs[k]?.getD 0) : xs ≠ bs := by
 intro e; subst e; exact H rfl
theorem eqByteS_any (a b : Option Addr) (la lb ca cb : Nat) (xs bs : List Int) (w : World) (hA : Bs w a la xs) (hB : Bs w b lb bs) :
 Calls Tryz.prog 42 #[.slice a la ca, .slice b lb cb] w fun e w' => e = .returned (.bool (decide (xs = bs))) ∧ ∃ q, w' = w.drewN q := by
 obtain ⟨hla, h2a, h3a, h4a⟩ := hA;obtain ⟨hlb, h2b, h3b, h4b⟩ := hB;by_cases hne : la = lb
 · subst hne
   rcases h4a with h4a | ⟨ba, offa, rfl, hlta, hca⟩
   · subst h4a
     have e : xs = bs := by
      rw [List.eq_nil_of_length_eq_zero hla, List.eq_nil_of_length_eq_zero hlb]
     have e' : decide (xs = bs) = true := by simp [e]
     rw [e'];go_in;go_wp2;refine wl1 ?_;go_wp2;go_ret;exact ⟨rfl, 0, rfl⟩
   rcases h4b with h4b | ⟨bb, offb, rfl, hltb, hcb⟩
   · subst h4b
     have e : xs = bs := by
      rw [List.eq_nil_of_length_eq_zero hla, List.eq_nil_of_length_eq_zero hlb]
     have e' : decide (xs = bs) = true := by simp [e]
     rw [e'];go_in;go_wp2;refine wl1 ?_;go_wp2;go_ret;exact ⟨rfl, 0, rfl⟩
   go_in;go_wp2;go_loopw [5] (fun i wr => ∃ k q : Nat, k ≤ la ∧ i = .int .i64 k ∧ wr = w.drewN q ∧ ∀ j : Nat, j < k → xs[j]?.getD 0 = bs[j]?.getD 0)
    (fun i _ => la - (intOf i).toNat)
   case atStart => exact ⟨0, 0, nZ, rfl, rfl, by intro j hj; omega⟩
   obtain ⟨k, q, hk, rfl, rfl, hH⟩ := hrel;have HA := iH hla;have HB := iH hlb;have HH := iH hH;by_cases hlt : k < la
   · have hx := hca k hlt
     have hy := hcb k hlt;clear hca hcb hla hlb hH h3a h3b;go_wp2;go_region;all_goals go_wp2
     · have hd : (xs[k]?.getD 0 != bs[k]?.getD 0) = true := by assumption
       have : xs ≠ bs := list_ne_of xs bs k (by simpa using hd);go_ret;exact ⟨by simp [this], _, rfl⟩
     have hd : (xs[k]?.getD 0 != bs[k]?.getD 0) = false := by assumption
     have hd' : xs[k]?.getD 0 = bs[k]?.getD 0 := by simpa using hd
     go_roundw
     case rel => exact ⟨k + 1, q + 1, by omega, by go_num, rfl, fun j hj => by
      by_cases e : j = k
      · rw [e]; exact hd'
      exact HH.o j (by omega)⟩
     case measure => simp [intOf]; omega
   clear hca hcb hla hlb hH h3a h3b;go_wp2;go_ret;refine ⟨?_, q, rfl⟩;have : xs = bs := list_eq_of xs bs (HA.o.trans HB.o.symm) (fun j hj => HH.o j (by have := HA.o; omega));simp [this]
 have e : xs ≠ bs := by intro e; subst e; exact hne (hla.symm.trans hlb)
 have e' : decide (xs = bs) = false := by simp [e]
 rw [e'];have hz : ((la : Int) == (lb : Int)) = false := by simp; omega
 clear h4a h4b h3a h3b;go_in;go_wp2;go_ret;exact ⟨rfl, 0, rfl⟩
theorem szByteS_any (a : Option Addr) (len cap : Nat) (left : Int) (w : World) (_h1 : 0 ≤ left) (_h2 : left ≤ 1048576) (_h3 : len ≤ 9223372036854775807) :
 Calls Tryz.prog 24 #[.slice a len cap, .int .i64 left] w fun e w' => e = .returned (.int .i64 (if left < len then -1 else left - len)) ∧ w' = w := by
 go_in;go_wp2;all_goals go_ret
 all_goals exact ⟨rfl, rfl⟩
def leftOf (left : Int) (len : Nat) : Int := if left < len then -1 else left - len
theorem szTerm_any (k n s : Int) (a : Option Addr) (len cap : Nat) (left : Int) (w : World) (h1 : 0 ≤ left) (h2 : left ≤ 1048576) (h3 : len ≤ 9223372036854775807) :
 Calls Tryz.prog 68 #[.agg #[.int .i64 k, .slice a len cap, .int .i64 n, .int .i64 s], .int .i64 left] w fun e w' => e = .returned (.int .i64 (leftOf left len)) ∧ Bl w w' := by
 unfold leftOf;go_in;go_wp2_with (go_at_call 24; refine (szByteS_any a len cap left _ h1 h2 h3).mono ?_; rintro e w1 ⟨rfl, rfl⟩)
 all_goals go_ret
 all_goals refine ⟨?_, bl_alloc brf _⟩
 all_goals (simp_all; try omega)
theorem eqTerm_any (k n s k' n' s' : Int) (a a' : Option Addr) (len cap len' cap' : Nat) (bs bs' : List Int) (w : World) (hB : Bs w a len bs) (hB' : Bs w a' len' bs') :
 Calls Tryz.prog 96 #[.agg #[.int .i64 k, .slice a len cap, .int .i64 n, .int .i64 s], .agg #[.int .i64 k', .slice a' len' cap', .int .i64 n', .int .i64 s']] w fun e w' =>
  e = .returned (.bool (decide (k = k' ∧ bs = bs' ∧ n = n' ∧ s = s'))) ∧ Bl w w' := by
 have h1 : ∀ o1 o2, Bs ((w.alloc o1).alloc o2) a len bs := fun o1 o2 => hB.below (bl_alloc (bl_alloc brf _) _);have h2 : ∀ o1 o2, Bs ((w.alloc o1).alloc o2) a' len' bs' := fun o1 o2 => hB'.below (bl_alloc (bl_alloc brf _) _);clear hB hB';go_in;go_wp2_with (go_at_call 42; refine (eqByteS_any a a' len len' cap cap' bs bs' _ (h1 _ _) (h2 _ _)).mono ?_; rintro e w1 ⟨rfl, q, rfl⟩)
 all_goals go_ret
 all_goals refine ⟨?_, ?_⟩
 all_goals first | ((repeat (first | with_reducible exact Below.refl _ _ | with_reducible apply bl_alloc | with_reducible apply Below.drew | with_reducible apply below_drewN)); done) | skip
 all_goals (go_light; simp_all)
def letter (b : Int) : Bool := decide (97 ≤ b) && decide (b ≤ 122)
def digit (b : Int) : Bool := decide (48 ≤ b) && decide (b ≤ 57)
def plainB (b : Int) : Bool := decide (32 ≤ b) && decide (b ≤ 126)
def nameOk (bs : List Int) : Bool := decide (1 ≤ bs.length) && decide (bs.length ≤ 12) && letter (bs[0]?.getD 0) && bs.all (fun b => letter b || digit b)
def textOk (bs : List Int) : Bool := decide (bs.length ≤ 30) && bs.all plainB
def termOk (k : Int) (bs : List Int) (n s : Int) : Bool :=
 if k = 0 then nameOk bs && n == 0 && s == 0
 else if k = 1 then bs.length == 0 && decide (0 ≤ n) && decide (n ≤ 999999) && s == 0
 else if k = 2 then textOk bs && n == 0 && s == 0
 else if k = 3 then bs.length == 0 && numOk n s
 else false
theorem all_of (bs : List Int) (p : Int → Bool) (H : ∀ j : Nat, j < bs.length → p (bs[j]?.getD 0) = true) : bs.all p = true := by
 rw [List.all_eq_true];intro x hx;obtain ⟨i, hi, rfl⟩ := List.getElem_of_mem hx;have := H i hi;simpa [hi] using this
theorem all_not (bs : List Int) (p : Int → Bool) (k : Nat) (h : k < bs.length) (H : p (bs[k]?.getD 0) = false) : bs.all p = false := by
 rw [List.all_eq_false];refine ⟨bs[k], List.getElem_mem h, ?_⟩;simpa [h] using H
theorem small_any (b : Int) (w : World) : Calls Tryz.prog 137 #[.int .u8 b] w fun e w' => e = .returned (.bool (letter b || digit b)) ∧ w' = w := by
 go_in;go_wp2;all_goals go_ret
 all_goals (refine ⟨congrArg (fun b => Ending.returned (Value.bool b)) ?_, rfl⟩; rw [Bool.eq_iff_iff]; simp [letter, digit]; try omega)
theorem letter_any (b : Int) (w : World) : Calls Tryz.prog 168 #[.int .u8 b] w fun e w' => e = .returned (.bool (letter b)) ∧ w' = w := by
 go_in;go_wp2;all_goals go_ret
 all_goals (refine ⟨?_, rfl⟩; simp [letter]; try omega)
theorem digit_any (b : Int) (w : World) : Calls Tryz.prog 169 #[.int .u8 b] w fun e w' => e = .returned (.bool (digit b)) ∧ w' = w := by
 go_in;go_wp2;all_goals go_ret
 all_goals (refine ⟨?_, rfl⟩; simp [digit]; try omega)
theorem isText_any (a : Option Addr) (len cap : Nat) (bs : List Int) (w : World) (hB : Bs w a len bs) :
 Calls Tryz.prog 181 #[.slice a len cap] w fun e w' => e = .returned (.bool (textOk bs)) ∧ w' = w := by
 obtain ⟨hl, h2, h3, h4⟩ := hB;clear h3;by_cases h30 : len ≤ 30
 · rcases h4 with h4 | ⟨b, off, rfl, hlt, hc⟩
   · subst h4
     have e : textOk bs = true := by simp [textOk, List.eq_nil_of_length_eq_zero hl]
     rw [e];clear hl;go_in;go_wp2;refine wl1 ?_;go_wp2;go_ret;exact ⟨rfl, rfl⟩
   have HL := iH hl;clear hl;go_in;go_wp2;go_loop [10] (fun i => ∃ k : Nat, k ≤ len ∧ i = .int .i64 k ∧ ∀ j : Nat, j < k → plainB (bs[j]?.getD 0) = true)
    (fun i => len - (intOf i).toNat)
   case atStart => exact ⟨0, nZ, rfl, by intro j hj; omega⟩
   obtain ⟨k, hk, rfl, hH⟩ := hrel;have HH := iH hH;have hcx := fun (h : k < len) => hc k h;clear hc hH;go_wp2
   · have hx : bs[k]?.getD 0 < 32 ∨ 126 < bs[k]?.getD 0 := by assumption
     go_ret;refine ⟨?_, rfl⟩;have e := all_not bs plainB k (by have := HL.o; omega) (by simp [plainB]; omega);simp [textOk, e]
   · have hx : 32 ≤ bs[k]?.getD 0 ∧ bs[k]?.getD 0 ≤ 126 := by assumption
     go_round
     case rel => exact ⟨k + 1, by omega, by go_num, fun j hj => by
      by_cases e : j = k
      · subst e; simp [plainB]; omega
      exact HH.o j (by omega)⟩
     case measure => simp [intOf]; omega
   · have hx : bs[k]?.getD 0 < 32 := by assumption
     go_ret;refine ⟨?_, rfl⟩;have e := all_not bs plainB k (by have := HL.o; omega) (by simp [plainB]; omega);simp [textOk, e]
   go_ret;refine ⟨?_, rfl⟩;have hl := HL.o;have e := all_of bs plainB (fun j hj => HH.o j (by omega));simp [textOk, e]; omega
 have e : textOk bs = false := by simp [textOk]; omega
 rw [e];clear h4;go_in;go_wp2;go_ret;exact ⟨rfl, rfl⟩
theorem isName_any (a : Option Addr) (len cap : Nat) (bs : List Int) (w : World) (hB : Bs w a len bs) :
 Calls Tryz.prog 152 #[.slice a len cap] w fun e w' => e = .returned (.bool (nameOk bs)) ∧ w' = w := by
 obtain ⟨hl, h2, h3, h4⟩ := hB;clear h3;by_cases h0 : len = 0
 · subst h0
   have e : nameOk bs = false := by simp [nameOk, hl]
   rw [e];clear hl h4;go_in;go_wp2;go_ret;exact ⟨rfl, rfl⟩
 obtain ⟨b, off, rfl, hlt, hc⟩ : ∃ b off, a = some ⟨b, off, none⟩ ∧ b < w.heap.size ∧ ∀ i, i < len → w.cell? ⟨b, off + i, none⟩ = some (.int .u8 (bs[i]?.getD 0)) := by
  rcases h4 with h4 | h4
  · exact absurd h4 h0
  exact h4
 clear h4;by_cases h12 : len ≤ 12
 · have hc0 : w.cell? ⟨b, off, none⟩ = some (.int .u8 (bs[0]?.getD 0)) := hc 0 (by omega)
   have hb1 : (1 : Int) ≤ (len : Int) := by omega
   have hb0 : (0 : Int) < (len : Int) := by omega
   have HL := iH hl;clear hl;by_cases hf : letter (bs[0]?.getD 0) = true
   · go_in
     go_wp2_with (first | (go_at_call 168; refine (letter_any _ _).mono ?_; rintro e w1 ⟨rfl, rfl⟩) | go_in)
     go_loop [18] (fun i => ∃ k : Nat, k ≤ len ∧ i = .int .i64 k ∧ ∀ j : Nat, j < k → (letter (bs[j]?.getD 0) || digit (bs[j]?.getD 0)) = true)
      (fun i => len - (intOf i).toNat)
     case atStart => exact ⟨0, nZ, rfl, by intro j hj; omega⟩
     obtain ⟨k, hk, rfl, hH⟩ := hrel;have HH := iH hH;have HC := hc;have HF := iH hf;clear hc hH hc0 hf;by_cases hlt2 : k < len
     · have hcx := HC k hlt2
       clear HC;generalize hg : bs[k]?.getD 0 = x at hcx;have HG := iH hg;clear hg;have hkl : k < bs.length := by have := HL.o; omega
       by_cases h1 : letter x = true
       · go_wp2_with (first | (go_at_call 168; refine (letter_any _ _).mono ?_; rintro e w2 ⟨rfl, rfl⟩) | (go_at_call 169; refine (digit_any _ _).mono ?_; rintro e w3 ⟨rfl, rfl⟩))
         go_round
         case rel => exact ⟨k + 1, by omega, by go_num, fun j hj => by
          by_cases e : j = k
          · subst e; rw [HG.o, h1]; rfl
          exact HH.o j (by omega)⟩
         case measure => simp [intOf]; omega
       have h1' : letter x = false := by simpa using h1
       clear h1;by_cases h2 : digit x = true
       · go_wp2_with (first | (go_at_call 168; refine (letter_any _ _).mono ?_; rintro e w2 ⟨rfl, rfl⟩) | (go_at_call 169; refine (digit_any _ _).mono ?_; rintro e w3 ⟨rfl, rfl⟩))
         go_round
         case rel => exact ⟨k + 1, by omega, by go_num, fun j hj => by
          by_cases e : j = k
          · subst e; rw [HG.o, h2]; simp
          exact HH.o j (by omega)⟩
         case measure => simp [intOf]; omega
       have h2' : digit x = false := by simpa using h2
       clear h2;go_wp2_with (first | (go_at_call 168; refine (letter_any _ _).mono ?_; rintro e w2 ⟨rfl, rfl⟩) | (go_at_call 169; refine (digit_any _ _).mono ?_; rintro e w3 ⟨rfl, rfl⟩))
       go_ret;refine ⟨?_, rfl⟩;have e := all_not bs (fun b => letter b || digit b) k hkl (by show (letter _ || digit _) = false; rw [HG.o, h1', h2']; rfl);simp [nameOk, e]
     clear HC;go_wp2;go_ret;refine ⟨?_, rfl⟩;have hl := HL.o;have e := all_of bs (fun b => letter b || digit b) (fun j hj => HH.o j (by omega));have hf := HF.o;simp only [nameOk, e, hf, hl];simp; omega
   have hf' : letter (bs[0]?.getD 0) = false := by simpa using hf
   have e : nameOk bs = false := by simp [nameOk, hf']
   rw [e];clear hf;go_in;go_wp2_with (first | (go_at_call 168; refine (letter_any _ _).mono ?_; rintro e w1 ⟨rfl, rfl⟩) | go_in)
   go_ret;exact ⟨rfl, rfl⟩
 have e : nameOk bs = false := by simp [nameOk, hl]; omega
 rw [e];have h12' : decide ((len : Int) ≤ 12) = false := by simp; omega
 clear hl hc;go_in;go_wp2;go_ret;exact ⟨rfl, rfl⟩
theorem specTermOk_blank (n s : Int) (a : Option Addr) (len cap : Nat) (bs : List Int) (w : World) (hB : Bs w a len bs) :
 Calls Tryz.prog 110 #[.agg #[.int .i64 1, .slice a len cap, .int .i64 n, .int .i64 s]] w fun e w' => e = .returned (.bool (termOk 1 bs n s)) ∧ ∃ o1, w' = w.alloc o1 := by
 obtain ⟨hl, h2, h3, h4⟩ := hB;have HL := iH hl;clear h3 h4 hl;go_in;go_wp2;all_goals go_ret
 all_goals (refine ⟨congrArg (fun b => Ending.returned (Value.bool b)) ?_, _, rfl⟩; have hl := HL.o; rw [Bool.eq_iff_iff]; go_light; simp [termOk, -List.length_eq_zero_iff]; try omega)
theorem specTermOk_number (n s : Int) (a : Option Addr) (len cap : Nat) (bs : List Int) (w : World) (hB : Bs w a len bs) (_h1 : -9223372036854775808 ≤ n) (_h2 : n ≤ 9223372036854775807) :
 Calls Tryz.prog 110 #[.agg #[.int .i64 3, .slice a len cap, .int .i64 n, .int .i64 s]] w fun e w' => e = .returned (.bool (termOk 3 bs n s)) ∧ ∃ o1, w' = w.alloc o1 := by
 obtain ⟨hl, h2, h3, h4⟩ := hB;have HL := iH hl;clear h3 h4 hl;go_in;go_wp2;all_goals go_ret
 all_goals (refine ⟨congrArg (fun b => Ending.returned (Value.bool b)) ?_, _, rfl⟩; have hl := HL.o; rw [Bool.eq_iff_iff]; go_light; simp [termOk, numOk, -List.length_eq_zero_iff]; try omega)
theorem specTermOk_other (k n s : Int) (a : Option Addr) (len cap : Nat) (bs : List Int) (w : World) (h0 : k ≠ 0) (h1 : k ≠ 1) (h2 : k ≠ 2) (h3 : k ≠ 3) :
 Calls Tryz.prog 110 #[.agg #[.int .i64 k, .slice a len cap, .int .i64 n, .int .i64 s]] w fun e w' => e = .returned (.bool (termOk k bs n s)) ∧ ∃ o1, w' = w.alloc o1 := by
 have e : termOk k bs n s = false := by simp [termOk, h0, h1, h2, h3]
 rw [e];have g0 : (k == 0) = false := by simp; omega
 have g1 : (k == 1) = false := by simp; omega
 have g2 : (k == 2) = false := by simp; omega
 have g3 : (k == 3) = false := by simp; omega
 clear h0 h1 h2 h3 e;go_in;go_wp2;go_ret;exact ⟨rfl, _, rfl⟩
set_option maxRecDepth 10000 in
theorem specTermOk_text (n s : Int) (a : Option Addr) (len cap : Nat) (bs : List Int) (w : World) (hB : Bs w a len bs) :
 Calls Tryz.prog 110 #[.agg #[.int .i64 2, .slice a len cap, .int .i64 n, .int .i64 s]] w fun e w' => e = .returned (.bool (termOk 2 bs n s)) ∧ ∃ o1, w' = w.alloc o1 := by
 obtain ⟨hl, h2, h3, h4⟩ := hB;have et : termOk 2 bs n s = (textOk bs && n == 0 && s == 0) := by simp [termOk]
 rw [et];clear h3 et;by_cases h30 : len ≤ 30 ∧ n = 0 ∧ s = 0
 · obtain ⟨h30, rfl, rfl⟩ := h30
   have eb : (textOk bs && (0 : Int) == 0 && (0 : Int) == 0) = textOk bs := by simp
   rw [eb];clear eb;rcases h4 with h4 | ⟨b, off, rfl, hlt, hc⟩
   · subst h4
     have e : textOk bs = true := by simp [textOk, List.eq_nil_of_length_eq_zero hl]
     rw [e];clear hl e;go_in;go_wp2;refine wl1 ?_;go_wp2;go_ret;exact ⟨rfl, _, rfl⟩
   have HL := iH hl;clear hl;go_in;go_wp2;go_loop [4] (fun i => ∃ k : Nat, k ≤ len ∧ i = .int .i64 k ∧ ∀ j : Nat, j < k → plainB (bs[j]?.getD 0) = true)
    (fun i => len - (intOf i).toNat)
   case atStart => exact ⟨0, nZ, rfl, by intro j hj; omega⟩
   obtain ⟨k, hk, rfl, hH⟩ := hrel;have HH := iH hH;have hcx := fun (h : k < len) => hc k h;clear hc hH;go_wp2
   · have hx : bs[k]?.getD 0 < 32 ∨ 126 < bs[k]?.getD 0 := by assumption
     go_ret;refine ⟨?_, _, rfl⟩;have e := all_not bs plainB k (by have := HL.o; omega) (by simp [plainB]; omega);simp [textOk, e]
   · have hx : 32 ≤ bs[k]?.getD 0 ∧ bs[k]?.getD 0 ≤ 126 := by assumption
     go_round
     case rel => exact ⟨k + 1, by omega, by go_num, fun j hj => by
      by_cases e : j = k
      · subst e; simp [plainB]; omega
      exact HH.o j (by omega)⟩
     case measure => simp [intOf]; omega
   · have hx : bs[k]?.getD 0 < 32 := by assumption
     go_ret;refine ⟨?_, _, rfl⟩;have e := all_not bs plainB k (by have := HL.o; omega) (by simp [plainB]; omega);simp [textOk, e]
   go_ret;refine ⟨?_, _, rfl⟩;have hl := HL.o;have e := all_of bs plainB (fun j hj => HH.o j (by omega));simp [textOk, e]; omega
 have e : (textOk bs && n == 0 && s == 0) = false := by
  rw [Bool.eq_false_iff];intro h;simp [textOk] at h;omega
 rw [e];clear e h4;by_cases g30 : len ≤ 30
 · by_cases gn : n = 0
   · have gs : (s != 0) = true := by simp; omega
     subst gn;clear h30;go_in;go_wp2;go_ret;exact ⟨rfl, _, rfl⟩
   have gn' : (n != 0) = true := by simp; omega
   clear h30 gn;go_in;go_wp2;go_ret;exact ⟨rfl, _, rfl⟩
 clear h30;go_in;go_wp2;go_ret;exact ⟨rfl, _, rfl⟩
set_option maxRecDepth 10000 in
theorem specTermOk_name (n s : Int) (a : Option Addr) (len cap : Nat) (bs : List Int) (w : World) (hB : Bs w a len bs) :
 Calls Tryz.prog 110 #[.agg #[.int .i64 0, .slice a len cap, .int .i64 n, .int .i64 s]] w fun e w' => e = .returned (.bool (termOk 0 bs n s)) ∧ ∃ o1, w' = w.alloc o1 := by
 obtain ⟨hl, h2, h3, h4⟩ := hB;have et : termOk 0 bs n s = (nameOk bs && n == 0 && s == 0) := by simp [termOk]
 rw [et];clear h3 et;by_cases h12 : 1 ≤ len ∧ len ≤ 12 ∧ n = 0 ∧ s = 0
 · obtain ⟨h1, h12, rfl, rfl⟩ := h12
   have eb : (nameOk bs && (0 : Int) == 0 && (0 : Int) == 0) = nameOk bs := by simp
   rw [eb];clear eb;obtain ⟨b, off, rfl, hlt, hc⟩ : ∃ b off, a = some ⟨b, off, none⟩ ∧ b < w.heap.size ∧ ∀ i, i < len → w.cell? ⟨b, off + i, none⟩ = some (.int .u8 (bs[i]?.getD 0)) := by
    rcases h4 with h4 | h4
    · omega
    exact h4
   clear h4;have HL := iH hl;clear hl;go_in;go_wp2;go_loop [3] (fun i => ∃ k : Nat, k ≤ len ∧ i = .int .i64 k ∧ ∀ j : Nat, j < k → (letter (bs[j]?.getD 0) || digit (bs[j]?.getD 0)) = true ∧ (j = 0 → 57 < bs[j]?.getD 0))
    (fun i => len - (intOf i).toNat)
   case atStart => exact ⟨0, nZ, rfl, by intro j hj; omega⟩
   obtain ⟨k, hk, rfl, hH⟩ := hrel;have HH := iH hH;have HC := hc;clear hc hH;by_cases hlt2 : k < len
   · have hcx := HC k hlt2
     clear HC;generalize hg : bs[k]?.getD 0 = x at hcx;have HG := iH hg;clear hg;have hkl : k < bs.length := by have := HL.o; omega
     by_cases hs : (letter x || digit x) = true
     · by_cases hk0 : k = 0
       · subst hk0
         simp only [Nat.add_zero] at hcx;by_cases h57 : x ≤ 57
         · have hd : decide (x ≤ 57) = true := by simpa using h57
           go_wp2_with (go_at_call 137; refine (small_any _ _).mono ?_; rintro e w2 ⟨rfl, rfl⟩)
           go_ret;refine ⟨?_, _, rfl⟩;have el : letter (bs[0]?.getD 0) = false := by rw [HG.o]; simp [letter]; omega
           simp [nameOk, el]
         have hd : decide (x ≤ 57) = false := by simpa using h57
         go_wp2_with (go_at_call 137; refine (small_any _ _).mono ?_; rintro e w2 ⟨rfl, rfl⟩)
         go_round
         case rel => exact ⟨1, by omega, by go_num, fun j hj => by
          obtain rfl : j = 0 := by omega
          rw [HG.o]; exact ⟨hs, fun _ => by omega⟩⟩
         case measure => simp [intOf]; omega
       have hk0' : ((k : Int) == 0) = false := by simp; omega
       go_wp2_with (go_at_call 137; refine (small_any _ _).mono ?_; rintro e w2 ⟨rfl, rfl⟩)
       go_round
       case rel => exact ⟨k + 1, by omega, by go_num, fun j hj => by
        by_cases e : j = k
        · subst e; rw [HG.o]; exact ⟨hs, fun h => absurd h hk0⟩
        exact HH.o j (by omega)⟩
       case measure => simp [intOf]; omega
     have hs' : (letter x || digit x) = false := by simpa using hs
     clear hs;go_wp2_with (go_at_call 137; refine (small_any _ _).mono ?_; rintro e w2 ⟨rfl, rfl⟩)
     go_ret;refine ⟨?_, _, rfl⟩;have e := all_not bs (fun b => letter b || digit b) k hkl (by show (letter _ || digit _) = false; rw [HG.o]; exact hs');simp [nameOk, e]
   clear HC;go_wp2;go_ret;refine ⟨?_, _, rfl⟩;have hl := HL.o;have e := all_of bs (fun b => letter b || digit b) (fun j hj => (HH.o j (by omega)).1);have hf : letter (bs[0]?.getD 0) = true := by
    have h := HH.o 0 (by omega);have h' := h.2 rfl;have h'' := h.1;simp [letter, digit] at h'' ⊢;omega
   simp only [nameOk, e, hf, hl];simp; omega
 have e : (nameOk bs && n == 0 && s == 0) = false := by
  rw [Bool.eq_false_iff];intro h;simp [nameOk] at h;omega
 rw [e];clear e h4;by_cases g1 : 1 ≤ len
 · by_cases g12 : len ≤ 12
   · by_cases gn : n = 0
     · have gs : (s != 0) = true := by simp; omega
       subst gn;clear h12;go_in;go_wp2;go_ret;exact ⟨rfl, _, rfl⟩
     have gn' : (n != 0) = true := by simp; omega
     clear h12 gn;go_in;go_wp2;go_ret;exact ⟨rfl, _, rfl⟩
   clear h12;go_in;go_wp2;go_ret;exact ⟨rfl, _, rfl⟩
 clear h12;go_in;go_wp2;go_ret;exact ⟨rfl, _, rfl⟩
theorem decimal_any (k n s : Int) (a : Option Addr) (len cap : Nat) (w : World) :
 Calls Tryz.prog 182 #[.agg #[.int .i64 k, .slice a len cap, .int .i64 n, .int .i64 s]] w fun e w' => e = .returned (.agg #[.int .i64 n, .int .i64 s]) ∧ ∃ o1 o2, w' = (w.alloc o1).alloc o2 := by
 go_in;go_wp2;simp [bodyPost, results, Tryz.results182, go_sem];exact ⟨_, _, rfl⟩
set_option maxRecDepth 10000 in
theorem implTermOk_any (k n s : Int) (a : Option Addr) (len cap : Nat) (bs : List Int) (w : World) (hB : Bs w a len bs) (h1 : -9223372036854775808 ≤ n) (h2 : n ≤ 9223372036854775807) (h3 : -9223372036854775808 ≤ s) (h4 : s ≤ 9223372036854775807) :
 Calls Tryz.prog 167 #[.agg #[.int .i64 k, .slice a len cap, .int .i64 n, .int .i64 s]] w fun e w' => e = .returned (.bool (termOk k bs n s)) ∧ Bl w w' := by
 have hB1 : ∀ o1, Bs (w.alloc o1) a len bs := fun o1 => hB.below (bl_alloc brf _);have HL := iH hB.1;have hlm := hB.2.1;clear hB;by_cases k0 : k = 0
 · subst k0
   generalize hg : termOk 0 bs n s = r;have HG := iH hg;clear hg;go_in;go_wp2_with (go_at_call 152; refine (isName_any a len cap bs _ (hB1 _)).mono ?_; rintro e w1 ⟨rfl, rfl⟩)
   all_goals go_ret
   all_goals (refine ⟨congrArg (fun b => Ending.returned (Value.bool b)) ?_, bl_alloc brf _⟩; rw [← HG.o]; clear HG; go_light; simp_all [termOk])
 by_cases k1 : k = 1
 · subst k1
   generalize hg : termOk 1 bs n s = r;have HG := iH hg;clear hg;go_in;go_wp2_with (go_at_call 150; refine (within_any _ _ _ _).mono ?_; rintro e w1 ⟨rfl, rfl⟩)
   all_goals go_ret
   all_goals (refine ⟨congrArg (fun b => Ending.returned (Value.bool b)) ?_, bl_alloc brf _⟩; have hg := HG.o; have hl := HL.o; rw [← hg, Bool.eq_iff_iff]; go_light; simp [termOk, -List.length_eq_zero_iff]; try omega)
 by_cases k2 : k = 2
 · subst k2
   generalize hg : termOk 2 bs n s = r;have HG := iH hg;clear hg;go_in;go_wp2_with (go_at_call 181; refine (isText_any a len cap bs _ (hB1 _)).mono ?_; rintro e w1 ⟨rfl, rfl⟩)
   all_goals go_ret
   all_goals (refine ⟨congrArg (fun b => Ending.returned (Value.bool b)) ?_, bl_alloc brf _⟩; rw [← HG.o]; clear HG; go_light; simp_all [termOk])
 by_cases k3 : k = 3
 · subst k3
   generalize hg : termOk 3 bs n s = r;have HG := iH hg;clear hg;by_cases hl0 : len = 0
   · subst hl0
     go_in;go_wp2_with (first | (go_at_call 182; refine (decimal_any _ _ _ _ _ _ _).mono ?_; rintro e w1 ⟨rfl, o1, o2, rfl⟩) | (go_at_call 183; refine (decOk_any _ _ _ h1 h2 h3 h4).mono ?_; rintro e w2 ⟨rfl, o3, rfl⟩))
     go_ret;refine ⟨congrArg (fun b => Ending.returned (Value.bool b)) ?_, ?_⟩
     · have hg := HG.o
       have hl := HL.o;rw [← hg];simp [termOk, hl]
     repeat (first | with_reducible exact Below.refl _ _ | with_reducible apply bl_alloc | with_reducible apply Below.drew)
   have hl0' : ((len : Int) == 0) = false := by simp; omega
   go_in;go_wp2;go_ret;refine ⟨congrArg (fun b => Ending.returned (Value.bool b)) ?_, ?_⟩
   · have hg := HG.o
     have hl := HL.o;have hz : (bs.length == 0) = false := by simp only [beq_eq_false_iff_ne, ne_eq]; omega
     rw [← hg];simp [termOk, hz, -List.length_eq_zero_iff, -beq_eq_false_iff_ne]
   repeat (first | with_reducible exact Below.refl _ _ | with_reducible apply bl_alloc | with_reducible apply Below.drew)
 have e : termOk k bs n s = false := by simp [termOk, k0, k1, k2, k3]
 rw [e];have g0 : (k == 0) = false := by simp; omega
 have g1 : (k == 1) = false := by simp; omega
 have g2 : (k == 2) = false := by simp; omega
 have g3 : (k == 3) = false := by simp; omega
 clear k0 k1 k2 k3 e;go_in;go_wp2;go_ret;exact ⟨rfl, bl_alloc brf _⟩
theorem specTermOk_any (k n s : Int) (a : Option Addr) (len cap : Nat) (bs : List Int) (w : World) (hB : Bs w a len bs) (h1 : -9223372036854775808 ≤ n) (h2 : n ≤ 9223372036854775807) :
 Calls Tryz.prog 110 #[.agg #[.int .i64 k, .slice a len cap, .int .i64 n, .int .i64 s]] w fun e w' => e = .returned (.bool (termOk k bs n s)) ∧ ∃ o1, w' = w.alloc o1 := by
 by_cases k0 : k = 0
 · subst k0; exact specTermOk_name n s a len cap bs w hB
 by_cases k1 : k = 1
 · subst k1; exact specTermOk_blank n s a len cap bs w hB
 by_cases k2 : k = 2
 · subst k2; exact specTermOk_text n s a len cap bs w hB
 by_cases k3 : k = 3
 · subst k3; exact specTermOk_number n s a len cap bs w hB h1 h2
 exact specTermOk_other k n s a len cap bs w k0 k1 k2 k3
def At4 (w : World) (b : Nat) (v0 v1 v2 v3 : Value) : Prop :=
 b < w.heap.size ∧ w.cell? ⟨b, 0, none⟩ = some v0 ∧ w.cell? ⟨b, 1, none⟩ = some v1 ∧ w.cell? ⟨b, 2, none⟩ = some v2 ∧ w.cell? ⟨b, 3, none⟩ = some v3
theorem At4.below {v0 v1 v2 v3 : Value} (h : At4 w b v0 v1 v2 v3) (hb : Bl w w') : At4 w' b v0 v1 v2 v3 := by
 obtain ⟨hl, h0, h1, h2, h3⟩ := h;refine ⟨Nat.lt_of_lt_of_le hl hb.size, ?_, ?_, ?_, ?_⟩
 · exact (hb.cell (p := ⟨b, 0, none⟩) hl).trans h0
 · exact (hb.cell (p := ⟨b, 1, none⟩) hl).trans h1
 · exact (hb.cell (p := ⟨b, 2, none⟩) hl).trans h2
 exact (hb.cell (p := ⟨b, 3, none⟩) hl).trans h3
theorem At4.new (w : World) (v0 v1 v2 v3 : Value) (t : TypeId) : At4 (w.alloc (.cells #[v0, v1, v2, v3] t)) w.heap.size v0 v1 v2 v3 := by
 refine ⟨by simp, ?_, ?_, ?_, ?_⟩ <;> simp [go_sem]
theorem bl_a (o : Obj) : Bl w (w.alloc o) := bl_alloc brf o
def p10 : Nat → Int
 | 0 => 1
 | k + 1 => p10 k * 10
structure TD where
 k : Int
 bs : List Int
 n : Int
 s : Int
def TD.ok (x : TD) : Bool := termOk x.k x.bs x.n x.s
def numsOf (s : ByteArray) : List Int := s.data.toList.map (fun b => (b.toNat : Int))
def Byt (l : List Int) : Prop := ∀ x ∈ l, 0 ≤ x ∧ x ≤ 255
theorem Byt.get {l : List Int} (h : Byt l) (i : Nat) : 0 ≤ l[i]?.getD 0 ∧ l[i]?.getD 0 ≤ 255 := by
 by_cases hi : i < l.length
 · rw [List.getElem?_eq_getElem hi]
   exact h _ (List.getElem_mem hi)
 rw [List.getElem?_eq_none (by omega)];simp
theorem Byt.of {l : List Int} (h : ∀ i : Nat, 0 ≤ l[i]?.getD 0 ∧ l[i]?.getD 0 ≤ 255) : Byt l := by
 intro x hx;obtain ⟨i, hi, rfl⟩ := List.getElem_of_mem hx;have := h i;rwa [List.getElem?_eq_getElem hi] at this
theorem Bs.byt {bs : List Int} (h : Bs w a len bs) : Byt bs := Byt.of h.2.2.1
theorem numsOf_nums {bs : List Int} (h : Byt bs) : numsOf (strOfNums bs) = bs := by
 unfold numsOf;rw [strOfNums_data, List.map_map];have : ∀ x ∈ bs, ((fun b : UInt8 => (b.toNat : Int)) ∘ fun n : Int => UInt8.ofNat n.toNat) x = x := by
  intro x hx;obtain ⟨h0, h1⟩ := h x hx;simp;omega
 rw [List.map_congr_left this, List.map_id']
theorem Bs.str {cap : Nat} {bs : List Int} (h : Bs w a len bs) : (convert 23 9 (.slice a len cap)).run Tryz.prog w = .ok (.string (strOfNums bs)) w := by
 obtain ⟨hl, _, _, h4⟩ := h;rcases h4 with h4 | ⟨b, off, rfl, _, hc⟩
 · subst h4
   have e := List.eq_nil_of_length_eq_zero hl;subst e;cases a with
   | none =>
    rw [run_convert_bytes_nil w 23 5 Tryz.underlying23 Tryz.underlying5 0 cap 9 Tryz.underlying9];rfl
   | some x =>
    have hl : (loadCells x 0).run Tryz.prog w = .ok (([] : List Int).map (Value.int .u8)).toArray w := rfl;rw [run_convert_bytes_string w 23 9 5 _ 0 cap Tryz.underlying23 Tryz.underlying5 Tryz.underlying9, run_bytesToString w _ 0 cap [] hl];rfl
 exact run_convert_bytes_arg w 23 5 Tryz.underlying23 Tryz.underlying5 b off len cap bs hl (fun i hi => by rw [hc i hi, List.getD_eq_getElem?_getD]) 9 Tryz.underlying9
open Go.ChangeShapes Go.WideShapes Go.ChangeAt Go.RowKit Go.Joins
theorem own : ownKnob Tryz.prog.godebug = none := by kernel_rfl
theorem laidOut : laidOutB Tryz.prog = true := by kernel_rfl
theorem Tryz.cells25 : Tryz.prog.cellsOf 25 = 4 := by kernel_rfl
theorem Tryz.cells5 : Tryz.prog.cellsOf 5 = 1 := by kernel_rfl
theorem cell_lt {a : Addr} (h : w.cell? a = some v) : a.block < w.heap.size := by
 apply Classical.byContradiction;intro hn;have e : w.heap[a.block]? = none := by simp; omega
 simp [World.cell?, e] at h
theorem Bs.of_cells {x : Addr} {l c : Nat} {zs : List Int} (hl : l ≤ c) (hz : zs.length = c) (h20 : l ≤ 1048576)
 (hcell : ∀ i, i < zs.length → W.cell? (x.add i) = some (.int .u8 (zs.getD i 0))) (hwz : ∀ n ∈ zs, (Lit.int .u8 n).wf = true) : Bs W (some x) l (zs.take l) := by
 refine ⟨by simp; omega, h20, fun i => ?_, ?_⟩
 · by_cases hi : i < (zs.take l).length
   · have hm := List.mem_of_mem_take (List.getElem_mem hi)
     have := bounds_u8 (hwz _ hm);rw [List.getElem?_eq_getElem hi];exact this
   rw [List.getElem?_eq_none (by omega)];simp
 by_cases h0 : l = 0
 · exact .inl h0
 right;obtain ⟨b, off, spot⟩ := x;have hc0 := hcell 0 (by omega);have hspot : spot = none := by simpa [Addr.add] using World.cell?_spot hc0
 subst hspot;refine ⟨b, off, rfl, by simpa [Addr.add] using cell_lt hc0, fun i hi => ?_⟩
 have h := hcell i (by omega);have ea : (⟨b, off, none⟩ : Addr).add i = ⟨b, off + i, none⟩ := by
  by_cases h0 : i = 0 <;> simp [Addr.add, h0]
 rw [ea] at h;rw [h, List.getElem?_take, if_pos hi, List.getD_eq_getElem?_getD]
structure But (g : Nat) (w w' : World) : Prop where
 os : w'.os = w.os
 tape : w'.tape = w.tape
 output : w'.output = w.output
 size : w'.heap.size = w.heap.size
 block : ∀ b, b ≠ g → w'.heap[b]? = w.heap[b]?
theorem But.refl (g : Nat) (w : World) : But g w w := ⟨rfl, rfl, rfl, rfl, fun _ _ => rfl⟩
theorem But.set (h : But g w w') (i : Nat) (v : Value) : But g w (w'.setCell ⟨g, i, none⟩ v) :=
 ⟨h.os, h.tape, h.output, by simpa using h.size, fun b hb => (Below.heap_setCell _ _ _ _ hb).trans (h.block b hb)⟩
theorem But.cell (h : But g w w') {p : Addr} (hp : p.block ≠ g) : w'.cell? p = w.cell? p := World.cell?_of_block (w := w) (h.block p.block hp)
theorem But.below (h : But g w w') (hg : B ≤ g) : Below B w w' :=
 ⟨h.os, h.tape, h.output, by rw [h.size]; exact nR, fun b hb => h.block b (by omega)⟩
theorem set_same {u : Value} (h : w.cell? ⟨g, i, none⟩ = some u) : (w.setCell ⟨g, i, none⟩ v).cell? ⟨g, i, none⟩ = some v := by
 simp [go_sem, h]
theorem set_other (h : i ≠ j) : (w.setCell ⟨g, j, none⟩ v).cell? ⟨g, i, none⟩ = w.cell? ⟨g, i, none⟩ := by
 simp [go_sem]
theorem toTerm_own (k n s : Int) (a : Option Addr) (len cap : Nat) (bs : List Int) (w : World) (hB : Bs w a len bs) :
 Calls Tryz.prog 80 #[.agg #[.int .i64 k, .slice a len cap, .int .i64 n, .int .i64 s]] w fun e w' =>
  e = .returned (.agg #[.int .i64 k, .slice (some ⟨w.heap.size + 1 + 1 + 1, 0, none⟩) len len, .int .i64 n, .int .i64 s]) ∧ ∃ o1 o2 o3, w' = (((w.alloc o1).alloc o2).alloc o3).alloc (.cells (cellsOf bs) 5) := by
 have hB3 : ∀ o1 o2 o3, Bs (((w.alloc o1).alloc o2).alloc o3) a len bs := fun o1 o2 o3 => hB.below (bl_alloc (bl_alloc (bl_alloc brf _) _) _);clear hB;go_in;go_wp2_with (go_at_call 33; refine (toByteS_any a len cap bs _ (hB3 _ _ _)).mono ?_; rintro e w1 ⟨rfl, rfl⟩)
 simp [bodyPost, results, Tryz.results80, go_sem];exact ⟨_, _, _, rfl⟩
def OwnT (w : World) (g len : Nat) (bs : List Int) : Prop :=
 Bs w (some ⟨g, 0, none⟩) len bs ∧ g < w.heap.size ∧ (∀ i, i < len → ∃ v, w.cell? ⟨g, i, none⟩ = some (.int .u8 v)) ∧ (∀ i, i < len → w.frozen? ⟨g, i, none⟩ = false)
theorem toTerm_out (k n s : Int) (a : Option Addr) (len cap : Nat) (bs : List Int) (w : World) (hB : Bs w a len bs) :
 Calls Tryz.prog 80 #[.agg #[.int .i64 k, .slice a len cap, .int .i64 n, .int .i64 s]] w fun e w' =>
  e = .returned (.agg #[.int .i64 k, .slice (some ⟨w.heap.size + 1 + 1 + 1, 0, none⟩) len len, .int .i64 n, .int .i64 s]) ∧ ∃ o1 o2 o3, OwnT w' (w.heap.size + 1 + 1 + 1) len bs ∧ w' = (((w.alloc o1).alloc o2).alloc o3).alloc (.cells (cellsOf bs) 5) := by
 refine (toTerm_own k n s a len cap bs w hB).mono ?_;obtain ⟨hl, h2, h3, _⟩ := hB;rintro e w' ⟨rfl, o1, o2, o3, rfl⟩;refine ⟨rfl, o1, o2, o3, ⟨?_, by simp, fun i hi => ?_, fun i hi => ?_⟩, rfl⟩
 · have := Bs.made (((w.alloc o1).alloc o2).alloc o3) bs len hl h2 h3
   simpa using this
 · have hi' : i < bs.length := by omega
   exact ⟨bs[i], by simp [go_sem, cellsOf, hi']⟩
 have hi' : i < bs.length := by omega
 simp [go_sem, cellsOf]
theorem toTerm_new (k n s : Int) (a : Option Addr) (len cap : Nat) (bs : List Int) (w : World) (hB : Bs w a len bs) :
 Calls Tryz.prog 80 #[.agg #[.int .i64 k, .slice a len cap, .int .i64 n, .int .i64 s]] w fun e w' =>
  ∃ g, e = .returned (.agg #[.int .i64 k, .slice (some ⟨g, 0, none⟩) len len, .int .i64 n, .int .i64 s]) ∧ OwnT w' g len bs ∧ w.heap.size ≤ g ∧ Bl w w' := by
 refine (toTerm_out k n s a len cap bs w hB).mono ?_;rintro e w' ⟨rfl, o1, o2, o3, hO, rfl⟩;exact ⟨_, rfl, hO, by omega, bl_alloc (bl_alloc (bl_alloc (bl_a _) _) _) _⟩
structure Tm where
 k : Int
 a : Option Addr
 len : Nat
 cap : Nat
 n : Int
 s : Int
def Tm.fits (t : Tm) : Prop := -9223372036854775808 ≤ t.n ∧ t.n ≤ 9223372036854775807 ∧ -9223372036854775808 ≤ t.s ∧ t.s ≤ 9223372036854775807
theorem isSubject_any (t : Tm) (bt : List Int) (w : World) (ft : t.fits) (hT : Bs w t.a t.len bt) :
 Calls Tryz.prog 165 #[.agg #[.int .i64 t.k, .slice t.a t.len t.cap, .int .i64 t.n, .int .i64 t.s]] w fun e w' => e = .returned (.bool (termOk t.k bt t.n t.s && decide (t.k ≤ 1))) ∧ Bl w w' := by
 have O1 := fun w h => implTermOk_any t.k t.n t.s t.a t.len t.cap bt w h ft.1 ft.2.1 ft.2.2.1 ft.2.2.2;clear ft;cases e1 : termOk t.k bt t.n t.s
 · rw [e1] at O1
   clear e1;go_in;go_wp2_with fail
   refine (O1 _ (hT.below (bl_a _))).mono ?_;rintro e w1 ⟨rfl, hb1⟩;go_wp2;go_ret;exact ⟨rfl, bl_trans (bl_a _) hb1⟩
 have hk : 0 ≤ t.k := by
  unfold termOk at e1;split at e1
  · omega
  split at e1
  · omega
  split at e1
  · omega
  split at e1
  · omega
  cases e1
 rw [e1] at O1;clear e1;simp only [Bool.true_and];cases c0 : (t.k == 0)
 · have er : Hd (decide (t.k ≤ 1) = (t.k == 1)) := by
    show _ = _;have : t.k ≠ 0 := by simpa using c0
    by_cases c1 : t.k = 1
    · simp [c1]
    have : ¬ t.k ≤ 1 := by omega
    simp [c1, this]
   go_in;go_wp2_with fail
   refine (O1 _ (hT.below (bl_a _))).mono ?_;rintro e w1 ⟨rfl, hb1⟩;have hA := (At4.new w _ _ _ _ _).below hb1;obtain ⟨x0, x1, x2, x3, x4⟩ := id hA;go_wp2;go_ret;exact ⟨by rw [er.o]; rfl, bl_trans (bl_a _) hb1⟩
 have er : Hd (decide (t.k ≤ 1) = true) := by
  show _ = _;have : t.k = 0 := by simpa using c0
  simp [this]
 go_in;go_wp2_with fail
 refine (O1 _ (hT.below (bl_a _))).mono ?_;rintro e w1 ⟨rfl, hb1⟩;have hA := (At4.new w _ _ _ _ _).below hb1;obtain ⟨x0, x1, x2, x3, x4⟩ := id hA;go_wp2;go_ret;exact ⟨by rw [er.o]; rfl, bl_trans (bl_a _) hb1⟩
theorem isProperty_any (t : Tm) (bt : List Int) (w : World) (ft : t.fits) (hT : Bs w t.a t.len bt) :
 Calls Tryz.prog 166 #[.agg #[.int .i64 t.k, .slice t.a t.len t.cap, .int .i64 t.n, .int .i64 t.s]] w fun e w' => e = .returned (.bool (termOk t.k bt t.n t.s && (t.k == 0))) ∧ Bl w w' := by
 have O1 := fun w h => implTermOk_any t.k t.n t.s t.a t.len t.cap bt w h ft.1 ft.2.1 ft.2.2.1 ft.2.2.2;clear ft;cases e1 : termOk t.k bt t.n t.s
 · rw [e1] at O1
   clear e1;go_in;go_wp2_with fail
   refine (O1 _ (hT.below (bl_a _))).mono ?_;rintro e w1 ⟨rfl, hb1⟩;go_wp2;go_ret;exact ⟨rfl, bl_trans (bl_a _) hb1⟩
 rw [e1] at O1;clear e1;simp only [Bool.true_and];go_in;go_wp2_with fail
 refine (O1 _ (hT.below (bl_a _))).mono ?_;rintro e w1 ⟨rfl, hb1⟩;have hA := (At4.new w _ _ _ _ _).below hb1;obtain ⟨x0, x1, x2, x3, x4⟩ := id hA;go_wp2;go_ret;exact ⟨rfl, bl_trans (bl_a _) hb1⟩
set_option maxRecDepth 100000
structure TB where
 t : Tm
 b : List Int
def TB.td (x : TB) : TD := ⟨x.t.k, x.b, x.t.n, x.t.s⟩
def enc4 (t : Tm) : List Value := [.int .i64 t.k, .slice t.a t.len t.cap, .int .i64 t.n, .int .i64 t.s]
def flat4 (l : List TB) : List Value := l.flatMap fun x => enc4 x.t
theorem flat4_len (l : List TB) : (flat4 l).length = l.length * 4 := by
 induction l with
 | nil => rfl
 | cons x l ih => simp only [flat4, List.flatMap_cons, List.length_append] at *; rw [ih]; simp [enc4]; omega
theorem flat4_get (l : List TB) (i c : Nat) (hi : i < l.length) (hc : c < 4) : (flat4 l)[i * 4 + c]? = (enc4 l[i].t)[c]? := by
 induction l generalizing i with
 | nil => cases hi
 | cons x l ih =>
  have e : flat4 (x :: l) = enc4 x.t ++ flat4 l := rfl;rw [e];cases i with
  | zero => rw [List.getElem?_append_left (by simp [enc4]; omega)]; simp
  | succ i =>
   rw [List.getElem?_append_right (by simp [enc4]; omega)];have : (i + 1) * 4 + c - (enc4 x.t).length = i * 4 + c := by simp [enc4]; omega
   rw [this, ih i (by simpa using hi)];rfl
def TRow (w : World) (a : Option Addr) (l : List TB) : Prop := l = [] ∨ ∃ b off, a = some ⟨b, off, none⟩ ∧ b < w.heap.size ∧ ∀ j u, (flat4 l)[j]? = some u → w.cell? ⟨b, off + j, none⟩ = some u
theorem TRow.below {l : List TB} (h : TRow w a l) (hb : Bl w w') : TRow w' a l := by
 rcases h with h | ⟨b, off, ha, hl, hc⟩
 · exact .inl h
 exact .inr ⟨b, off, ha, Nat.lt_of_lt_of_le hl hb.size, fun j u hu => (hb.cell (p := ⟨b, off + j, none⟩) hl).trans (hc j u hu)⟩
theorem TRow.at {off : Nat} {l : List TB} (hc : ∀ j u, (flat4 l)[j]? = some u → w.cell? ⟨b, off + j, none⟩ = some u) (i : Nat) (hi : i < l.length) :
 w.cell? ⟨b, off + i * 4, none⟩ = some (.int .i64 l[i].t.k) ∧ w.cell? ⟨b, off + i * 4 + 1, none⟩ = some (.slice l[i].t.a l[i].t.len l[i].t.cap) ∧ w.cell? ⟨b, off + i * 4 + 2, none⟩ = some (.int .i64 l[i].t.n) ∧ w.cell? ⟨b, off + i * 4 + 3, none⟩ = some (.int .i64 l[i].t.s) := by
 refine ⟨hc (i * 4 + 0) _ ?_, ?_, ?_, ?_⟩
 · rw [flat4_get l i 0 hi (by omega)]; rfl
 · rw [Nat.add_assoc]; exact hc _ _ (by rw [flat4_get l i 1 hi (by omega)]; rfl)
 · rw [Nat.add_assoc]; exact hc _ _ (by rw [flat4_get l i 2 hi (by omega)]; rfl)
 rw [Nat.add_assoc]; exact hc _ _ (by rw [flat4_get l i 3 hi (by omega)]; rfl)
theorem Tryz.info35 : (Tryz.prog.info? 35).map (fun i => (i.zero, i.size, i.bytes)) = some (some (.agg #[.int .i64 0, .slice none 0 0, .int .i64 0, .int .i64 0]), 4, 48) := by kernel_rfl
structure SL where
 a : Option Addr
 len : Nat
 cap : Nat
 b : List Int
structure Upper (B : Nat) (w w' : World) : Prop where
 size : w.heap.size ≤ w'.heap.size
 block : ∀ b, B ≤ b → b < w.heap.size → w'.heap[b]? = w.heap[b]?
theorem Upper.cell (h : Upper B w w') {o : Nat} (h1 : B ≤ b) (h2 : b < w.heap.size) : w'.cell? ⟨b, o, none⟩ = w.cell? ⟨b, o, none⟩ := World.cell?_of_block (w := w) (a := ⟨b, o, none⟩) (h.block b h1 h2)
theorem Upper.of_below (h : Bl w w') : Upper B w w' := ⟨h.size, fun b _ hb => h.block b hb⟩
theorem uB (h : Below w.heap.size w w') : Upper B w w' := Upper.of_below h
def BsF (B : Nat) (w : World) (x : SL) : Prop := Bs w x.a x.len x.b ∧ (x.len = 0 ∨ ∀ p, x.a = some p → B ≤ p.block)
theorem BsF.upper {x : SL} (h : BsF B w x) (hu : Upper B w w') : BsF B w' x := by
 obtain ⟨⟨h1, h2, h3, h4⟩, h5⟩ := h;refine ⟨⟨h1, h2, h3, ?_⟩, h5⟩;rcases h4 with h4 | ⟨b, off, ha, hlt, hc⟩
 · exact .inl h4
 by_cases h0 : x.len = 0
 · exact .inl h0
 have hB := (h5.resolve_left h0) _ ha;exact .inr ⟨b, off, ha, Nat.lt_of_lt_of_le hlt hu.size, fun i hi => (hu.cell hB hlt).trans (hc i hi)⟩
theorem BsF.base {x : SL} (h : BsF B w x) (hB : B' ≤ B) : BsF B' w x := ⟨h.1, h.2.imp id fun h p hp => Nat.le_trans hB (h p hp)⟩
def TB.sl (x : TB) : SL := ⟨x.t.a, x.t.len, x.t.cap, x.b⟩
def KRow (B : Nat) (w : World) (sz : Nat) (a : Option Addr) (n : Nat) (C : Nat → List Value) : Prop :=
 n = 0 ∨ ∃ b off, a = some ⟨b, off, none⟩ ∧ B ≤ b ∧ b < w.heap.size ∧ ∀ i, i < n → ∀ c u, (C i)[c]? = some u → w.cell? ⟨b, off + i * sz + c, none⟩ = some u
theorem KRow.upper {C : Nat → List Value} (h : KRow B w sz a n C) (hu : Upper B w w') : KRow B w' sz a n C := by
 rcases h with h | ⟨b, off, ha, hB, hlt, hc⟩
 · exact .inl h
 exact .inr ⟨b, off, ha, hB, Nat.lt_of_lt_of_le hlt hu.size, fun i hi c u hcu => (hu.cell hB hlt).trans (hc i hi c u hcu)⟩
theorem KRow.base {C : Nat → List Value} (h : KRow B w sz a n C) (hB : B' ≤ B) : KRow B' w sz a n C := by
 rcases h with h | ⟨b, off, ha, hB', h⟩
 · exact .inl h
 exact .inr ⟨b, off, ha, Nat.le_trans hB hB', h⟩
def Cm (w : World) (x : SL) : Prop := x.len ≤ 9223372036854775807 ∧ (x.len ≤ 1048576 → Bs w x.a x.len x.b)
theorem Cm.below {x : SL} (h : Cm w x) (hb : Bl w w') : Cm w' x := ⟨h.1, fun hs => (h.2 hs).below hb⟩
theorem Cm.bs {x : SL} (h : Cm w x) (hs : x.len ≤ 1048576) : BsF 0 w x := ⟨h.2 hs, .inr fun _ _ => nZ⟩
structure IB where
 v : SL
 t : TB
def IB.cells (x : IB) : List Value := [.slice x.v.a x.v.len x.v.cap, .int .i64 x.t.t.k, .slice x.t.t.a x.t.t.len x.t.t.cap, .int .i64 x.t.t.n, .int .i64 x.t.t.s]
abbrev IB.cl (d : IB) : List Value := [.slice d.v.a d.v.len d.v.cap, .int .i64 d.t.t.k, .slice d.t.t.a d.t.t.len d.t.t.cap, .int .i64 d.t.t.n, .int .i64 d.t.t.s]
abbrev IB.ar (d : IB) : Array Value := d.cl.toArray
def IB.lies (B : Nat) (w : World) (x : IB) : Prop := BsF B w x.v ∧ BsF B w x.t.sl ∧ x.t.t.fits
def IB.came (w : World) (x : IB) : Prop := Cm w x.v ∧ Cm w x.t.sl ∧ x.t.t.fits
def IB.small (x : IB) : Prop := x.v.len ≤ 1048576 ∧ x.t.t.len ≤ 1048576
def IB.same (x y : IB) : Prop := x.v.b = y.v.b ∧ x.t.td = y.t.td
theorem IB.lies.upper {x : IB} (h : x.lies B w) (hu : Upper B w w') : x.lies B w' := ⟨h.1.upper hu, h.2.1.upper hu, h.2.2⟩
theorem IB.lies.base {x : IB} (h : x.lies B w) (hB : B' ≤ B) : x.lies B' w := ⟨h.1.base hB, h.2.1.base hB, h.2.2⟩
theorem IB.came.below {x : IB} (h : x.came w) (hb : Bl w w') : x.came w' := ⟨h.1.below hb, h.2.1.below hb, h.2.2⟩
theorem IB.came.lies {x : IB} (h : x.came w) (hs : x.small) : x.lies 0 w := ⟨h.1.bs hs.1, h.2.1.bs hs.2, h.2.2⟩
structure PB where
 s : IB
 p : IB
 o : IB
def PB.cells (x : PB) : List Value := [.slice x.s.v.a x.s.v.len x.s.v.cap, .int .i64 x.s.t.t.k, .slice x.s.t.t.a x.s.t.t.len x.s.t.t.cap, .int .i64 x.s.t.t.n, .int .i64 x.s.t.t.s,
 .slice x.p.v.a x.p.v.len x.p.v.cap, .int .i64 x.p.t.t.k, .slice x.p.t.t.a x.p.t.t.len x.p.t.t.cap, .int .i64 x.p.t.t.n, .int .i64 x.p.t.t.s,
 .slice x.o.v.a x.o.v.len x.o.v.cap, .int .i64 x.o.t.t.k, .slice x.o.t.t.a x.o.t.t.len x.o.t.t.cap, .int .i64 x.o.t.t.n, .int .i64 x.o.t.t.s]
abbrev PB.cl (d : PB) : List Value := [.slice d.s.v.a d.s.v.len d.s.v.cap, .int .i64 d.s.t.t.k, .slice d.s.t.t.a d.s.t.t.len d.s.t.t.cap, .int .i64 d.s.t.t.n, .int .i64 d.s.t.t.s, .slice d.p.v.a d.p.v.len d.p.v.cap, .int .i64 d.p.t.t.k, .slice d.p.t.t.a d.p.t.t.len d.p.t.t.cap, .int .i64 d.p.t.t.n, .int .i64 d.p.t.t.s, .slice d.o.v.a d.o.v.len d.o.v.cap, .int .i64 d.o.t.t.k, .slice d.o.t.t.a d.o.t.t.len d.o.t.t.cap, .int .i64 d.o.t.t.n, .int .i64 d.o.t.t.s]
abbrev PB.ar (d : PB) : Array Value := d.cl.toArray
def PB.lies (B : Nat) (w : World) (x : PB) : Prop := x.s.lies B w ∧ x.p.lies B w ∧ x.o.lies B w
def PB.came (w : World) (x : PB) : Prop := x.s.came w ∧ x.p.came w ∧ x.o.came w
def PB.small (x : PB) : Prop := x.s.small ∧ x.p.small ∧ x.o.small
def PB.same (x y : PB) : Prop := x.s.same y.s ∧ x.p.same y.p ∧ x.o.same y.o
theorem PB.lies.upper {x : PB} (h : x.lies B w) (hu : Upper B w w') : x.lies B w' := ⟨h.1.upper hu, h.2.1.upper hu, h.2.2.upper hu⟩
theorem PB.lies.base {x : PB} (h : x.lies B w) (hB : B' ≤ B) : x.lies B' w := ⟨h.1.base hB, h.2.1.base hB, h.2.2.base hB⟩
theorem PB.came.below {x : PB} (h : x.came w) (hb : Bl w w') : x.came w' := ⟨h.1.below hb, h.2.1.below hb, h.2.2.below hb⟩
theorem PB.came.lies {x : PB} (h : x.came w) (hs : x.small) : x.lies 0 w := ⟨IB.came.lies h.1 hs.1, IB.came.lies h.2.1 hs.2.1, IB.came.lies h.2.2 hs.2.2⟩
structure EN where
 k : Int
 op : Int
 v : SL
 t : TB
 ka : Option Addr
 kc : Nat
 n : Nat
def EN.cells (d : EN) : List Value := [.int .i64 d.k, .int .i64 d.op, .slice d.v.a d.v.len d.v.cap, .int .i64 d.t.t.k, .slice d.t.t.a d.t.t.len d.t.t.cap, .int .i64 d.t.t.n, .int .i64 d.t.t.s, .slice d.ka d.n d.kc]
abbrev EN.cl (d : EN) : List Value := [.int .i64 d.k, .int .i64 d.op, .slice d.v.a d.v.len d.v.cap, .int .i64 d.t.t.k, .slice d.t.t.a d.t.t.len d.t.t.cap, .int .i64 d.t.t.n, .int .i64 d.t.t.s, .slice d.ka d.n d.kc]
abbrev EN.ar (d : EN) : Array Value := d.cl.toArray
abbrev EN.ck (d : EN) (k : Int) : List Value := [.int .i64 k, .int .i64 d.op, .slice d.v.a d.v.len d.v.cap, .int .i64 d.t.t.k, .slice d.t.t.a d.t.t.len d.t.t.cap, .int .i64 d.t.t.n, .int .i64 d.t.t.s, .slice d.ka d.n d.kc]
abbrev EN.ca (d : EN) (k : Int) : Array Value := (d.ck k).toArray
abbrev eL (k o : Int) (v : SL) (t : TB) (s : Value) : List Value := [.int .i64 k, .int .i64 o, .slice v.a v.len v.cap, .int .i64 t.t.k, .slice t.t.a t.t.len t.t.cap, .int .i64 t.t.n, .int .i64 t.t.s, s]
abbrev eA (k o : Int) (v : SL) (t : TB) (s : Value) : Array Value := (eL k o v t s).toArray
abbrev pL (s p o : IB) : List Value := [.slice s.v.a s.v.len s.v.cap, .int .i64 s.t.t.k, .slice s.t.t.a s.t.t.len s.t.t.cap, .int .i64 s.t.t.n, .int .i64 s.t.t.s, .slice p.v.a p.v.len p.v.cap, .int .i64 p.t.t.k, .slice p.t.t.a p.t.t.len p.t.t.cap, .int .i64 p.t.t.n, .int .i64 p.t.t.s, .slice o.v.a o.v.len o.v.cap, .int .i64 o.t.t.k, .slice o.t.t.a o.t.t.len o.t.t.cap, .int .i64 o.t.t.n, .int .i64 o.t.t.s]
abbrev pA (s p o : IB) : Array Value := (pL s p o).toArray
def EN0 : EN := ⟨0, 0, ⟨none, 0, 0, []⟩, ⟨⟨0, none, 0, 0, 0, 0⟩, []⟩, none, 0, 0⟩
inductive ET where
 | nil
 | mk (d : EN) (kid : Nat → ET)
def ET.d : ET → EN
 | .nil => EN0
 | .mk d _ => d
def ET.kid : ET → Nat → ET
 | .nil => fun _ => .nil
 | .mk _ f => f
def ET.lies (B : Nat) (w : World) : ET → Prop
 | .nil => False
 | .mk d kid => BsF B w d.v ∧ BsF B w d.t.sl ∧ d.t.t.fits ∧ d.n ≤ 1048576 ∧ KRow B w 8 d.ka d.n (fun i => (kid i).d.cells) ∧ ∀ i, i < d.n → (kid i).lies B w
def ET.came (w : World) : ET → Prop
 | .nil => False
 | .mk d kid => Cm w d.v ∧ Cm w d.t.sl ∧ d.t.t.fits ∧ d.n ≤ 9223372036854775807 ∧ KRow 0 w 8 d.ka d.n (fun i => (kid i).d.cells) ∧ ∀ i, i < d.n → (kid i).came w
def ET.small : ET → Prop
 | .nil => False
 | .mk d kid => d.v.len ≤ 1048576 ∧ d.t.t.len ≤ 1048576 ∧ d.n ≤ 1048576 ∧ ∀ i, i < d.n → (kid i).small
def ET.same : ET → ET → Prop
 | .mk d kid, .mk d' kid' => d.k = d'.k ∧ d.op = d'.op ∧ d.v.b = d'.v.b ∧ d.t.td = d'.t.td ∧ d.n = d'.n ∧ ∀ i, i < d.n → (kid i).same (kid' i)
 | _, _ => False
theorem ET.lies.upper (hu : Upper B w w') {e : ET} (h : e.lies B w) : e.lies B w' := by
 induction e with
 | nil => exact False.elim h
 | mk d kid ih => exact ⟨h.1.upper hu, h.2.1.upper hu, h.2.2.1, h.2.2.2.1, h.2.2.2.2.1.upper hu, fun i hi => ih i (h.2.2.2.2.2 i hi)⟩
theorem ET.lies.base (hB : B' ≤ B) {e : ET} (h : e.lies B w) : e.lies B' w := by
 induction e with
 | nil => exact False.elim h
 | mk d kid ih => exact ⟨h.1.base hB, h.2.1.base hB, h.2.2.1, h.2.2.2.1, h.2.2.2.2.1.base hB, fun i hi => ih i (h.2.2.2.2.2 i hi)⟩
theorem ET.came.below (hb : Bl w w') {e : ET} (h : e.came w) : e.came w' := by
 induction e with
 | nil => exact False.elim h
 | mk d kid ih => exact ⟨h.1.below hb, h.2.1.below hb, h.2.2.1, h.2.2.2.1, h.2.2.2.2.1.upper (uB hb), fun i hi => ih i (h.2.2.2.2.2 i hi)⟩
theorem ET.came.lies {e : ET} (h : e.came w) (hs : e.small) : e.lies 0 w := by
 induction e with
 | nil => exact False.elim h
 | mk d kid ih => exact ⟨h.1.bs hs.1, h.2.1.bs hs.2.1, h.2.2.1, hs.2.2.1, h.2.2.2.2.1, fun i hi => ih i (h.2.2.2.2.2 i hi) (hs.2.2.2 i hi)⟩
structure AN where
 k : Int
 pa : Option Addr
 pc : Nat
 pn : Nat
 pat : Nat → PB
 e : ET
 v : SL
 ta : Option Addr
 tc : Nat
 tb : List TB
 ka : Option Addr
 kc : Nat
 n : Nat
def AN.cells (d : AN) : List Value := [.int .i64 d.k, .slice d.pa d.pn d.pc, .int .i64 d.e.d.k, .int .i64 d.e.d.op, .slice d.e.d.v.a d.e.d.v.len d.e.d.v.cap, .int .i64 d.e.d.t.t.k, .slice d.e.d.t.t.a d.e.d.t.t.len d.e.d.t.t.cap, .int .i64 d.e.d.t.t.n, .int .i64 d.e.d.t.t.s, .slice d.e.d.ka d.e.d.n d.e.d.kc,
 .slice d.v.a d.v.len d.v.cap, .slice d.ta d.tb.length d.tc, .slice d.ka d.n d.kc]
abbrev AN.cl (d : AN) : List Value := [.int .i64 d.k, .slice d.pa d.pn d.pc, .int .i64 d.e.d.k, .int .i64 d.e.d.op, .slice d.e.d.v.a d.e.d.v.len d.e.d.v.cap, .int .i64 d.e.d.t.t.k, .slice d.e.d.t.t.a d.e.d.t.t.len d.e.d.t.t.cap, .int .i64 d.e.d.t.t.n, .int .i64 d.e.d.t.t.s, .slice d.e.d.ka d.e.d.n d.e.d.kc, .slice d.v.a d.v.len d.v.cap, .slice d.ta d.tb.length d.tc, .slice d.ka d.n d.kc]
abbrev AN.ar (d : AN) : Array Value := d.cl.toArray
abbrev gL (k : Int) (p : Value) (e : EN) (v : SL) (s t : Value) : List Value := [.int .i64 k, p, .int .i64 e.k, .int .i64 e.op, .slice e.v.a e.v.len e.v.cap, .int .i64 e.t.t.k, .slice e.t.t.a e.t.t.len e.t.t.cap, .int .i64 e.t.t.n, .int .i64 e.t.t.s, .slice e.ka e.n e.kc, .slice v.a v.len v.cap, s, t]
abbrev gA (k : Int) (p : Value) (e : EN) (v : SL) (s t : Value) : Array Value := (gL k p e v s t).toArray
abbrev fL (k : Int) (p v s t : Value) : List Value := [.int .i64 k, p, .int .i64 0, .int .i64 0, .slice none 0 0, .int .i64 0, .slice none 0 0, .int .i64 0, .int .i64 0, .slice none 0 0, v, s, t]
abbrev fA (k : Int) (p v s t : Value) : Array Value := (fL k p v s t).toArray
abbrev gVL (k : Int) (p : Value) (e : EN) (v s t : Value) : List Value := [.int .i64 k, p, .int .i64 e.k, .int .i64 e.op, .slice e.v.a e.v.len e.v.cap, .int .i64 e.t.t.k, .slice e.t.t.a e.t.t.len e.t.t.cap, .int .i64 e.t.t.n, .int .i64 e.t.t.s, .slice e.ka e.n e.kc, v, s, t]
abbrev gVA (k : Int) (p : Value) (e : EN) (v s t : Value) : Array Value := (gVL k p e v s t).toArray
abbrev gFL (e : EN) (t : Value) (b : AN) : List Value := [.int .i64 5, .slice none 0 0, .int .i64 e.k, .int .i64 e.op, .slice e.v.a e.v.len e.v.cap, .int .i64 e.t.t.k, .slice e.t.t.a e.t.t.len e.t.t.cap, .int .i64 e.t.t.n, .int .i64 e.t.t.s, .slice e.ka e.n e.kc, .slice none 0 0, .slice none 0 0, t, .int .i64 b.k, .slice b.pa b.pn b.pc, .int .i64 b.e.d.k, .int .i64 b.e.d.op, .slice b.e.d.v.a b.e.d.v.len b.e.d.v.cap, .int .i64 b.e.d.t.t.k, .slice b.e.d.t.t.a b.e.d.t.t.len b.e.d.t.t.cap, .int .i64 b.e.d.t.t.n, .int .i64 b.e.d.t.t.s, .slice b.e.d.ka b.e.d.n b.e.d.kc, .slice b.v.a b.v.len b.v.cap, .slice b.ta b.tb.length b.tc, .slice b.ka b.n b.kc]
abbrev gFA (e : EN) (t : Value) (b : AN) : Array Value := (gFL e t b).toArray
abbrev cAL (a b : Int) (d : AN) : List Value := [.int .i64 a, .int .i64 b, .int .i64 d.k, .slice d.pa d.pn d.pc, .int .i64 d.e.d.k, .int .i64 d.e.d.op, .slice d.e.d.v.a d.e.d.v.len d.e.d.v.cap, .int .i64 d.e.d.t.t.k, .slice d.e.d.t.t.a d.e.d.t.t.len d.e.d.t.t.cap, .int .i64 d.e.d.t.t.n, .int .i64 d.e.d.t.t.s, .slice d.e.d.ka d.e.d.n d.e.d.kc, .slice d.v.a d.v.len d.v.cap, .slice d.ta d.tb.length d.tc, .slice d.ka d.n d.kc]
abbrev cAA (a b : Int) (d : AN) : Array Value := (cAL a b d).toArray
abbrev gGL (e : EN) (t u : Value) : List Value := [.int .i64 5, .slice none 0 0, .int .i64 e.k, .int .i64 e.op, .slice e.v.a e.v.len e.v.cap, .int .i64 e.t.t.k, .slice e.t.t.a e.t.t.len e.t.t.cap, .int .i64 e.t.t.n, .int .i64 e.t.t.s, .slice e.ka e.n e.kc, .slice none 0 0, .slice none 0 0, t, .int .i64 5, .slice none 0 0, .int .i64 e.k, .int .i64 e.op, .slice e.v.a e.v.len e.v.cap, .int .i64 e.t.t.k, .slice e.t.t.a e.t.t.len e.t.t.cap, .int .i64 e.t.t.n, .int .i64 e.t.t.s, .slice e.ka e.n e.kc, .slice none 0 0, .slice none 0 0, u]
abbrev gGA (e : EN) (t u : Value) : Array Value := (gGL e t u).toArray
def AN0 : AN := ⟨0, none, 0, 0, fun _ => ⟨⟨⟨none, 0, 0, []⟩, ⟨⟨0, none, 0, 0, 0, 0⟩, []⟩⟩, ⟨⟨none, 0, 0, []⟩, ⟨⟨0, none, 0, 0, 0, 0⟩, []⟩⟩, ⟨⟨none, 0, 0, []⟩, ⟨⟨0, none, 0, 0, 0, 0⟩, []⟩⟩⟩, .nil, ⟨none, 0, 0, []⟩, none, 0, [], none, 0, 0⟩
inductive AT where
 | nil
 | mk (d : AN) (kid : Nat → AT)
def AT.d : AT → AN
 | .nil => AN0
 | .mk d _ => d
def AT.kid : AT → Nat → AT
 | .nil => fun _ => .nil
 | .mk _ f => f
def TRowF (B : Nat) (w : World) (a : Option Addr) (l : List TB) : Prop := TRow w a l ∧ (l = [] ∨ ∀ p, a = some p → B ≤ p.block) ∧ ∀ x ∈ l, BsF B w x.sl ∧ x.t.fits
theorem TRowF.upper {l : List TB} (h : TRowF B w a l) (hu : Upper B w w') : TRowF B w' a l := by
 obtain ⟨h1, h2, h3⟩ := h;refine ⟨?_, h2, fun x hx => ⟨(h3 x hx).1.upper hu, (h3 x hx).2⟩⟩;rcases h1 with h1 | ⟨b, off, ha, hlt, hc⟩
 · exact .inl h1
 by_cases h0 : l = []
 · exact .inl h0
 have hB := (h2.resolve_left h0) _ ha;exact .inr ⟨b, off, ha, Nat.lt_of_lt_of_le hlt hu.size, fun j u hju => (hu.cell hB hlt).trans (hc j u hju)⟩
theorem TRowF.base {l : List TB} (h : TRowF B w a l) (hB : B' ≤ B) : TRowF B' w a l := ⟨h.1, h.2.1.imp id fun h p hp => Nat.le_trans hB (h p hp), fun x hx => ⟨(h.2.2 x hx).1.base hB, (h.2.2 x hx).2⟩⟩
def AT.lies (B : Nat) (w : World) : AT → Prop
 | .nil => False
 | .mk d kid => KRow B w 15 d.pa d.pn (fun i => (d.pat i).cells) ∧ (∀ i, i < d.pn → (d.pat i).lies B w) ∧ d.pn ≤ 1048576 ∧ d.e.lies B w ∧ BsF B w d.v ∧ TRowF B w d.ta d.tb ∧ d.tb.length ≤ 1048576 ∧ d.n ≤ 1048576 ∧ KRow B w 13 d.ka d.n (fun i => (kid i).d.cells) ∧ ∀ i, i < d.n → (kid i).lies B w
def TCm (w : World) (a : Option Addr) (l : List TB) : Prop := TRow w a l ∧ l.length ≤ 9223372036854775807 ∧ ∀ x ∈ l, Cm w x.sl ∧ x.t.fits
theorem TCm.below {l : List TB} (h : TCm w a l) (hb : Bl w w') : TCm w' a l := ⟨h.1.below hb, h.2.1, fun x hx => ⟨(h.2.2 x hx).1.below hb, (h.2.2 x hx).2⟩⟩
theorem TCm.lies {l : List TB} (h : TCm w a l) (hs : ∀ x ∈ l, x.t.len ≤ 1048576) : TRowF 0 w a l := ⟨h.1, .inr fun _ _ => nZ, fun x hx => ⟨(h.2.2 x hx).1.bs (hs x hx), (h.2.2 x hx).2⟩⟩
def AT.came (w : World) : AT → Prop
 | .nil => False
 | .mk d kid => KRow 0 w 15 d.pa d.pn (fun i => (d.pat i).cells) ∧ (∀ i, i < d.pn → (d.pat i).came w) ∧ d.pn ≤ 9223372036854775807 ∧ d.e.came w ∧ Cm w d.v ∧ TCm w d.ta d.tb ∧ d.n ≤ 9223372036854775807 ∧ KRow 0 w 13 d.ka d.n (fun i => (kid i).d.cells) ∧ ∀ i, i < d.n → (kid i).came w
def AT.small : AT → Prop
 | .nil => False
 | .mk d kid => d.pn ≤ 1048576 ∧ (∀ i, i < d.pn → (d.pat i).small) ∧ d.e.small ∧ d.v.len ≤ 1048576 ∧ (d.tb.length ≤ 1048576 ∧ ∀ x ∈ d.tb, x.t.len ≤ 1048576) ∧ d.n ≤ 1048576 ∧ ∀ i, i < d.n → (kid i).small
def AT.same : AT → AT → Prop
 | .mk d kid, .mk d' kid' => d.k = d'.k ∧ d.pn = d'.pn ∧ (∀ i, i < d.pn → (d.pat i).same (d'.pat i)) ∧ d.e.same d'.e ∧ d.v.b = d'.v.b ∧ d.tb.map TB.td = d'.tb.map TB.td ∧ d.n = d'.n ∧ ∀ i, i < d.n → (kid i).same (kid' i)
 | _, _ => False
theorem AT.lies.upper (hu : Upper B w w') {e : AT} (h : e.lies B w) : e.lies B w' := by
 induction e with
 | nil => exact False.elim h
 | mk d kid ih =>
  obtain ⟨h1, h2, h3, h4, h5, h6, h7, h8, h9, h10⟩ := h;exact ⟨h1.upper hu, fun i hi => (h2 i hi).upper hu, h3, ET.lies.upper hu h4, h5.upper hu, h6.upper hu, h7, h8, h9.upper hu, fun i hi => ih i (h10 i hi)⟩
theorem AT.lies.base (hB : B' ≤ B) {e : AT} (h : e.lies B w) : e.lies B' w := by
 induction e with
 | nil => exact False.elim h
 | mk d kid ih =>
  obtain ⟨h1, h2, h3, h4, h5, h6, h7, h8, h9, h10⟩ := h;exact ⟨h1.base hB, fun i hi => (h2 i hi).base hB, h3, ET.lies.base hB h4, h5.base hB, h6.base hB, h7, h8, h9.base hB, fun i hi => ih i (h10 i hi)⟩
theorem AT.came.below (hb : Bl w w') {e : AT} (h : e.came w) : e.came w' := by
 induction e with
 | nil => exact False.elim h
 | mk d kid ih =>
  obtain ⟨h1, h2, h3, h4, h5, h6, h7, h8, h9⟩ := h;exact ⟨h1.upper (uB hb), fun i hi => (h2 i hi).below hb, h3, ET.came.below hb h4, h5.below hb, h6.below hb, h7, h8.upper (uB hb), fun i hi => ih i (h9 i hi)⟩
theorem AT.came.lies {e : AT} (h : e.came w) (hs : e.small) : e.lies 0 w := by
 induction e with
 | nil => exact False.elim h
 | mk d kid ih =>
  obtain ⟨h1, h2, h3, h4, h5, h6, h7, h8, h9⟩ := h;obtain ⟨s1, s2, s3, s4, ⟨s5, s6⟩, s7, s8⟩ := hs;exact ⟨h1, fun i hi => PB.came.lies (h2 i hi) (s2 i hi), s1, ET.came.lies h4 s3, h5.bs s4, h6.lies s6, s5, s7, h8, fun i hi => ih i (h9 i hi) (s8 i hi)⟩
structure PN where
 k : Int
 ord : Int
 p : PB
 e : ET
 v : SL
 ta : Option Addr
 tc : Nat
 tb : List TB
 ka : Option Addr
 kc : Nat
 n : Nat
def PN.cells (d : PN) : List Value := [.int .i64 d.k, .int .i64 d.ord, .slice d.p.s.v.a d.p.s.v.len d.p.s.v.cap, .int .i64 d.p.s.t.t.k, .slice d.p.s.t.t.a d.p.s.t.t.len d.p.s.t.t.cap, .int .i64 d.p.s.t.t.n, .int .i64 d.p.s.t.t.s,
 .slice d.p.p.v.a d.p.p.v.len d.p.p.v.cap, .int .i64 d.p.p.t.t.k, .slice d.p.p.t.t.a d.p.p.t.t.len d.p.p.t.t.cap, .int .i64 d.p.p.t.t.n, .int .i64 d.p.p.t.t.s,
 .slice d.p.o.v.a d.p.o.v.len d.p.o.v.cap, .int .i64 d.p.o.t.t.k, .slice d.p.o.t.t.a d.p.o.t.t.len d.p.o.t.t.cap, .int .i64 d.p.o.t.t.n, .int .i64 d.p.o.t.t.s,
 .int .i64 d.e.d.k, .int .i64 d.e.d.op, .slice d.e.d.v.a d.e.d.v.len d.e.d.v.cap, .int .i64 d.e.d.t.t.k, .slice d.e.d.t.t.a d.e.d.t.t.len d.e.d.t.t.cap, .int .i64 d.e.d.t.t.n, .int .i64 d.e.d.t.t.s, .slice d.e.d.ka d.e.d.n d.e.d.kc,
 .slice d.v.a d.v.len d.v.cap, .slice d.ta d.tb.length d.tc, .slice d.ka d.n d.kc]
abbrev PN.cl (d : PN) : List Value := [.int .i64 d.k, .int .i64 d.ord, .slice d.p.s.v.a d.p.s.v.len d.p.s.v.cap, .int .i64 d.p.s.t.t.k, .slice d.p.s.t.t.a d.p.s.t.t.len d.p.s.t.t.cap, .int .i64 d.p.s.t.t.n, .int .i64 d.p.s.t.t.s, .slice d.p.p.v.a d.p.p.v.len d.p.p.v.cap, .int .i64 d.p.p.t.t.k, .slice d.p.p.t.t.a d.p.p.t.t.len d.p.p.t.t.cap, .int .i64 d.p.p.t.t.n, .int .i64 d.p.p.t.t.s, .slice d.p.o.v.a d.p.o.v.len d.p.o.v.cap, .int .i64 d.p.o.t.t.k, .slice d.p.o.t.t.a d.p.o.t.t.len d.p.o.t.t.cap, .int .i64 d.p.o.t.t.n, .int .i64 d.p.o.t.t.s, .int .i64 d.e.d.k, .int .i64 d.e.d.op, .slice d.e.d.v.a d.e.d.v.len d.e.d.v.cap, .int .i64 d.e.d.t.t.k, .slice d.e.d.t.t.a d.e.d.t.t.len d.e.d.t.t.cap, .int .i64 d.e.d.t.t.n, .int .i64 d.e.d.t.t.s, .slice d.e.d.ka d.e.d.n d.e.d.kc, .slice d.v.a d.v.len d.v.cap, .slice d.ta d.tb.length d.tc, .slice d.ka d.n d.kc]
abbrev PN.ar (d : PN) : Array Value := d.cl.toArray
abbrev PN.ck (d : PN) (k : Int) : List Value := [.int .i64 k, .int .i64 d.ord, .slice d.p.s.v.a d.p.s.v.len d.p.s.v.cap, .int .i64 d.p.s.t.t.k, .slice d.p.s.t.t.a d.p.s.t.t.len d.p.s.t.t.cap, .int .i64 d.p.s.t.t.n, .int .i64 d.p.s.t.t.s, .slice d.p.p.v.a d.p.p.v.len d.p.p.v.cap, .int .i64 d.p.p.t.t.k, .slice d.p.p.t.t.a d.p.p.t.t.len d.p.p.t.t.cap, .int .i64 d.p.p.t.t.n, .int .i64 d.p.p.t.t.s, .slice d.p.o.v.a d.p.o.v.len d.p.o.v.cap, .int .i64 d.p.o.t.t.k, .slice d.p.o.t.t.a d.p.o.t.t.len d.p.o.t.t.cap, .int .i64 d.p.o.t.t.n, .int .i64 d.p.o.t.t.s, .int .i64 d.e.d.k, .int .i64 d.e.d.op, .slice d.e.d.v.a d.e.d.v.len d.e.d.v.cap, .int .i64 d.e.d.t.t.k, .slice d.e.d.t.t.a d.e.d.t.t.len d.e.d.t.t.cap, .int .i64 d.e.d.t.t.n, .int .i64 d.e.d.t.t.s, .slice d.e.d.ka d.e.d.n d.e.d.kc, .slice d.v.a d.v.len d.v.cap, .slice d.ta d.tb.length d.tc, .slice d.ka d.n d.kc]
abbrev PN.ca (d : PN) (k : Int) : Array Value := (d.ck k).toArray
abbrev wL (k o : Int) (p : PB) (e : EN) (v : SL) (s t : Value) : List Value := [.int .i64 k, .int .i64 o, .slice p.s.v.a p.s.v.len p.s.v.cap, .int .i64 p.s.t.t.k, .slice p.s.t.t.a p.s.t.t.len p.s.t.t.cap, .int .i64 p.s.t.t.n, .int .i64 p.s.t.t.s, .slice p.p.v.a p.p.v.len p.p.v.cap, .int .i64 p.p.t.t.k, .slice p.p.t.t.a p.p.t.t.len p.p.t.t.cap, .int .i64 p.p.t.t.n, .int .i64 p.p.t.t.s, .slice p.o.v.a p.o.v.len p.o.v.cap, .int .i64 p.o.t.t.k, .slice p.o.t.t.a p.o.t.t.len p.o.t.t.cap, .int .i64 p.o.t.t.n, .int .i64 p.o.t.t.s, .int .i64 e.k, .int .i64 e.op, .slice e.v.a e.v.len e.v.cap, .int .i64 e.t.t.k, .slice e.t.t.a e.t.t.len e.t.t.cap, .int .i64 e.t.t.n, .int .i64 e.t.t.s, .slice e.ka e.n e.kc, .slice v.a v.len v.cap, s, t]
abbrev wA (k o : Int) (p : PB) (e : EN) (v : SL) (s t : Value) : Array Value := (wL k o p e v s t).toArray
abbrev wZL (k o : Int) (v s t : Value) : List Value := [.int .i64 k, .int .i64 o, .slice none 0 0, .int .i64 0, .slice none 0 0, .int .i64 0, .int .i64 0, .slice none 0 0, .int .i64 0, .slice none 0 0, .int .i64 0, .int .i64 0, .slice none 0 0, .int .i64 0, .slice none 0 0, .int .i64 0, .int .i64 0, .int .i64 0, .int .i64 0, .slice none 0 0, .int .i64 0, .slice none 0 0, .int .i64 0, .int .i64 0, .slice none 0 0, v, s, t]
abbrev wZA (k o : Int) (v s t : Value) : Array Value := (wZL k o v s t).toArray
abbrev wPL (k o : Int) (p : PB) (v s t : Value) : List Value := [.int .i64 k, .int .i64 o, .slice p.s.v.a p.s.v.len p.s.v.cap, .int .i64 p.s.t.t.k, .slice p.s.t.t.a p.s.t.t.len p.s.t.t.cap, .int .i64 p.s.t.t.n, .int .i64 p.s.t.t.s, .slice p.p.v.a p.p.v.len p.p.v.cap, .int .i64 p.p.t.t.k, .slice p.p.t.t.a p.p.t.t.len p.p.t.t.cap, .int .i64 p.p.t.t.n, .int .i64 p.p.t.t.s, .slice p.o.v.a p.o.v.len p.o.v.cap, .int .i64 p.o.t.t.k, .slice p.o.t.t.a p.o.t.t.len p.o.t.t.cap, .int .i64 p.o.t.t.n, .int .i64 p.o.t.t.s, .int .i64 0, .int .i64 0, .slice none 0 0, .int .i64 0, .slice none 0 0, .int .i64 0, .int .i64 0, .slice none 0 0, v, s, t]
abbrev wPA (k o : Int) (p : PB) (v s t : Value) : Array Value := (wPL k o p v s t).toArray
abbrev wEL (k o : Int) (e : EN) (v s t : Value) : List Value := [.int .i64 k, .int .i64 o, .slice none 0 0, .int .i64 0, .slice none 0 0, .int .i64 0, .int .i64 0, .slice none 0 0, .int .i64 0, .slice none 0 0, .int .i64 0, .int .i64 0, .slice none 0 0, .int .i64 0, .slice none 0 0, .int .i64 0, .int .i64 0, .int .i64 e.k, .int .i64 e.op, .slice e.v.a e.v.len e.v.cap, .int .i64 e.t.t.k, .slice e.t.t.a e.t.t.len e.t.t.cap, .int .i64 e.t.t.n, .int .i64 e.t.t.s, .slice e.ka e.n e.kc, v, s, t]
abbrev wEA (k o : Int) (e : EN) (v s t : Value) : Array Value := (wEL k o e v s t).toArray
abbrev wVL (k o : Int) (p : PB) (e : EN) (v s t : Value) : List Value := [.int .i64 k, .int .i64 o, .slice p.s.v.a p.s.v.len p.s.v.cap, .int .i64 p.s.t.t.k, .slice p.s.t.t.a p.s.t.t.len p.s.t.t.cap, .int .i64 p.s.t.t.n, .int .i64 p.s.t.t.s, .slice p.p.v.a p.p.v.len p.p.v.cap, .int .i64 p.p.t.t.k, .slice p.p.t.t.a p.p.t.t.len p.p.t.t.cap, .int .i64 p.p.t.t.n, .int .i64 p.p.t.t.s, .slice p.o.v.a p.o.v.len p.o.v.cap, .int .i64 p.o.t.t.k, .slice p.o.t.t.a p.o.t.t.len p.o.t.t.cap, .int .i64 p.o.t.t.n, .int .i64 p.o.t.t.s, .int .i64 e.k, .int .i64 e.op, .slice e.v.a e.v.len e.v.cap, .int .i64 e.t.t.k, .slice e.t.t.a e.t.t.len e.t.t.cap, .int .i64 e.t.t.n, .int .i64 e.t.t.s, .slice e.ka e.n e.kc, v, s, t]
abbrev wWL (a b : PN) : List Value := [.int .i64 a.k, .int .i64 a.ord, .slice a.p.s.v.a a.p.s.v.len a.p.s.v.cap, .int .i64 a.p.s.t.t.k, .slice a.p.s.t.t.a a.p.s.t.t.len a.p.s.t.t.cap, .int .i64 a.p.s.t.t.n, .int .i64 a.p.s.t.t.s, .slice a.p.p.v.a a.p.p.v.len a.p.p.v.cap, .int .i64 a.p.p.t.t.k, .slice a.p.p.t.t.a a.p.p.t.t.len a.p.p.t.t.cap, .int .i64 a.p.p.t.t.n, .int .i64 a.p.p.t.t.s, .slice a.p.o.v.a a.p.o.v.len a.p.o.v.cap, .int .i64 a.p.o.t.t.k, .slice a.p.o.t.t.a a.p.o.t.t.len a.p.o.t.t.cap, .int .i64 a.p.o.t.t.n, .int .i64 a.p.o.t.t.s, .int .i64 a.e.d.k, .int .i64 a.e.d.op, .slice a.e.d.v.a a.e.d.v.len a.e.d.v.cap, .int .i64 a.e.d.t.t.k, .slice a.e.d.t.t.a a.e.d.t.t.len a.e.d.t.t.cap, .int .i64 a.e.d.t.t.n, .int .i64 a.e.d.t.t.s, .slice a.e.d.ka a.e.d.n a.e.d.kc, .slice a.v.a a.v.len a.v.cap, .slice a.ta a.tb.length a.tc, .slice a.ka a.n a.kc, .int .i64 b.k, .int .i64 b.ord, .slice b.p.s.v.a b.p.s.v.len b.p.s.v.cap, .int .i64 b.p.s.t.t.k, .slice b.p.s.t.t.a b.p.s.t.t.len b.p.s.t.t.cap, .int .i64 b.p.s.t.t.n, .int .i64 b.p.s.t.t.s, .slice b.p.p.v.a b.p.p.v.len b.p.p.v.cap, .int .i64 b.p.p.t.t.k, .slice b.p.p.t.t.a b.p.p.t.t.len b.p.p.t.t.cap, .int .i64 b.p.p.t.t.n, .int .i64 b.p.p.t.t.s, .slice b.p.o.v.a b.p.o.v.len b.p.o.v.cap, .int .i64 b.p.o.t.t.k, .slice b.p.o.t.t.a b.p.o.t.t.len b.p.o.t.t.cap, .int .i64 b.p.o.t.t.n, .int .i64 b.p.o.t.t.s, .int .i64 b.e.d.k, .int .i64 b.e.d.op, .slice b.e.d.v.a b.e.d.v.len b.e.d.v.cap, .int .i64 b.e.d.t.t.k, .slice b.e.d.t.t.a b.e.d.t.t.len b.e.d.t.t.cap, .int .i64 b.e.d.t.t.n, .int .i64 b.e.d.t.t.s, .slice b.e.d.ka b.e.d.n b.e.d.kc, .slice b.v.a b.v.len b.v.cap, .slice b.ta b.tb.length b.tc, .slice b.ka b.n b.kc]
abbrev wWA (a b : PN) : Array Value := (wWL a b).toArray
abbrev wYL (a : PN) (k o : Int) (p : PB) (v s t : Value) : List Value := [.int .i64 a.k, .int .i64 a.ord, .slice a.p.s.v.a a.p.s.v.len a.p.s.v.cap, .int .i64 a.p.s.t.t.k, .slice a.p.s.t.t.a a.p.s.t.t.len a.p.s.t.t.cap, .int .i64 a.p.s.t.t.n, .int .i64 a.p.s.t.t.s, .slice a.p.p.v.a a.p.p.v.len a.p.p.v.cap, .int .i64 a.p.p.t.t.k, .slice a.p.p.t.t.a a.p.p.t.t.len a.p.p.t.t.cap, .int .i64 a.p.p.t.t.n, .int .i64 a.p.p.t.t.s, .slice a.p.o.v.a a.p.o.v.len a.p.o.v.cap, .int .i64 a.p.o.t.t.k, .slice a.p.o.t.t.a a.p.o.t.t.len a.p.o.t.t.cap, .int .i64 a.p.o.t.t.n, .int .i64 a.p.o.t.t.s, .int .i64 a.e.d.k, .int .i64 a.e.d.op, .slice a.e.d.v.a a.e.d.v.len a.e.d.v.cap, .int .i64 a.e.d.t.t.k, .slice a.e.d.t.t.a a.e.d.t.t.len a.e.d.t.t.cap, .int .i64 a.e.d.t.t.n, .int .i64 a.e.d.t.t.s, .slice a.e.d.ka a.e.d.n a.e.d.kc, .slice a.v.a a.v.len a.v.cap, .slice a.ta a.tb.length a.tc, .slice a.ka a.n a.kc, .int .i64 k, .int .i64 o, .slice p.s.v.a p.s.v.len p.s.v.cap, .int .i64 p.s.t.t.k, .slice p.s.t.t.a p.s.t.t.len p.s.t.t.cap, .int .i64 p.s.t.t.n, .int .i64 p.s.t.t.s, .slice p.p.v.a p.p.v.len p.p.v.cap, .int .i64 p.p.t.t.k, .slice p.p.t.t.a p.p.t.t.len p.p.t.t.cap, .int .i64 p.p.t.t.n, .int .i64 p.p.t.t.s, .slice p.o.v.a p.o.v.len p.o.v.cap, .int .i64 p.o.t.t.k, .slice p.o.t.t.a p.o.t.t.len p.o.t.t.cap, .int .i64 p.o.t.t.n, .int .i64 p.o.t.t.s, .int .i64 0, .int .i64 0, .slice none 0 0, .int .i64 0, .slice none 0 0, .int .i64 0, .int .i64 0, .slice none 0 0, v, s, t]
abbrev wYA (a : PN) (k o : Int) (p : PB) (v s t : Value) : Array Value := (wYL a k o p v s t).toArray
abbrev cPL (a b : Int) (d : PN) : List Value := [.int .i64 a, .int .i64 b, .int .i64 d.k, .int .i64 d.ord, .slice d.p.s.v.a d.p.s.v.len d.p.s.v.cap, .int .i64 d.p.s.t.t.k, .slice d.p.s.t.t.a d.p.s.t.t.len d.p.s.t.t.cap, .int .i64 d.p.s.t.t.n, .int .i64 d.p.s.t.t.s, .slice d.p.p.v.a d.p.p.v.len d.p.p.v.cap, .int .i64 d.p.p.t.t.k, .slice d.p.p.t.t.a d.p.p.t.t.len d.p.p.t.t.cap, .int .i64 d.p.p.t.t.n, .int .i64 d.p.p.t.t.s, .slice d.p.o.v.a d.p.o.v.len d.p.o.v.cap, .int .i64 d.p.o.t.t.k, .slice d.p.o.t.t.a d.p.o.t.t.len d.p.o.t.t.cap, .int .i64 d.p.o.t.t.n, .int .i64 d.p.o.t.t.s, .int .i64 d.e.d.k, .int .i64 d.e.d.op, .slice d.e.d.v.a d.e.d.v.len d.e.d.v.cap, .int .i64 d.e.d.t.t.k, .slice d.e.d.t.t.a d.e.d.t.t.len d.e.d.t.t.cap, .int .i64 d.e.d.t.t.n, .int .i64 d.e.d.t.t.s, .slice d.e.d.ka d.e.d.n d.e.d.kc, .slice d.v.a d.v.len d.v.cap, .slice d.ta d.tb.length d.tc, .slice d.ka d.n d.kc]
abbrev cPA (a b : Int) (d : PN) : Array Value := (cPL a b d).toArray
def PN0 : PN := ⟨0, 0, ⟨⟨⟨none, 0, 0, []⟩, ⟨⟨0, none, 0, 0, 0, 0⟩, []⟩⟩, ⟨⟨none, 0, 0, []⟩, ⟨⟨0, none, 0, 0, 0, 0⟩, []⟩⟩, ⟨⟨none, 0, 0, []⟩, ⟨⟨0, none, 0, 0, 0, 0⟩, []⟩⟩⟩, .nil, ⟨none, 0, 0, []⟩, none, 0, [], none, 0, 0⟩
inductive PT where
 | nil
 | mk (d : PN) (kid : Nat → PT)
def PT.d : PT → PN
 | .nil => PN0
 | .mk d _ => d
def PT.lies (B : Nat) (w : World) : PT → Prop
 | .nil => False
 | .mk d kid => d.p.lies B w ∧ d.e.lies B w ∧ BsF B w d.v ∧ TRowF B w d.ta d.tb ∧ d.tb.length ≤ 1048576 ∧ d.n ≤ 1048576 ∧ KRow B w 28 d.ka d.n (fun i => (kid i).d.cells) ∧ ∀ i, i < d.n → (kid i).lies B w
def PT.same : PT → PT → Prop
 | .mk d kid, .mk d' kid' => d.k = d'.k ∧ d.ord = d'.ord ∧ d.p.same d'.p ∧ d.e.same d'.e ∧ d.v.b = d'.v.b ∧ d.tb.map TB.td = d'.tb.map TB.td ∧ d.n = d'.n ∧ ∀ i, i < d.n → (kid i).same (kid' i)
 | _, _ => False
theorem PT.lies.upper (hu : Upper B w w') {e : PT} (h : e.lies B w) : e.lies B w' := by
 induction e with
 | nil => exact False.elim h
 | mk d kid ih =>
  obtain ⟨h2, h4, h5, h6, h7, h8, h9, h10⟩ := h;exact ⟨h2.upper hu, ET.lies.upper hu h4, h5.upper hu, h6.upper hu, h7, h8, h9.upper hu, fun i hi => ih i (h10 i hi)⟩
theorem PT.lies.base (hB : B' ≤ B) {e : PT} (h : e.lies B w) : e.lies B' w := by
 induction e with
 | nil => exact False.elim h
 | mk d kid ih =>
  obtain ⟨h2, h4, h5, h6, h7, h8, h9, h10⟩ := h;exact ⟨h2.base hB, ET.lies.base hB h4, h5.base hB, h6.base hB, h7, h8, h9.base hB, fun i hi => ih i (h10 i hi)⟩
def Box (w : World) (b : Nat) (L : List Value) : Prop := b < w.heap.size ∧ ∀ c u, L[c]? = some u → w.cell? ⟨b, c, none⟩ = some u
theorem ldm {a : Act} {o : Nat} {d : TypeDesc} (hu : P.underlying ty = some d) (hc : w.rangeAt b o cs) (h : wpList P ops Q rest (a.put op.dst (.agg cs.toArray)) w)
  (hgd : op.guard = none := by rfl) (ho : op.op = .load ty x := by rfl) (hx : a.eval x = .pointer (some ⟨b, o, none⟩) := by rfl) (hd : d.isRow = true := by rfl) (hi : (P.info? ty).map (·.size) = some cs.length := by kernel_rfl) : wpList P ops Q (op :: rest) a w := wpList_load_mid hgd ty x ho b o hx cs d hc hu hd hi h
theorem ldn {a a' : Act} {o : Nat} {d : TypeDesc} (hu : P.underlying ty = some d) (hc : w.rangeAt b o cs) (h : wpList P ops Q rest a' w)
  (hgd : op.guard = none := by rfl) (ho : op.op = .load ty x := by rfl) (hx : a.eval x = .pointer (some ⟨b, o, none⟩) := by rfl) (hd : d.isRow = true := by rfl) (hi : (P.info? ty).map (·.size) = some cs.length := by kernel_rfl) (ha : a.put op.dst (.agg cs.toArray) = a' := by (try simp only [Act.put, sA, zA, cA]); rfl) : wpList P ops Q (op :: rest) a w := wpList_load_mid hgd ty x ho b o hx cs d hc hu hd hi (ha ▸ h)
theorem bxA (h : Box w b (a0 :: a1 :: a2 :: a3 :: a4 :: a5 :: a6 :: a7 :: l)) : w.cell? ⟨b, 0, none⟩ = some a0 ∧ w.cell? ⟨b, 1, none⟩ = some a1 ∧ w.cell? ⟨b, 2, none⟩ = some a2 ∧ w.cell? ⟨b, 3, none⟩ = some a3 ∧ w.cell? ⟨b, 4, none⟩ = some a4 ∧ w.cell? ⟨b, 5, none⟩ = some a5 ∧ w.cell? ⟨b, 6, none⟩ = some a6 ∧ w.cell? ⟨b, 7, none⟩ = some a7 := ⟨h.2 0 _ rfl, h.2 1 _ rfl, h.2 2 _ rfl, h.2 3 _ rfl, h.2 4 _ rfl, h.2 5 _ rfl, h.2 6 _ rfl, h.2 7 _ rfl⟩
theorem bxB (h : Box w b (a0 :: a1 :: a2 :: a3 :: a4 :: a5 :: a6 :: a7 :: a8 :: a9 :: a10 :: a11 :: a12 :: a13 :: a14 :: a15 :: l)) : w.cell? ⟨b, 1, none⟩ = some a1 ∧ w.cell? ⟨b, 2, none⟩ = some a2 ∧ w.cell? ⟨b, 3, none⟩ = some a3 ∧ w.cell? ⟨b, 4, none⟩ = some a4 ∧ w.cell? ⟨b, 5, none⟩ = some a5 ∧ w.cell? ⟨b, 6, none⟩ = some a6 ∧ w.cell? ⟨b, 7, none⟩ = some a7 ∧ w.cell? ⟨b, 8, none⟩ = some a8 ∧ w.cell? ⟨b, 9, none⟩ = some a9 ∧ w.cell? ⟨b, 10, none⟩ = some a10 ∧ w.cell? ⟨b, 11, none⟩ = some a11 ∧ w.cell? ⟨b, 12, none⟩ = some a12 ∧ w.cell? ⟨b, 13, none⟩ = some a13 ∧ w.cell? ⟨b, 14, none⟩ = some a14 ∧ w.cell? ⟨b, 15, none⟩ = some a15 := ⟨h.2 1 _ rfl, h.2 2 _ rfl, h.2 3 _ rfl, h.2 4 _ rfl, h.2 5 _ rfl, h.2 6 _ rfl, h.2 7 _ rfl, h.2 8 _ rfl, h.2 9 _ rfl, h.2 10 _ rfl, h.2 11 _ rfl, h.2 12 _ rfl, h.2 13 _ rfl, h.2 14 _ rfl, h.2 15 _ rfl⟩
theorem bxC (h : Box w b (a0 :: a1 :: a2 :: a3 :: a4 :: a5 :: a6 :: a7 :: a8 :: a9 :: a10 :: a11 :: a12 :: a13 :: a14 :: a15 :: a16 :: a17 :: a18 :: a19 :: a20 :: a21 :: a22 :: a23 :: l)) : w.cell? ⟨b, 0, none⟩ = some a0 ∧ w.cell? ⟨b, 16, none⟩ = some a16 ∧ w.cell? ⟨b, 17, none⟩ = some a17 ∧ w.cell? ⟨b, 18, none⟩ = some a18 ∧ w.cell? ⟨b, 19, none⟩ = some a19 ∧ w.cell? ⟨b, 20, none⟩ = some a20 ∧ w.cell? ⟨b, 21, none⟩ = some a21 ∧ w.cell? ⟨b, 22, none⟩ = some a22 ∧ w.cell? ⟨b, 23, none⟩ = some a23 := ⟨h.2 0 _ rfl, h.2 16 _ rfl, h.2 17 _ rfl, h.2 18 _ rfl, h.2 19 _ rfl, h.2 20 _ rfl, h.2 21 _ rfl, h.2 22 _ rfl, h.2 23 _ rfl⟩
theorem bxD {a24 a25 a26 a27 : Value} (h : Box w b (a0 :: a1 :: a2 :: a3 :: a4 :: a5 :: a6 :: a7 :: a8 :: a9 :: a10 :: a11 :: a12 :: a13 :: a14 :: a15 :: a16 :: a17 :: a18 :: a19 :: a20 :: a21 :: a22 :: a23 :: a24 :: a25 :: a26 :: a27 :: l)) : w.cell? ⟨b, 0, none⟩ = some a0 ∧ w.cell? ⟨b, 24, none⟩ = some a24 ∧ w.cell? ⟨b, 25, none⟩ = some a25 ∧ w.cell? ⟨b, 26, none⟩ = some a26 ∧ w.cell? ⟨b, 27, none⟩ = some a27 := ⟨h.2 0 _ rfl, h.2 24 _ rfl, h.2 25 _ rfl, h.2 26 _ rfl, h.2 27 _ rfl⟩
theorem Box.new (w : World) (vs : Array Value) (t : TypeId) (fr : Nat × Nat) : Box (w.alloc (.cells vs t fr)) w.heap.size vs.toList := by
 refine ⟨by simp, fun c u hu => ?_⟩
 rw [Array.getElem?_toList] at hu;have h : (w.alloc (.cells vs t fr)).heap[w.heap.size]? = some (.cells vs t fr) := by
  show (w.heap.push _)[w.heap.size]? = _;rw [Array.getElem?_push];simp
 simp only [World.cell?, h];exact hu
theorem Box.below (h : Box w b L) (hb : Bl w w') : Box w' b L := ⟨Nat.lt_of_lt_of_le h.1 hb.size, fun c u hu => (hb.cell (p := ⟨b, c, none⟩) h.1).trans (h.2 c u hu)⟩
theorem Box.range (h : Box w b L) (c : Nat) (cs : List Value) (hcs : (L.drop c).take cs.length = cs) : w.rangeAt b c cs := by
 intro j v hv;refine h.2 (c + j) v ?_;rw [← hcs, List.getElem?_take] at hv;split at hv
 · rwa [List.getElem?_drop] at hv
 cases hv
structure CB where
 has : Bool
 t : TB
structure SO where
 a : Option Addr
 cap : Nat
 n : Nat
 cel : Nat → CB
def SL.same (x y : SL) : Prop := x.b = y.b
theorem upper_set (v : Value) : Upper (g + 1) w (w.setCell ⟨g, i, none⟩ v) := by
 have hb := (But.refl g w).set i v;exact ⟨by rw [hb.size]; exact nR, fun b h1 _ => hb.block b (by omega)⟩
theorem Upper.trans (h : Upper B w w') (k : Upper B w' w'') : Upper B w w'' := ⟨Nat.le_trans h.size k.size, fun b h1 h2 => (k.block b h1 (Nat.lt_of_lt_of_le h2 h.size)).trans (h.block b h1 h2)⟩
theorem Upper.mono (h : Upper B w w') (hB : B ≤ B') : Upper B' w w' := ⟨h.size, fun b h1 h2 => h.block b (by omega) h2⟩
theorem upper_sets (g : Nat) : ∀ (vs : List Value) (o : Nat) (w : World), Upper (g + 1) w (w.setCells g o vs)
 | [], _, _ => ⟨nR, fun _ _ _ => rfl⟩
 | v :: r, o, w => (upper_set v).trans (upper_sets g r (o + 1) (w.setCell ⟨g, o, none⟩ v))
theorem below_sets (g : Nat) (hg : w0.heap.size ≤ g) : ∀ (vs : List Value) (o : Nat) (w : World), Bl w0 w → Bl w0 (w.setCells g o vs)
 | [], _, _, h => h
 | v :: r, o, _, h => below_sets g hg r (o + 1) _ (h.setCell (p := ⟨g, o, none⟩) hg v)
def OB (w : World) (b : Nat) (L : List Value) : Prop := b < w.heap.size ∧ ∀ c u, L[c]? = some u → w.cell? ⟨b, c, none⟩ = some u ∧ w.frozen? ⟨b, c, none⟩ = false
theorem OB.new (w : World) (vs : Array Value) (t : TypeId) : OB (w.alloc (.cells vs t)) w.heap.size vs.toList := by
 refine ⟨by simp, fun c u hu => ⟨(Box.new w vs t _).2 c u hu, by simp [go_sem]⟩⟩
theorem OB.below (h : OB w b L) (hb : Bl w w') : OB w' b L := ⟨Nat.lt_of_lt_of_le h.1 hb.size, fun c u hu => ⟨(hb.cell (p := ⟨b, c, none⟩) h.1).trans (h.2 c u hu).1, (hb.frozen (p := ⟨b, c, none⟩) h.1).trans (h.2 c u hu).2⟩⟩
theorem OB.set (h : OB w b L) (c : Nat) (v : Value) : OB (w.setCell ⟨b, c, none⟩ v) b (L.set c v) := by
 refine ⟨by simpa using h.1, fun j u hu => ?_⟩
 by_cases e : c = j
 · subst e
   by_cases hc : c < L.length
   · rw [List.getElem?_set, if_pos rfl, if_pos hc] at hu
     cases hu;have h2 := h.2 c _ (List.getElem?_eq_getElem hc);exact ⟨set_same h2.1, by rw [World.frozen?_setCell]; exact h2.2⟩
   rw [List.getElem?_eq_none (by rw [List.length_set]; omega)] at hu;cases hu
 rw [List.getElem?_set, if_neg e] at hu;have h2 := h.2 j u hu;exact ⟨(set_other (fun e' => e e'.symm)).trans h2.1, by rw [World.frozen?_setCell]; exact h2.2⟩
def setL : List Value → Nat → List Value → List Value
 | L, _, [] => L
 | L, o, v :: r => setL (L.set o v) (o + 1) r
theorem OB.sets : ∀ (vs : List Value) (o : Nat) {w : World} {L : List Value}, OB w b L → OB (w.setCells b o vs) b (setL L o vs)
 | [], _, _, _, h => h
 | v :: r, o, _, _, h => OB.sets r (o + 1) (h.set o v)
theorem OB.but (h : OB w b L) (hb : But g w w') (hne : b ≠ g) : OB w' b L := ⟨by rw [hb.size]; exact h.1, fun c u hc => ⟨(hb.cell (p := ⟨b, c, none⟩) hne).trans (h.2 c u hc).1, (World.frozen?_of_block (w := w) (a := ⟨b, c, none⟩) (hb.block b hne)).trans (h.2 c u hc).2⟩⟩
theorem but_trans (h : But g w w') (k : But g w' w'') : But g w w'' := ⟨k.os.trans h.os, k.tape.trans h.tape, k.output.trans h.output, k.size.trans h.size, fun b hb => (k.block b hb).trans (h.block b hb)⟩
theorem but_sets (g : Nat) : ∀ (vs : List Value) (o : Nat) (w : World), But g w (w.setCells g o vs)
 | [], _, w => But.refl g w
 | v :: r, o, w => but_trans ((But.refl g w).set o v) (but_sets g r (o + 1) _)
theorem OB.box (h : OB w b L) : Box w b L := ⟨h.1, fun c u hu => (h.2 c u hu).1⟩
theorem OB.there (h : OB w b L) (o n : Nat) (hn : o + n ≤ L.length) : w.there b o n := fun j hj => by
 have h2 := h.2 (o + j) _ (List.getElem?_eq_getElem (by omega))
 exact ⟨by rw [h2.1]; rfl, h2.2⟩
theorem Box.upper (h : Box w b L) (hb : But B w w') (hne : b ≠ B) : Box w' b L := ⟨by rw [hb.size]; exact h.1, fun c u hc => (hb.cell (p := ⟨b, c, none⟩) hne).trans (h.2 c u hc)⟩
structure TS (w0 W : World) (pc zc oc : List Value) : Prop where
 bl : Bl w0 W
 px : Box W w0.heap.size pc
 rz : OB W (w0.heap.size + 1) zc
 ox : OB W (w0.heap.size + 1 + 1) oc
theorem TS.new (w : World) (pc zc oc : Array Value) (t u v : TypeId) : TS w (((w.alloc (.cells pc t)).alloc (.cells zc u)).alloc (.cells oc v)) pc.toList zc.toList oc.toList := by
 refine ⟨bl_alloc (bl_alloc (bl_a _) _) _, ?_, ?_, ?_⟩
 · exact ((Box.new w pc t _).below (bl_a _)).below (bl_a _)
 · have h := (OB.new (w.alloc (.cells pc t)) zc u).below (bl_a (.cells oc v))
   simpa using h
 have h := OB.new ((w.alloc (.cells pc t)).alloc (.cells zc u)) oc v;simpa using h
theorem TS.below {W' : World} (h : TS w0 W pc zc oc) (hb : Bl W W') : TS w0 W' pc zc oc := ⟨bl_trans h.bl hb, h.px.below hb, h.rz.below hb, h.ox.below hb⟩
theorem TS.set (h : TS w0 W pc zc oc) (c : Nat) (v : Value) : TS w0 (W.setCell ⟨w0.heap.size + 1 + 1, c, none⟩ v) pc zc (oc.set c v) := by
 have hb : But (w0.heap.size + 1 + 1) W (W.setCell ⟨w0.heap.size + 1 + 1, c, none⟩ v) := (But.refl _ _).set c v;exact ⟨h.bl.setCell (p := ⟨w0.heap.size + 1 + 1, c, none⟩) (by show w0.heap.size ≤ w0.heap.size + 1 + 1; omega) v, h.px.upper hb (by omega), h.rz.but hb (by omega), h.ox.set c v⟩
theorem TS.sets (h : TS w0 W pc zc oc) (o : Nat) (vs : List Value) : TS w0 (W.setCells (w0.heap.size + 1 + 1) o vs) pc zc (setL oc o vs) :=
 ⟨below_sets _ (by omega) vs o W h.bl, h.px.upper (but_sets _ vs o W) (by omega), h.rz.but (but_sets _ vs o W) (by omega), h.ox.sets vs o⟩
theorem TS.base (h : TS w0 W pc zc oc) : w0.heap.size + 1 + 1 + 1 ≤ W.heap.size := h.ox.1
theorem results_cell {fn : Func} {tmps : Array Value} {a : Nat} {t : TypeId} {ad : Addr} (hf : fn.results = #[.cell a t]) (ht : tmps.getD a undef = .pointer (some ad)) (hl : (loadVar t ad).run P w = .ok v w) : (results fn tmps).run P w = .ok v w := by
 have h2 : tmps[a]?.getD undef = .pointer (some ad) := by simpa using ht
 simp [results, hf, h2, asAddr, hl]
def TxW (B : Nat) (w : World) (x : SL) : Prop := x.len = 0 ∨ ∃ g, x.a = some ⟨g, 0, none⟩ ∧ B ≤ g ∧ g < w.heap.size ∧ ∀ i, i < x.len → w.frozen? ⟨g, i, none⟩ = false
theorem TxW.upper {x : SL} (h : TxW B w x) (hu : Upper B w w') : TxW B w' x := by
 rcases h with h | ⟨g, ha, hB, hlt, hf⟩
 · exact .inl h
 exact .inr ⟨g, ha, hB, Nat.lt_of_lt_of_le hlt hu.size, fun i hi => (World.frozen?_of_block (w := w) (a := ⟨g, i, none⟩) (hu.block g hB hlt)).trans (hf i hi)⟩
theorem TxW.base {x : SL} (h : TxW B w x) (hB : B' ≤ B) : TxW B' w x := by
 rcases h with h | ⟨g, ha, hb, r⟩
 · exact .inl h
 exact .inr ⟨g, ha, Nat.le_trans hB hb, r⟩
def FrW (B : Nat) (w : World) (g m : Nat) : Prop := m = 0 ∨ B ≤ g ∧ g < w.heap.size ∧ ∀ j, j < m → w.frozen? ⟨g, j, none⟩ = false
theorem FrW.upper {m : Nat} (h : FrW B w g m) (hu : Upper B w w') : FrW B w' g m := by
 rcases h with h | ⟨hB, hlt, hf⟩
 · exact .inl h
 exact .inr ⟨hB, Nat.lt_of_lt_of_le hlt hu.size, fun j hj => (World.frozen?_of_block (w := w) (a := ⟨g, j, none⟩) (hu.block g hB hlt)).trans (hf j hj)⟩
theorem FrW.base {m : Nat} (h : FrW B w g m) (hB : B' ≤ B) : FrW B' w g m := by
 rcases h with h | ⟨hb, r⟩
 · exact .inl h
 exact .inr ⟨Nat.le_trans hB hb, r⟩
def SL.own (B : Nat) (w : World) (x : SL) : Prop := BsF B w x ∧ TxW B w x
theorem SL.own.upper {x : SL} (h : x.own B w) (hu : Upper B w w') : x.own B w' := ⟨h.1.upper hu, h.2.upper hu⟩
theorem SL.own.base {x : SL} (h : x.own B w) (hB : B' ≤ B) : x.own B' w := ⟨h.1.base hB, h.2.base hB⟩
theorem toByteSW (x : SL) (w : World) (h : BsF 0 w x) : Calls Tryz.prog 33 #[.slice x.a x.len x.cap] w fun e w' => ∃ y : SL, e = .returned (.slice y.a y.len y.cap) ∧ y.own w.heap.size w' ∧ x.same y ∧ Bl w w' := by
 refine (toByteS_any x.a _ _ x.b w h.1).mono ?_;rintro e w' ⟨rfl, rfl⟩;obtain ⟨h1, h2, h3, _⟩ := h.1;exact ⟨⟨some _, x.len, x.len, x.b⟩, rfl, ⟨⟨Bs.made w x.b _ h1 h2 h3, .inr fun p hp => by cases hp; exact nR⟩, .inr ⟨w.heap.size, rfl, nR, by simp, fun i _ => by simp [go_sem]⟩⟩, rfl, bl_a _⟩
theorem toTermW (x : TB) (w : World) (h : BsF 0 w x.sl) (hf : x.t.fits) : Calls Tryz.prog 80 #[.agg #[.int .i64 x.t.k, .slice x.t.a x.t.len x.t.cap, .int .i64 x.t.n, .int .i64 x.t.s]] w fun e w' => ∃ y : TB, e = .returned (.agg #[.int .i64 y.t.k, .slice y.t.a y.t.len y.t.cap, .int .i64 y.t.n, .int .i64 y.t.s]) ∧ BsF w.heap.size w' y.sl ∧ TxW w.heap.size w' y.sl ∧ y.t.fits ∧ x.td = y.td ∧ Bl w w' := by
 refine (toTerm_new _ _ _ _ x.t.len _ x.b w h.1).mono ?_;rintro e w' ⟨g, rfl, hO, hg, hb⟩;exact ⟨⟨⟨x.t.k, some _, x.t.len, x.t.len, x.t.n, x.t.s⟩, x.b⟩, rfl, ⟨hO.1, .inr fun p hp => by cases hp; exact hg⟩, .inr ⟨g, rfl, hg, hO.2.1, hO.2.2.2⟩, hf, rfl, hb⟩
def U8 (w : World) (b j : Nat) : Prop := ∃ v, w.cell? ⟨b, j, none⟩ = some (.int .u8 v)
theorem cell_set_other (h : b ≠ g ∨ j ≠ i) : (w.setCell ⟨g, i, none⟩ v).cell? ⟨b, j, none⟩ = w.cell? ⟨b, j, none⟩ := by
 by_cases hb : b = g
 · subst hb
   exact set_other (h.resolve_left (fun k => k rfl))
 exact World.cell?_of_block (Below.heap_setCell _ _ _ _ (by exact hb))
structure Mid (B C : Nat) (w w' : World) : Prop where
 os : w'.os = w.os
 tape : w'.tape = w.tape
 output : w'.output = w.output
 size : w'.heap.size = w.heap.size
 block : ∀ b, b < B ∨ C ≤ b → w'.heap[b]? = w.heap[b]?
theorem Mid.refl (B C : Nat) (w : World) : Mid B C w w := ⟨rfl, rfl, rfl, rfl, fun _ _ => rfl⟩
theorem Mid.but (h : Mid B C w w1) (k : But g w1 w2) (hB : B ≤ g) (hC : g < C) : Mid B C w w2 :=
 ⟨k.os.trans h.os, k.tape.trans h.tape, k.output.trans h.output, k.size.trans h.size, fun b hb => (k.block b (by omega)).trans (h.block b hb)⟩
theorem Mid.set (h : Mid B C w w1) (hB : B ≤ g) (hC : g < C) : Mid B C w (w1.setCell ⟨g, i, none⟩ v) := h.but ((But.refl g w1).set i v) hB hC
def N64 (w : World) (b j : Nat) : Prop := ∃ v, w.cell? ⟨b, j, none⟩ = some (.int .i64 v)
def Bo (w : World) (b j : Nat) : Prop := ∃ v, w.cell? ⟨b, j, none⟩ = some (.bool v)
structure KB (w w' : World) : Prop where
 u : ∀ b j, U8 w b j → U8 w' b j
 i : ∀ b j, N64 w b j → N64 w' b j
 o : ∀ b j, Bo w b j → Bo w' b j
 s : ∀ b j a l c, w.cell? ⟨b, j, none⟩ = some (.slice a l c) → w'.cell? ⟨b, j, none⟩ = some (.slice a l c)
 f : ∀ p, w'.frozen? p = w.frozen? p
theorem KB.refl (w : World) : KB w w := ⟨fun _ _ h => h, fun _ _ h => h, fun _ _ h => h, fun _ _ _ _ _ h => h, fun _ => rfl⟩
theorem KB.trans (h : KB w w') (k : KB w' w'') : KB w w'' := ⟨fun b j q => k.u b j (h.u b j q), fun b j q => k.i b j (h.i b j q), fun b j q => k.o b j (h.o b j q), fun b j a l c q => k.s b j a l c (h.s b j a l c q), fun p => (k.f p).trans (h.f p)⟩
theorem KB.set {n : Int} (h : N64 w g i) : KB w (w.setCell ⟨g, i, none⟩ (.int .i64 n)) := by
 obtain ⟨v, hv⟩ := h;refine ⟨fun b j hu => ?_, fun b j hu => ?_, fun b j hu => ?_, fun b j a l c hu => ?_, fun p => World.frozen?_setCell _ _ _ _⟩
 · by_cases e : b = g ∧ j = i
   · obtain ⟨rfl, rfl⟩ := e
     obtain ⟨u, hu⟩ := hu;rw [hv] at hu;cases hu
   unfold U8;rw [cell_set_other (by omega)];exact hu
 · by_cases e : b = g ∧ j = i
   · obtain ⟨rfl, rfl⟩ := e
     exact ⟨_, set_same hv⟩
   unfold N64;rw [cell_set_other (by omega)];exact hu
 · by_cases e : b = g ∧ j = i
   · obtain ⟨rfl, rfl⟩ := e
     obtain ⟨u, hu⟩ := hu;rw [hv] at hu;cases hu
   unfold Bo;rw [cell_set_other (by omega)];exact hu
 by_cases e : b = g ∧ j = i
 · obtain ⟨rfl, rfl⟩ := e
   rw [hv] at hu;cases hu
 rw [cell_set_other (by omega)];exact hu
theorem KB.setb {n : Int} (h : U8 w g i) : KB w (w.setCell ⟨g, i, none⟩ (.int .u8 n)) := by
 obtain ⟨v, hv⟩ := h;refine ⟨fun b j hu => ?_, fun b j hu => ?_, fun b j hu => ?_, fun b j a l c hu => ?_, fun p => World.frozen?_setCell _ _ _ _⟩
 · by_cases e : b = g ∧ j = i
   · obtain ⟨rfl, rfl⟩ := e
     exact ⟨_, set_same hv⟩
   unfold U8;rw [cell_set_other (by omega)];exact hu
 · by_cases e : b = g ∧ j = i
   · obtain ⟨rfl, rfl⟩ := e
     obtain ⟨u, hu⟩ := hu;rw [hv] at hu;cases hu
   unfold N64;rw [cell_set_other (by omega)];exact hu
 · by_cases e : b = g ∧ j = i
   · obtain ⟨rfl, rfl⟩ := e
     obtain ⟨u, hu⟩ := hu;rw [hv] at hu;cases hu
   unfold Bo;rw [cell_set_other (by omega)];exact hu
 by_cases e : b = g ∧ j = i
 · obtain ⟨rfl, rfl⟩ := e
   rw [hv] at hu;cases hu
 rw [cell_set_other (by omega)];exact hu
def TxM (B C : Nat) (w : World) (a : Option Addr) (len : Nat) : Prop := len ≤ 1048576 ∧ (len = 0 ∨ ∃ g, a = some ⟨g, 0, none⟩ ∧ B ≤ g ∧ g < C ∧ ∀ i, i < len → U8 w g i ∧ w.frozen? ⟨g, i, none⟩ = false)
theorem TxM.kb (h : TxM B C w a len) (k : KB w w') : TxM B C w' a len := by
 refine ⟨h.1, ?_⟩;rcases h.2 with h | ⟨g, ha, hB, hC, hx⟩
 · exact .inl h
 exact .inr ⟨g, ha, hB, hC, fun i hi => ⟨k.u _ _ (hx i hi).1, (k.f _).trans (hx i hi).2⟩⟩
theorem SL.own.marks {x : SL} (h : x.own B w) (hb : Bl w w') : TxM B w.heap.size w' x.a x.len := by
 obtain ⟨h1, h2⟩ := h;refine ⟨h1.1.2.1, ?_⟩;rcases h2 with h2 | ⟨g, ha, hB, hlt, hf⟩
 · exact .inl h2
 rcases h1.1.2.2.2 with h3 | ⟨b, off, ha', _, hc⟩
 · exact .inl h3
 rw [ha] at ha';cases ha';exact .inr ⟨g, ha, hB, hlt, fun i hi => ⟨⟨_, (hb.cell (p := ⟨g, i, none⟩) hlt).trans (by have := hc i hi; rwa [Nat.zero_add] at this)⟩, (hb.frozen (p := ⟨g, i, none⟩) hlt).trans (hf i hi)⟩⟩
abbrev MC := Nat × Nat × Bool
def mv (c : MC) (k : Int) : Value := if c.2.2 then .int .u8 (IntKind.u8.wrap k) else .int .i64 k
def wrs : List MC → Int → World → World
 | [], _, w => w
 | c :: L, k, w => wrs L (k + 1) (w.setCell ⟨c.1, c.2.1, none⟩ (mv c k))
theorem wrs_app (A L : List MC) : ∀ (k : Int) (w : World), wrs (A ++ L) k w = wrs L (k + A.length) (wrs A k w) := by
 induction A with
 | nil => intro k w; simp [wrs]
 | cons c A ih =>
  intro k w;show wrs (A ++ L) (k + 1) _ = wrs L _ (wrs A (k + 1) _);rw [ih, List.length_cons];congr 1;omega
def Hl (w : World) : List MC → Int → Prop
 | [], _ => True
 | c :: L, k => w.cell? ⟨c.1, c.2.1, none⟩ = some (mv c k) ∧ Hl w L (k + 1)
theorem Hl.app {A L : List MC} : ∀ {k : Int}, Hl w (A ++ L) k → Hl w A k ∧ ∀ q, q = k + (A.length : Int) → Hl w L q := by
 induction A with
 | nil => intro k h; exact ⟨trivial, fun q hq => by rw [hq]; simpa using h⟩
 | cons c A ih =>
  intro k h;have h2 := ih h.2;refine ⟨⟨h.1, h2.1⟩, fun q hq => h2.2 q ?_⟩;rw [hq, List.length_cons];omega
theorem Hl.below {L : List MC} (hb : ∀ c ∈ L, w'.cell? ⟨c.1, c.2.1, none⟩ = w.cell? ⟨c.1, c.2.1, none⟩) : ∀ {k : Int}, Hl w L k → Hl w' L k := by
 induction L with
 | nil => intro k _; trivial
 | cons c L ih => intro k h; exact ⟨(hb c List.mem_cons_self).trans h.1, ih (fun x hx => hb x (List.mem_cons_of_mem _ hx)) h.2⟩
structure Mg (B C : Nat) (w w' : World) : Prop where
 os : w'.os = w.os
 tape : w'.tape = w.tape
 output : w'.output = w.output
 size : w.heap.size ≤ w'.heap.size
 block : ∀ b, b < w.heap.size → b < B ∨ C ≤ b → w'.heap[b]? = w.heap[b]?
theorem Mg.refl (B C : Nat) (w : World) : Mg B C w w := ⟨rfl, rfl, rfl, nR, fun _ _ _ => rfl⟩
theorem Mg.tr (h : Mg B C w w1) (k : Mg B C w1 w2) : Mg B C w w2 :=
 ⟨k.os.trans h.os, k.tape.trans h.tape, k.output.trans h.output, Nat.le_trans h.size k.size, fun b hb hc => (k.block b (Nat.lt_of_lt_of_le hb h.size) hc).trans (h.block b hb hc)⟩
theorem Mg.of_mid (h : Mid B C w w') : Mg B C w w' := ⟨h.os, h.tape, h.output, by rw [h.size]; exact nR, fun b _ hc => h.block b hc⟩
theorem Mg.of_below (h : Bl w w') : Mg B C w w' := ⟨h.os, h.tape, h.output, h.size, fun b hb _ => h.block b hb⟩
theorem Mg.below (h : Mg B C w w') (hB : B ≤ w.heap.size) : Below B w w' := ⟨h.os, h.tape, h.output, h.size, fun b hb => h.block b (by omega) (.inl hb)⟩
theorem set_none (h : w.cell? ⟨g, i, none⟩ = none) : (w.setCell ⟨g, i, none⟩ v).cell? ⟨g, i, none⟩ = none := by
 unfold World.cell? World.setCell at *;simp only [Array.getElem?_modify] at *;cases hb : w.heap[g]? with
 | none => simp
 | some o =>
  rw [hb] at h;cases o <;> simp_all
theorem set_cell {o : Nat} : (w.setCell ⟨g, i, none⟩ v).cell? ⟨b, o, none⟩ = if b = g ∧ o = i then (w.cell? ⟨b, o, none⟩).map (fun _ => v) else w.cell? ⟨b, o, none⟩ := by
 by_cases e : b = g ∧ o = i
 · rw [if_pos e]
   obtain ⟨rfl, rfl⟩ := e;cases hc : w.cell? ⟨b, o, none⟩ with
   | none => exact set_none hc
   | some u => exact set_same hc
 rw [if_neg e];exact cell_set_other (by omega)
theorem wrs_congr {L : List MC} : ∀ {k : Int} {w w' : World}, (∀ b o, b < C → w'.cell? ⟨b, o, none⟩ = w.cell? ⟨b, o, none⟩) → ∀ b o, b < C → (wrs L k w').cell? ⟨b, o, none⟩ = (wrs L k w).cell? ⟨b, o, none⟩ := by
 induction L with
 | nil => intro k w w' h; exact h
 | cons c L ih =>
  intro k w w' h;exact ih fun b o hb => by rw [set_cell, set_cell, h b o hb]
theorem wrs_ex {L : List MC} : ∀ {k : Int} {w : World} {b o : Nat} {v : Value}, (wrs L k w).cell? ⟨b, o, none⟩ = some v → ∃ u, w.cell? ⟨b, o, none⟩ = some u := by
 induction L with
 | nil => intro k w b o v h; exact ⟨v, h⟩
 | cons c L ih =>
  intro k w b o v h;obtain ⟨u, hu⟩ := ih h;rw [set_cell] at hu;split at hu
  · cases hc : w.cell? ⟨b, o, none⟩ with
    | some u => exact ⟨u, rfl⟩
    | none => rw [hc] at hu; cases hu
  exact ⟨_, hu⟩
structure Mkd (B C : Nat) (w w' : World) (A : List MC) (k m : Int) : Prop where
 q : m = k + A.length
 e : ∀ b o, b < C → w'.cell? ⟨b, o, none⟩ = (wrs A k w).cell? ⟨b, o, none⟩
 kb : KB w w'
 mid : Mg B C w w'
 ex : ∀ c ∈ A, (B ≤ c.1 ∧ c.1 < C) ∧ ∃ v, w.cell? ⟨c.1, c.2.1, none⟩ = some v
theorem Mkd.refl (B C : Nat) (w : World) (k : Int) : Mkd B C w w [] k k := ⟨by simp, fun _ _ _ => rfl, KB.refl _, Mg.refl _ _ _, fun _ h => by cases h⟩
theorem Mkd.app {A L : List MC} {z q : Int} (h : Mkd B C w w1 A k m) (h2 : Mkd B C w1 w2 L z q) (hz : z = m) : Mkd B C w w2 (A ++ L) k q := by
 subst hz;refine ⟨by rw [List.length_append, h2.q, h.q]; omega, fun b o hb => ?_, h.kb.trans h2.kb, h.mid.tr h2.mid, fun c hc => ?_⟩
 · rw [wrs_app, ← h.q, h2.e b o hb]
   exact wrs_congr h.e b o hb
 rcases List.mem_append.1 hc with hc | hc
 · exact h.ex c hc
 obtain ⟨hh, v, hv⟩ := h2.ex c hc;rw [h.e _ _ hh.2] at hv;exact ⟨hh, wrs_ex hv⟩
theorem Mkd.num {A : List MC} {x : Int} {o : Nat} (h : Mkd B C w w1 A k m) (hn : N64 w g o) (hB : B ≤ g) (hC : g < C) (hx : x = m) : Mkd B C w (w1.setCell ⟨g, o, none⟩ (.int .i64 x)) (A ++ [(g, o, false)]) k (m + 1) := by
 subst hx;refine h.app (q := x + 1) (z := x) ⟨rfl, fun _ _ _ => rfl, KB.set (h.kb.i _ _ hn), Mg.of_mid ((Mid.refl _ _ _).set hB hC), fun c hc => ?_⟩ rfl;rw [List.mem_singleton] at hc;subst hc;obtain ⟨v, hv⟩ := h.kb.i _ _ hn;exact ⟨⟨hB, hC⟩, _, hv⟩
theorem Mkd.byt {A : List MC} {x : Int} {o : Nat} (h : Mkd B C w w1 A k m) (hn : U8 w g o) (hB : B ≤ g) (hC : g < C) (hx : x = IntKind.u8.wrap m) : Mkd B C w (w1.setCell ⟨g, o, none⟩ (.int .u8 x)) (A ++ [(g, o, true)]) k (m + 1) := by
 subst hx;refine h.app (q := m + 1) (z := m) ⟨rfl, fun _ _ _ => rfl, KB.setb (h.kb.u _ _ hn), Mg.of_mid ((Mid.refl _ _ _).set hB hC), fun c hc => ?_⟩ rfl;rw [List.mem_singleton] at hc;subst hc;obtain ⟨v, hv⟩ := h.kb.u _ _ hn;exact ⟨⟨hB, hC⟩, _, hv⟩
theorem KB.box (w : World) (cs : Array Value) (t : TypeId) : KB w (w.alloc (.cells cs t)) := by
 have hs : ∀ {b j : Nat} {v : Value}, w.cell? ⟨b, j, none⟩ = some v → (w.alloc (.cells cs t)).cell? ⟨b, j, none⟩ = some v := fun {b j v} h => by
  have hb : b < w.heap.size := by
   unfold World.cell? at h;cases he : w.heap[b]? with
   | none => simp [he] at h
   | some _ => exact (Array.getElem?_eq_some_iff.1 he).1
  exact ((bl_a (w := w) (.cells cs t)).cell (p := ⟨b, j, none⟩) hb).trans h
 refine ⟨fun b j ⟨v, h⟩ => ⟨v, hs h⟩, fun b j ⟨v, h⟩ => ⟨v, hs h⟩, fun b j ⟨v, h⟩ => ⟨v, hs h⟩, fun b j a l c h => hs h, fun p => ?_⟩;by_cases hp : p.block < w.heap.size
 · exact (bl_a (w := w) (.cells cs t)).frozen hp
 unfold World.frozen? World.alloc;have h1 : w.heap[p.block]? = none := Array.getElem?_eq_none (by omega);rw [h1, Array.getElem?_push];by_cases e : p.block = w.heap.size
 · simp [e]
 rw [if_neg e];simp [h1]
theorem Mkd.box {A : List MC} (h : Mkd B C w w1 A k m) (hC : C ≤ w.heap.size) (cs : Array Value) (t : TypeId) : Mkd B C w (w1.alloc (.cells cs t)) A k m := by
 refine ⟨h.q, fun b o hb => ?_, h.kb.trans (KB.box _ _ _), h.mid.tr (Mg.of_below (bl_a _)), h.ex⟩;rw [← h.e b o hb];exact (bl_a (w := w1) (.cells cs t)).cell (p := ⟨b, o, none⟩) (Nat.lt_of_lt_of_le hb (Nat.le_trans hC h.mid.size))
def psM (L : List MC) : List (Nat × Nat) := L.map (fun c => (c.1, c.2.1))
theorem wrs_other {L : List MC} : ∀ {k : Int} {w : World} {b o : Nat}, (b, o) ∉ psM L → (wrs L k w).cell? ⟨b, o, none⟩ = w.cell? ⟨b, o, none⟩ := by
 induction L with
 | nil => intro k w b o _; rfl
 | cons c L ih =>
  intro k w b o h;have h' : (b, o) ≠ (c.1, c.2.1) ∧ (b, o) ∉ psM L := by simpa [psM] using h
  show (wrs L (k + 1) _).cell? _ = _;rw [ih h'.2, cell_set_other];have := h'.1;simp only [ne_eq, Prod.mk.injEq, not_and] at this;by_cases e : b = c.1
  · exact .inr (this e)
  exact .inl e
theorem wrs_held {A : List MC} : ∀ {k : Int} {w : World}, (psM A).Nodup → (∀ c ∈ A, ∃ v, w.cell? ⟨c.1, c.2.1, none⟩ = some v) → Hl (wrs A k w) A k := by
 induction A with
 | nil => intro k w _ _; trivial
 | cons c A ih =>
  intro k w hd hx';have hd' : (c.1, c.2.1) ∉ psM A ∧ (psM A).Nodup := by simpa [psM] using hd
  obtain ⟨v, hv⟩ := hx' c List.mem_cons_self;refine ⟨?_, ih hd'.2 fun x hc => ?_⟩
  · show (wrs A (k + 1) _).cell? _ = _
    rw [wrs_other hd'.1];exact set_same hv
  obtain ⟨u, hu⟩ := hx' x (List.mem_cons_of_mem _ hc);rw [set_cell, hu];split
  · exact ⟨_, rfl⟩
  exact ⟨_, rfl⟩
theorem Mkd.held {A : List MC} (h : Mkd B C w w' A k m) (hd : (psM A).Nodup) : Hl w' A k :=
 Hl.below (fun c hc => h.e _ _ (h.ex c hc).1.2) (wrs_held hd fun c hc => (h.ex c hc).2)
def catM (f : Nat → List MC) : Nat → List MC
 | 0 => []
 | n + 1 => catM f n ++ f n
theorem catM_mono {f : Nat → List MC} (h : j ≤ n) : (catM f j).length ≤ (catM f n).length := by
 induction n with
 | zero => cases h; exact nR
 | succ n ih =>
  by_cases e : j = n + 1
  · rw [e]; exact nR
  show _ ≤ (catM f n ++ f n).length;rw [List.length_append];have := ih (by omega);omega
theorem catM_le {f : Nat → List MC} (h : j < n) : (catM f j).length + (f j).length ≤ (catM f n).length := by
 have := catM_mono (f := f) (show j + 1 ≤ n by omega);rw [show catM f (j + 1) = catM f j ++ f j from rfl, List.length_append] at this;exact this
theorem catM_ge {f : Nat → List MC} (h : ∀ i, 1 ≤ (f i).length) : ∀ n, n ≤ (catM f n).length
 | 0 => nR
 | n + 1 => by
   show n + 1 ≤ (catM f n ++ f n).length
   rw [List.length_append]
   have := catM_ge h n
   have := h n
   omega
theorem Hl.cat {f : Nat → List MC} (h : j < n) : ∀ {k : Int}, Hl w (catM f n) k → ∀ q, q = k + ((catM f j).length : Int) → Hl w (f j) q := by
 induction n with
 | zero => omega
 | succ n ih =>
  intro k hh q hq;have h2 := Hl.app (A := catM f n) (L := f n) hh;by_cases e : j = n
  · rw [e] at hq ⊢
    exact h2.2 q hq
  exact ih (by omega) h2.1 q hq
def blk : Option Addr → Nat
 | some p => p.block
 | none => 0
def txC (a : Option Addr) (len : Nat) : List MC := (List.range len).map fun i => (blk a, i, true)
theorem txC_len (a : Option Addr) (len : Nat) : (txC a len).length = len := by simp [txC]
def MkX (B C : Nat) (w : World) (L : List MC) (k : Int) (e : Ending) (w' : World) : Prop := ∃ q : Int, e = .returned (.int .i64 q) ∧ Mkd B C w w' L k q
def HdX (w : World) (L : List MC) (k : Int) (e : Ending) (w' : World) : Prop := ∃ q : Int, e = .returned (.int .i64 q) ∧ Hd (q = k + (L.length : Int)) ∧ w' = w
theorem markText_x (B C : Nat) (a : Option Addr) (len cap : Nat) (k : Int) (w : World) (h : TxM B C w a len) (hk : 0 ≤ k) (hk2 : k ≤ 2305843009213693952) :
 Calls Tryz.prog 49 #[.slice a len cap, .int .i64 k] w (MkX B C w (txC a len) k) := by
 obtain ⟨hlen, h⟩ := h;by_cases h0 : len = 0
 · subst h0
   clear h;go_in;go_wp2;refine wl1 ?_;go_wp2;go_ret;exact ⟨_, rfl, Mkd.refl _ _ _ _⟩
 rcases h with h | ⟨g, rfl, hB, hC, hx⟩
 · exact absurd h h0
 have HX := iH hx;clear hx;go_in;go_wp2_with fail
 go_loopw [1, 5] (fun a b wr => ∃ j : Nat, j ≤ len ∧ a = .int .i64 (k + j) ∧ b = .int .i64 j ∧ Hd (Mkd B C w wr (txC (some ⟨g, 0, none⟩) j) k (k + j)))
  (fun _ b _ => len - (intOf b).toNat)
 case atStart => exact ⟨0, nZ, by simp, rfl, (show Mkd B C w w [] k (k + (0 : Nat)) by simpa using Mkd.refl B C w k)⟩
 obtain ⟨j, hj, rfl, rfl, HM⟩ := hrel;by_cases hlt : j < len
 · have HU := iH (HX.o j hlt).1
   obtain ⟨v, hv⟩ := HM.o.kb.u g j (HX.o j hlt).1;have hfv := (HM.o.kb.f ⟨g, j, none⟩).trans (HX.o j hlt).2;have HS : Hd (txC (some ⟨g, 0, none⟩) (j + 1) = txC (some ⟨g, 0, none⟩) j ++ [(g, j, true)]) := (show _ = _ by unfold txC; rw [List.range_succ, List.map_append]; rfl);go_wp2;go_roundw
   case rel =>
    refine ⟨j + 1, by omega, by go_num, by go_num, ?_⟩
    show Mkd B C w _ _ k _;rw [HS.o, show k + ((j + 1 : Nat) : Int) = k + j + 1 by omega]
    exact HM.o.byt HU.o hB hC (by first | rfl | simp)
   case measure => simp [intOf]; omega
 obtain rfl : j = len := by omega
 go_wp2;go_ret;exact ⟨_, rfl, HM.o⟩
theorem Hl.num {o : Nat} {L : List MC} (h : Hl w ([(g, o, false)] ++ L) k) : w.cell? ⟨g, o, none⟩ = some (.int .i64 k) ∧ Hl w L (k + 1) := h
theorem Hl.txt : ∀ {k : Int}, Hl w (txC a len) k → ∀ j, j < len → w.cell? ⟨blk a, j, none⟩ = some (.int .u8 (IntKind.u8.wrap (k + (j : Nat)))) := by
 induction len with
 | zero => intro k _ j hj; omega
 | succ n ih =>
  intro k h j hj;have e : txC a (n + 1) = txC a n ++ [(blk a, n, true)] := by unfold txC; rw [List.range_succ, List.map_append]; rfl
  rw [e] at h;have h2 := Hl.app h;by_cases e : j = n
  · rw [e]
    have := (h2.2 _ rfl).1;rw [txC_len] at this;exact this
  exact ih h2.1 j (by omega)
theorem heldText_x (a : Option Addr) (len cap : Nat) (k : Int) (w : World) (ha : len = 0 ∨ ∃ g, a = some ⟨g, 0, none⟩) (h : Hl w (txC a len) k) (hk : 0 ≤ k) (hk2 : k ≤ 2305843009213693952) (hlen : len ≤ 1048576) :
 Calls Tryz.prog 56 #[.slice a len cap, .int .i64 k] w (HdX w (txC a len) k) := by
 have HL : Hd (((txC a len).length : Int) = len) := (show _ = _ by rw [txC_len]);rcases ha with rfl | ⟨g, rfl⟩
 · clear h
   go_in;go_wp2;refine wl1 ?_;go_wp2;go_ret;exact ⟨_, rfl, (show k = k + _ by rw [HL.o]; simp), rfl⟩
 have HC := iH h.txt;clear h;go_in;go_wp2;go_loop [1, 5] (fun q i => ∃ j : Nat, j ≤ len ∧ i = .int .i64 j ∧ q = .int .i64 (k + j)) (fun _ i => len - (intOf i).toNat)
 case atStart => exact ⟨0, nZ, rfl, by simp⟩
 obtain ⟨j, hj, rfl, rfl⟩ := hrel;by_cases hlt : j < len
 · have hx : w.cell? ⟨g, j, none⟩ = _ := HC.o j hlt
   have hw : IntKind.u8.wrap (k + (j : Int)) = (k + (j : Int)) % 256 := by rw [IntKind.wrap_u8]
   go_wp2;go_round
   case rel => exact ⟨j + 1, by omega, by go_num, by go_num⟩
   case measure => simp [intOf]; omega
 obtain rfl : j = len := by omega
 go_wp2;go_ret;exact ⟨_, rfl, (show _ = _ by rw [HL.o]), rfl⟩
def TB.lies (B : Nat) (w : World) (x : TB) : Prop := BsF B w x.sl ∧ x.t.fits
def TB.same (x y : TB) : Prop := x.td = y.td
def TB0 : TB := ⟨⟨0, none, 0, 0, 0, 0⟩, []⟩
def tbG (l : List TB) (i : Nat) : TB := l[i]?.getD TB0
theorem tbG_at {l : List TB} (h : i < l.length) : tbG l i = l[i] ∧ l[i] ∈ l := by
 refine ⟨?_, List.getElem_mem h⟩;unfold tbG;rw [List.getElem?_eq_getElem h];rfl
theorem trow_krow {l : List TB} (h : TRowF B w a l) : KRow B w 4 a l.length (fun i => enc4 (tbG l i).t) := by
 obtain ⟨h1, h2, _⟩ := h;rcases h1 with e | ⟨b, off, ha, hlt, hc⟩
 · exact .inl (by rw [e]; rfl)
 by_cases h0 : l = []
 · exact .inl (by rw [h0]; rfl)
 refine .inr ⟨b, off, ha, (h2.resolve_left h0) _ ha, hlt, fun i hi c u hu => ?_⟩;dsimp only at hu;rw [(tbG_at hi).1] at hu;have hc4 : c < 4 := (List.getElem?_eq_some_iff.1 hu).1;have := hc (i * 4 + c) u (by rw [flat4_get l i c hi hc4]; exact hu);rw [Nat.add_assoc];exact this
theorem krow_trow {f : Nat → TB} (h : KRow B w 4 (some ⟨g, 0, none⟩) n (fun i => enc4 (f i).t)) (hl : ∀ i, i < n → (f i).lies B w) : TRowF B w (some ⟨g, 0, none⟩) ((List.range n).map f) := by
 have hlen : ((List.range n).map f).length = n := by simp
 refine ⟨?_, ?_, fun x hx => ?_⟩
 · rcases h with h | ⟨b, off, ha, _, hlt, hc⟩
   · exact .inl (by rw [h]; rfl)
   refine .inr ⟨b, off, ha, hlt, fun j u hu => ?_⟩;have hj : j < n * 4 := by
    have := (List.getElem?_eq_some_iff.1 hu).1;rwa [flat4_len, hlen] at this
   have hi : j / 4 < n := by omega
   have hc4 : j % 4 < 4 := by omega
   have e : j = j / 4 * 4 + j % 4 := by omega
   rw [e, flat4_get _ (j / 4) (j % 4) (by rw [hlen]; exact hi) hc4] at hu;have hg : ((List.range n).map f)[j / 4]'(by rw [hlen]; exact hi) = f (j / 4) := by simp
   rw [hg] at hu;have := hc (j / 4) hi (j % 4) u hu;rw [e, ← Nat.add_assoc];exact this
 · rcases h with h | ⟨b, off, ha, hB, _⟩
   · exact .inl (by rw [h]; rfl)
   exact .inr fun p hp => by rw [ha] at hp; cases hp; exact hB
 obtain ⟨i, hi, rfl⟩ := List.mem_map.1 hx;exact hl i (List.mem_range.1 hi)
end Go.Proofs.YtoloadogihbdeaaGreat
