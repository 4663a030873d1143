import Derived.Test.YtoloadogihbdeaaGreatRows
import Derived.WalkKit
import Derived.WalkSpells
import Derived.WalkLawsBesides
import Derived.ProofKit
import Derived.OpenShut
import Derived.Deep.Light
import Derived.Below
import Derived.Deep.OwnRows
import Derived.Deep.Draws
import Derived.BigQuiet
import Derived.Deep.QuietTactic
import Derived.Deep.RegionWith
import Derived.Lib.Bytealg
import Derived.Lib.Bytes
import Derived.Laws.BytesArg
import Derived.Laws.Externs
import Derived.Deep.RegionHeld3
import Derived.Lib.ConvBytes
import Derived.ChangeOld
import Derived.Lib.SmallJoins
namespace Go.Proofs.YtoloadogihbdeaaGreat
open Go.RowKit
set_option maxHeartbeats 40000000
theorem brf {B : Nat} {w : World} : Below B w w := Below.refl B w
theorem nR {n : Nat} : n ≤ n := Nat.le_refl n
theorem nZ {n : Nat} : 0 ≤ n := Nat.zero_le n
theorem nN {n : Nat} : ¬ n < 0 := Nat.not_lt_zero n
def Hd (p : Prop) : Prop := p
theorem Hd.o {p : Prop} (h : Hd p) : p := h
theorem iH {p : Prop} (h : p) : Hd p := h
abbrev Cl (f : FuncId) (a : Array Value) (w : World) (Q : Ending → World → Prop) : Prop := Calls Tryz.prog f a w Q
abbrev Bl (w w2 : World) : Prop := Below w.heap.size w w2
theorem lA {α : Type} {xs ys : List α} : (xs ++ ys).length = xs.length + ys.length := List.length_append
theorem lC {α : Type} {a : α} {xs : List α} : (a :: xs).length = xs.length + 1 := List.length_cons
theorem lN {α : Type} : ([] : List α).length = 0 := List.length_nil
theorem bdr {B : Nat} {w : World} : Below B w w.drew := Below.drew (Below.refl B w)
theorem sA {α : Type} {a : α} {xs : List α} {i : Nat} : xs.toArray.setIfInBounds i a = (xs.set i a).toArray := List.setIfInBounds_toArray xs i a
theorem zA {α : Type} {a b : α} {l : List α} : (a :: l).set 0 b = b :: l := List.set_cons_zero
theorem cA {α : Type} {a b : α} {l : List α} {n : Nat} : (a :: l).set (n + 1) b = a :: l.set n b := List.set_cons_succ
abbrev rL (s : ByteArray) (k : Int) (a b : FuncId) : List Value := [.string s, .int .i64 k, .func (.func a) #[] #[], .func (.func b) #[] #[]]
abbrev rA (s : ByteArray) (k : Int) (a b : FuncId) : Array Value := #[.string s, .int .i64 k, .func (.func a) #[] #[], .func (.func b) #[] #[]]
abbrev zUl : List Value := [.int .i64 0, .slice none 0 0, .int .i64 0, .slice none 0 0, .int .i64 0, .int .i64 0, .slice none 0 0, .int .i64 0, .slice none 0 0, .int .i64 0, .int .i64 0, .slice none 0 0, .int .i64 0, .slice none 0 0, .int .i64 0, .int .i64 0, .int .i64 0, .int .i64 0, .slice none 0 0, .int .i64 0, .slice none 0 0, .int .i64 0, .int .i64 0, .slice none 0 0, .slice none 0 0, .slice none 0 0, .slice none 0 0, .slice none 0 0]
abbrev zUa : Array Value := #[.int .i64 0, .slice none 0 0, .int .i64 0, .slice none 0 0, .int .i64 0, .int .i64 0, .slice none 0 0, .int .i64 0, .slice none 0 0, .int .i64 0, .int .i64 0, .slice none 0 0, .int .i64 0, .slice none 0 0, .int .i64 0, .int .i64 0, .int .i64 0, .int .i64 0, .slice none 0 0, .int .i64 0, .slice none 0 0, .int .i64 0, .int .i64 0, .slice none 0 0, .slice none 0 0, .slice none 0 0, .slice none 0 0, .slice none 0 0]
abbrev zPl : List Value := [.slice none 0 0, .int .i64 0, .slice none 0 0, .int .i64 0, .int .i64 0, .slice none 0 0, .int .i64 0, .slice none 0 0, .int .i64 0, .int .i64 0, .slice none 0 0, .int .i64 0, .slice none 0 0, .int .i64 0, .int .i64 0]
abbrev zPa : Array Value := #[.slice none 0 0, .int .i64 0, .slice none 0 0, .int .i64 0, .int .i64 0, .slice none 0 0, .int .i64 0, .slice none 0 0, .int .i64 0, .int .i64 0, .slice none 0 0, .int .i64 0, .slice none 0 0, .int .i64 0, .int .i64 0]
abbrev zEl : List Value := [.int .i64 0, .int .i64 0, .slice none 0 0, .int .i64 0, .slice none 0 0, .int .i64 0, .int .i64 0, .slice none 0 0]
abbrev zEa : Array Value := #[.int .i64 0, .int .i64 0, .slice none 0 0, .int .i64 0, .slice none 0 0, .int .i64 0, .int .i64 0, .slice none 0 0]
abbrev zQl : List Value := [.bool false, .bool false, .slice none 0 0, .slice none 0 0, .slice none 0 0, .slice none 0 0, .int .i64 0, .int .i64 0]
abbrev zQa : Array Value := #[.bool false, .bool false, .slice none 0 0, .slice none 0 0, .slice none 0 0, .slice none 0 0, .int .i64 0, .int .i64 0]
abbrev zNl : List Value := [.int .i64 0, .int .i64 0, .slice none 0 0, .int .i64 0, .slice none 0 0, .int .i64 0, .int .i64 0, .slice none 0 0, .int .i64 0, .slice none 0 0, .int .i64 0, .int .i64 0, .slice none 0 0, .int .i64 0, .slice none 0 0, .int .i64 0, .int .i64 0, .int .i64 0, .int .i64 0, .slice none 0 0, .int .i64 0, .slice none 0 0, .int .i64 0, .int .i64 0, .slice none 0 0, .slice none 0 0, .slice none 0 0, .slice none 0 0]
abbrev zNa : Array Value := #[.int .i64 0, .int .i64 0, .slice none 0 0, .int .i64 0, .slice none 0 0, .int .i64 0, .int .i64 0, .slice none 0 0, .int .i64 0, .slice none 0 0, .int .i64 0, .int .i64 0, .slice none 0 0, .int .i64 0, .slice none 0 0, .int .i64 0, .int .i64 0, .int .i64 0, .int .i64 0, .slice none 0 0, .int .i64 0, .slice none 0 0, .int .i64 0, .int .i64 0, .slice none 0 0, .slice none 0 0, .slice none 0 0, .slice none 0 0]
abbrev zGl : List Value := [.int .i64 0, .slice none 0 0, .int .i64 0, .int .i64 0, .slice none 0 0, .int .i64 0, .slice none 0 0, .int .i64 0, .int .i64 0, .slice none 0 0, .slice none 0 0, .slice none 0 0, .slice none 0 0]
abbrev zGa : Array Value := #[.int .i64 0, .slice none 0 0, .int .i64 0, .int .i64 0, .slice none 0 0, .int .i64 0, .slice none 0 0, .int .i64 0, .int .i64 0, .slice none 0 0, .slice none 0 0, .slice none 0 0, .slice none 0 0]
theorem bl_alloc {w w' : World} (h : Bl w w') (o : Obj) : Bl w (w'.alloc o) := h.alloc h.size o
theorem bl_trans {w w' w'' : World} (h : Bl w w') (k : Below w'.heap.size w' w'') : Bl w w'' := h.trans (k.mono h.size)
theorem bl_set {w w' : World} (h : Bl w w') {p : Addr} (hp : w.heap.size ≤ p.block) (u : Value) : Bl w (w'.setCell p u) := h.setCell hp u
def numOk (n s : Int) : Bool := decide (0 ≤ s) && decide (s ≤ 6) && decide (-1000000000000000 ≤ n) && decide (n ≤ 1000000000000000) && (s == 0 || n.tmod 10 != 0)
theorem within_any (n a b : Int) (w : World) :
 Calls Tryz.prog 150 #[.int .i64 n, .int .i64 a, .int .i64 b] w fun e w' => e = .returned (.bool (decide (a ≤ n) && decide (n ≤ b))) ∧ w' = w := by
 go_in
 go_wp2
 all_goals go_ret
 all_goals (refine ⟨?_, rfl⟩; simp [*]; try omega)
theorem decOk_any (n s : Int) (w : World) (_h1 : -9223372036854775808 ≤ n) (_h2 : n ≤ 9223372036854775807) (_h3 : -9223372036854775808 ≤ s) (_h4 : s ≤ 9223372036854775807) :
 Calls Tryz.prog 183 #[.agg #[.int .i64 n, .int .i64 s]] w fun e w' =>
  e = .returned (.bool (numOk n s)) ∧ ∃ o1, w' = w.alloc o1 := by
 go_in
 go_wp2
 all_goals go_ret
 all_goals refine ⟨?_, _, rfl⟩
 all_goals (go_light; simp_all [numOk]; try omega)
/-! The loops over an empty text: no round. -/
theorem eq0 (w : World) : Calls Tryz.prog 42 #[.slice none 0 0, .slice none 0 0] w fun e w' => e = .returned (.bool true) ∧ w' = w := by
 go_in
 go_wp2
 refine wp_loop_rounds 1 ?_
 rw [rounds_succ]
 go_wp2
 go_ret
 exact ⟨rfl, rfl⟩
open Go.RowKit Go.Deep
def Bs (w : World) (a : Option Addr) (len : Nat) (bs : List Int) : Prop :=
 bs.length = len ∧ len ≤ 1048576 ∧ (∀ i : Nat, 0 ≤ bs[i]?.getD 0 ∧ bs[i]?.getD 0 ≤ 255) ∧
  (len = 0 ∨ ∃ b off, a = some ⟨b, off, none⟩ ∧ b < w.heap.size ∧ ∀ i, i < len → w.cell? ⟨b, off + i, none⟩ = some (.int .u8 (bs[i]?.getD 0)))
theorem Bs.below {w w' : World} {a : Option Addr} {len : Nat} {bs : List Int} (h : Bs w a len bs) (hb : Bl w w') : Bs w' a len bs := by
 obtain ⟨h1, h2, h3, h4⟩ := h
 refine ⟨h1, h2, h3, ?_⟩
 rcases h4 with h4 | ⟨b, off, ha, hlt, hc⟩
 · exact .inl h4
 exact .inr ⟨b, off, ha, Nat.lt_of_lt_of_le hlt hb.size, fun i hi => (hb.cell (p := ⟨b, off + i, none⟩) hlt).trans (hc i hi)⟩
def cellsOf (bs : List Int) : Array Value := (bs.map (Value.int .u8)).toArray
theorem Bs.made (w : World) (bs : List Int) (len : Nat) (hl : bs.length = len) (h2 : len ≤ 1048576) (h3 : ∀ i : Nat, 0 ≤ bs[i]?.getD 0 ∧ bs[i]?.getD 0 ≤ 255) :
 Bs (w.alloc (.cells (cellsOf bs) 5)) (some ⟨w.heap.size, 0, none⟩) len bs := by
 refine ⟨hl, h2, h3, .inr ⟨w.heap.size, 0, rfl, by simp, fun i hi => ?_⟩⟩
 have hi' : i < bs.length := by omega
 simp [go_sem, cellsOf, hi']
theorem Tryz.info5 : (Tryz.prog.info? 5).map (fun i => (i.zero, i.size, i.bytes)) = some (some (.int .u8 0), 1, 1) := by kernel_rfl
def filled (bs : List Int) (k : Nat) : Array Value := (Array.range bs.length).map (fun i => Value.int .u8 (if i < k then bs[i]?.getD 0 else 0))
theorem filled_get (bs : List Int) (k i : Nat) : (filled bs k)[i]? = if i < bs.length then some (Value.int .u8 (if i < k then bs[i]?.getD 0 else 0)) else none := by
 by_cases h : i < bs.length <;> simp [filled, h]
theorem filled_zero (bs : List Int) (n : Nat) (h : bs.length = n) : madeCells #[Value.int .u8 0] n = filled bs 0 := by
 subst h
 apply Array.ext_getElem?
 intro i
 rw [filled_get]
 by_cases h : i < bs.length <;> simp [madeCells, h, Nat.mod_one]
theorem filled_at (bs : List Int) (k : Nat) (h : k < bs.length) : (filled bs k)[k]? = some (Value.int .u8 0) := by
 rw [filled_get]; simp [h]
theorem filled_step (bs : List Int) (k : Nat) : (filled bs k).setIfInBounds k (Value.int .u8 (bs[k]?.getD 0)) = filled bs (k + 1) := by
 apply Array.ext_getElem?
 intro i
 rw [Array.getElem?_setIfInBounds, filled_get, filled_get]
 have hsz : (filled bs k).size = bs.length := by simp [filled]
 rw [hsz]
 by_cases e : k = i
 · subst e
   by_cases h : k < bs.length <;> simp [h]
 rw [if_neg e]
 by_cases h : i < k
 · rw [if_pos h, if_pos (by omega : i < k + 1)]
 rw [if_neg h, if_neg (by omega : ¬ i < k + 1)]
theorem filled_end (bs : List Int) (k : Nat) (hk : bs.length ≤ k) : filled bs k = cellsOf bs := by
 apply Array.ext_getElem?
 intro i
 rw [filled_get]
 by_cases h : i < bs.length
 · have : i < k := by omega
   simp [h, cellsOf, this]
 simp [h, cellsOf]
theorem toByteS_any (a : Option Addr) (len cap : Nat) (bs : List Int) (w : World) (hB : Bs w a len bs) :
 Calls Tryz.prog 33 #[.slice a len cap] w fun e w' =>
  e = .returned (.slice (some ⟨w.heap.size, 0, none⟩) len len) ∧ w' = w.alloc (.cells (cellsOf bs) 5) := by
 obtain ⟨hl, h2, h3, h4⟩ := hB
 have hmk := run_make_row' (P := Tryz.prog) 23 5 (.int .u8 0) 1 Tryz.underlying23 Tryz.info5 rfl .i64 .i64 len (by omega) (by omega)
 rcases h4 with h4 | ⟨b, off, rfl, hlt, hc⟩
 · subst h4
   have e0 : cellsOf bs = madeCells #[Value.int .u8 0] 0 := by rw [filled_zero bs 0 hl, ← filled_end bs 0 (by omega)]
   rw [e0]
   have hmk0 : ∀ w, (Instr.makeSlice 23 (.int .i64 0) (.int .i64 0)).run Tryz.prog w = .ok (.slice (some ⟨w.heap.size, 0, none⟩) 0 0) (w.alloc (.cells (madeCells #[Value.int .u8 0] 0) 5)) := fun w => by simpa using hmk w
   clear hmk
   go_in
   go_wp2
   refine wp_loop_rounds 1 ?_
   rw [rounds_succ]
   go_wp2
   go_ret
   exact ⟨rfl, rfl⟩
 go_in
 go_wp2
 go_loopw [4] (fun i wr => ∃ k : Nat, k ≤ len ∧ i = .int .i64 k ∧ wr = w.alloc (.cells (filled bs k) 5))
  (fun i _ => len - (intOf i).toNat)
 case atStart => exact ⟨0, nZ, rfl, by rw [filled_zero bs len hl]⟩
 obtain ⟨k, hk, rfl, rfl⟩ := hrel
 have hcx := fun (h : k < len) => hc k h
 have hfx := fun (h : k < len) => filled_at bs k (by omega)
 have HL := iH hl
 clear hc h3 hmk hl
 go_wp2
 · go_roundw
   case rel =>
    refine ⟨k + 1, by omega, by go_num, ?_⟩
    rw [filled_step]
   case measure => simp [intOf]; omega
 go_ret
 refine ⟨rfl, ?_⟩
 rw [filled_end bs k (by have := HL.o; omega)]
theorem list_eq_of (xs bs : List Int) (h : xs.length = bs.length) (H : ∀ j : Nat, j < xs.length → xs[j]?.getD 0 = bs[j]?.getD 0) : xs = bs := by
 apply List.ext_getElem h
 intro i h1 h2
 have := H i h1
 simpa [h1, h2] using this
theorem list_ne_of (xs bs : List Int) (k : Nat) (H : xs[k]?.getD 0 ≠ bs[k]?.getD 0) : xs ≠ bs := by
 intro e; subst e; exact H rfl
theorem eqByteS_any (a b : Option Addr) (la lb ca cb : Nat) (xs bs : List Int) (w : World) (hA : Bs w a la xs) (hB : Bs w b lb bs) :
 Calls Tryz.prog 42 #[.slice a la ca, .slice b lb cb] w fun e w' => e = .returned (.bool (decide (xs = bs))) ∧ ∃ q, w' = w.drewN q := by
 obtain ⟨hla, h2a, h3a, h4a⟩ := hA
 obtain ⟨hlb, h2b, h3b, h4b⟩ := hB
 by_cases hne : la = lb
 · subst hne
   rcases h4a with h4a | ⟨ba, offa, rfl, hlta, hca⟩
   · subst h4a
     have e : xs = bs := by
      rw [List.eq_nil_of_length_eq_zero hla, List.eq_nil_of_length_eq_zero hlb]
     have e' : decide (xs = bs) = true := by simp [e]
     rw [e']
     go_in
     go_wp2
     refine wp_loop_rounds 1 ?_
     rw [rounds_succ]
     go_wp2
     go_ret
     exact ⟨rfl, 0, rfl⟩
   rcases h4b with h4b | ⟨bb, offb, rfl, hltb, hcb⟩
   · subst h4b
     have e : xs = bs := by
      rw [List.eq_nil_of_length_eq_zero hla, List.eq_nil_of_length_eq_zero hlb]
     have e' : decide (xs = bs) = true := by simp [e]
     rw [e']
     go_in
     go_wp2
     refine wp_loop_rounds 1 ?_
     rw [rounds_succ]
     go_wp2
     go_ret
     exact ⟨rfl, 0, rfl⟩
   go_in
   go_wp2
   go_loopw [5] (fun i wr => ∃ k q : Nat, k ≤ la ∧ i = .int .i64 k ∧ wr = w.drewN q ∧ ∀ j : Nat, j < k → xs[j]?.getD 0 = bs[j]?.getD 0)
    (fun i _ => la - (intOf i).toNat)
   case atStart => exact ⟨0, 0, nZ, rfl, rfl, by intro j hj; omega⟩
   obtain ⟨k, q, hk, rfl, rfl, hH⟩ := hrel
   have HA := iH hla
   have HB := iH hlb
   have HH := iH hH
   by_cases hlt : k < la
   · have hx := hca k hlt
     have hy := hcb k hlt
     clear hca hcb hla hlb hH h3a h3b
     go_wp2
     go_region
     all_goals go_wp2
     · have hd : (xs[k]?.getD 0 != bs[k]?.getD 0) = true := by assumption
       have : xs ≠ bs := list_ne_of xs bs k (by simpa using hd)
       go_ret
       exact ⟨by simp [this], _, rfl⟩
     have hd : (xs[k]?.getD 0 != bs[k]?.getD 0) = false := by assumption
     have hd' : xs[k]?.getD 0 = bs[k]?.getD 0 := by simpa using hd
     go_roundw
     case rel => exact ⟨k + 1, q + 1, by omega, by go_num, rfl, fun j hj => by
      by_cases e : j = k
      · rw [e]; exact hd'
      exact HH.o j (by omega)⟩
     case measure => simp [intOf]; omega
   clear hca hcb hla hlb hH h3a h3b
   go_wp2
   go_ret
   refine ⟨?_, q, rfl⟩
   have : xs = bs := list_eq_of xs bs (HA.o.trans HB.o.symm) (fun j hj => HH.o j (by have := HA.o; omega))
   simp [this]
 have e : xs ≠ bs := by intro e; subst e; exact hne (hla.symm.trans hlb)
 have e' : decide (xs = bs) = false := by simp [e]
 rw [e']
 have hz : ((la : Int) == (lb : Int)) = false := by simp; omega
 clear h4a h4b h3a h3b
 go_in
 go_wp2
 go_ret
 exact ⟨rfl, 0, rfl⟩
theorem szByteS_any (a : Option Addr) (len cap : Nat) (left : Int) (w : World) (_h1 : 0 ≤ left) (_h2 : left ≤ 1048576) (_h3 : len ≤ 9223372036854775807) :
 Calls Tryz.prog 24 #[.slice a len cap, .int .i64 left] w fun e w' => e = .returned (.int .i64 (if left < len then -1 else left - len)) ∧ w' = w := by
 go_in
 go_wp2
 all_goals go_ret
 all_goals exact ⟨rfl, rfl⟩
def leftOf (left : Int) (len : Nat) : Int := if left < len then -1 else left - len
theorem szTerm_any (k n s : Int) (a : Option Addr) (len cap : Nat) (left : Int) (w : World) (h1 : 0 ≤ left) (h2 : left ≤ 1048576) (h3 : len ≤ 9223372036854775807) :
 Calls Tryz.prog 68 #[.agg #[.int .i64 k, .slice a len cap, .int .i64 n, .int .i64 s], .int .i64 left] w fun e w' => e = .returned (.int .i64 (leftOf left len)) ∧ Bl w w' := by
 unfold leftOf
 go_in
 go_wp2_with (go_at_call 24; refine (szByteS_any a len cap left _ h1 h2 h3).mono ?_; rintro e w1 ⟨rfl, rfl⟩)
 all_goals go_ret
 all_goals refine ⟨?_, bl_alloc brf _⟩
 all_goals (simp_all; try omega)
theorem eqTerm_any (k n s k' n' s' : Int) (a a' : Option Addr) (len cap len' cap' : Nat) (bs bs' : List Int) (w : World) (hB : Bs w a len bs) (hB' : Bs w a' len' bs') :
 Calls Tryz.prog 96 #[.agg #[.int .i64 k, .slice a len cap, .int .i64 n, .int .i64 s], .agg #[.int .i64 k', .slice a' len' cap', .int .i64 n', .int .i64 s']] w fun e w' =>
  e = .returned (.bool (decide (k = k' ∧ bs = bs' ∧ n = n' ∧ s = s'))) ∧ Bl w w' := by
 have h1 : ∀ o1 o2, Bs ((w.alloc o1).alloc o2) a len bs := fun o1 o2 => hB.below (bl_alloc (bl_alloc brf _) _)
 have h2 : ∀ o1 o2, Bs ((w.alloc o1).alloc o2) a' len' bs' := fun o1 o2 => hB'.below (bl_alloc (bl_alloc brf _) _)
 clear hB hB'
 go_in
 go_wp2_with (go_at_call 42; refine (eqByteS_any a a' len len' cap cap' bs bs' _ (h1 _ _) (h2 _ _)).mono ?_; rintro e w1 ⟨rfl, q, rfl⟩)
 all_goals go_ret
 all_goals refine ⟨?_, ?_⟩
 all_goals first | ((repeat (first | with_reducible exact Below.refl _ _ | with_reducible apply bl_alloc | with_reducible apply Below.drew | with_reducible apply below_drewN)); done) | skip
 all_goals (go_light; simp_all)
def letter (b : Int) : Bool := decide (97 ≤ b) && decide (b ≤ 122)
def digit (b : Int) : Bool := decide (48 ≤ b) && decide (b ≤ 57)
def plainB (b : Int) : Bool := decide (32 ≤ b) && decide (b ≤ 126)
def nameOk (bs : List Int) : Bool := decide (1 ≤ bs.length) && decide (bs.length ≤ 12) && letter (bs[0]?.getD 0) && bs.all (fun b => letter b || digit b)
def textOk (bs : List Int) : Bool := decide (bs.length ≤ 30) && bs.all plainB
def termOk (k : Int) (bs : List Int) (n s : Int) : Bool :=
 if k = 0 then nameOk bs && n == 0 && s == 0
 else if k = 1 then bs.length == 0 && decide (0 ≤ n) && decide (n ≤ 999999) && s == 0
 else if k = 2 then textOk bs && n == 0 && s == 0
 else if k = 3 then bs.length == 0 && numOk n s
 else false
theorem all_of (bs : List Int) (p : Int → Bool) (H : ∀ j : Nat, j < bs.length → p (bs[j]?.getD 0) = true) : bs.all p = true := by
 rw [List.all_eq_true]
 intro x hx
 obtain ⟨i, hi, rfl⟩ := List.getElem_of_mem hx
 have := H i hi
 simpa [hi] using this
theorem all_not (bs : List Int) (p : Int → Bool) (k : Nat) (h : k < bs.length) (H : p (bs[k]?.getD 0) = false) : bs.all p = false := by
 rw [List.all_eq_false]
 refine ⟨bs[k], List.getElem_mem h, ?_⟩
 simpa [h] using H
theorem small_any (b : Int) (w : World) : Calls Tryz.prog 137 #[.int .u8 b] w fun e w' => e = .returned (.bool (letter b || digit b)) ∧ w' = w := by
 go_in
 go_wp2
 all_goals go_ret
 all_goals (refine ⟨congrArg (fun b => Ending.returned (Value.bool b)) ?_, rfl⟩; rw [Bool.eq_iff_iff]; simp [letter, digit]; try omega)
theorem letter_any (b : Int) (w : World) : Calls Tryz.prog 168 #[.int .u8 b] w fun e w' => e = .returned (.bool (letter b)) ∧ w' = w := by
 go_in
 go_wp2
 all_goals go_ret
 all_goals (refine ⟨?_, rfl⟩; simp [letter]; try omega)
theorem digit_any (b : Int) (w : World) : Calls Tryz.prog 169 #[.int .u8 b] w fun e w' => e = .returned (.bool (digit b)) ∧ w' = w := by
 go_in
 go_wp2
 all_goals go_ret
 all_goals (refine ⟨?_, rfl⟩; simp [digit]; try omega)
theorem isText_any (a : Option Addr) (len cap : Nat) (bs : List Int) (w : World) (hB : Bs w a len bs) :
 Calls Tryz.prog 181 #[.slice a len cap] w fun e w' => e = .returned (.bool (textOk bs)) ∧ w' = w := by
 obtain ⟨hl, h2, h3, h4⟩ := hB
 clear h3
 by_cases h30 : len ≤ 30
 · rcases h4 with h4 | ⟨b, off, rfl, hlt, hc⟩
   · subst h4
     have e : textOk bs = true := by simp [textOk, List.eq_nil_of_length_eq_zero hl]
     rw [e]
     clear hl
     go_in
     go_wp2
     refine wp_loop_rounds 1 ?_
     rw [rounds_succ]
     go_wp2
     go_ret
     exact ⟨rfl, rfl⟩
   have HL := iH hl
   clear hl
   go_in
   go_wp2
   go_loop [10] (fun i => ∃ k : Nat, k ≤ len ∧ i = .int .i64 k ∧ ∀ j : Nat, j < k → plainB (bs[j]?.getD 0) = true)
    (fun i => len - (intOf i).toNat)
   case atStart => exact ⟨0, nZ, rfl, by intro j hj; omega⟩
   obtain ⟨k, hk, rfl, hH⟩ := hrel
   have HH := iH hH
   have hcx := fun (h : k < len) => hc k h
   clear hc hH
   go_wp2
   · have hx : bs[k]?.getD 0 < 32 ∨ 126 < bs[k]?.getD 0 := by assumption
     go_ret
     refine ⟨?_, rfl⟩
     have e := all_not bs plainB k (by have := HL.o; omega) (by simp [plainB]; omega)
     simp [textOk, e]
   · have hx : 32 ≤ bs[k]?.getD 0 ∧ bs[k]?.getD 0 ≤ 126 := by assumption
     go_round
     case rel => exact ⟨k + 1, by omega, by go_num, fun j hj => by
      by_cases e : j = k
      · subst e; simp [plainB]; omega
      exact HH.o j (by omega)⟩
     case measure => simp [intOf]; omega
   · have hx : bs[k]?.getD 0 < 32 := by assumption
     go_ret
     refine ⟨?_, rfl⟩
     have e := all_not bs plainB k (by have := HL.o; omega) (by simp [plainB]; omega)
     simp [textOk, e]
   go_ret
   refine ⟨?_, rfl⟩
   have hl := HL.o
   have e := all_of bs plainB (fun j hj => HH.o j (by omega))
   simp [textOk, e]; omega
 have e : textOk bs = false := by simp [textOk]; omega
 rw [e]
 clear h4
 go_in
 go_wp2
 go_ret
 exact ⟨rfl, rfl⟩
theorem isName_any (a : Option Addr) (len cap : Nat) (bs : List Int) (w : World) (hB : Bs w a len bs) :
 Calls Tryz.prog 152 #[.slice a len cap] w fun e w' => e = .returned (.bool (nameOk bs)) ∧ w' = w := by
 obtain ⟨hl, h2, h3, h4⟩ := hB
 clear h3
 by_cases h0 : len = 0
 · subst h0
   have e : nameOk bs = false := by simp [nameOk, hl]
   rw [e]
   clear hl h4
   go_in
   go_wp2
   go_ret
   exact ⟨rfl, rfl⟩
 obtain ⟨b, off, rfl, hlt, hc⟩ : ∃ b off, a = some ⟨b, off, none⟩ ∧ b < w.heap.size ∧ ∀ i, i < len → w.cell? ⟨b, off + i, none⟩ = some (.int .u8 (bs[i]?.getD 0)) := by
  rcases h4 with h4 | h4
  · exact absurd h4 h0
  exact h4
 clear h4
 by_cases h12 : len ≤ 12
 · have hc0 : w.cell? ⟨b, off, none⟩ = some (.int .u8 (bs[0]?.getD 0)) := hc 0 (by omega)
   have hb1 : (1 : Int) ≤ (len : Int) := by omega
   have hb0 : (0 : Int) < (len : Int) := by omega
   have HL := iH hl
   clear hl
   by_cases hf : letter (bs[0]?.getD 0) = true
   · go_in
     go_wp2_with (first | (go_at_call 168; refine (letter_any _ _).mono ?_; rintro e w1 ⟨rfl, rfl⟩) | go_in)
     go_loop [18] (fun i => ∃ k : Nat, k ≤ len ∧ i = .int .i64 k ∧ ∀ j : Nat, j < k → (letter (bs[j]?.getD 0) || digit (bs[j]?.getD 0)) = true)
      (fun i => len - (intOf i).toNat)
     case atStart => exact ⟨0, nZ, rfl, by intro j hj; omega⟩
     obtain ⟨k, hk, rfl, hH⟩ := hrel
     have HH := iH hH
     have HC := hc
     have HF := iH hf
     clear hc hH hc0 hf
     by_cases hlt2 : k < len
     · have hcx := HC k hlt2
       clear HC
       generalize hg : bs[k]?.getD 0 = x at hcx
       have HG := iH hg
       clear hg
       have hkl : k < bs.length := by have := HL.o; omega
       by_cases h1 : letter x = true
       · go_wp2_with (first | (go_at_call 168; refine (letter_any _ _).mono ?_; rintro e w2 ⟨rfl, rfl⟩) | (go_at_call 169; refine (digit_any _ _).mono ?_; rintro e w3 ⟨rfl, rfl⟩))
         go_round
         case rel => exact ⟨k + 1, by omega, by go_num, fun j hj => by
          by_cases e : j = k
          · subst e; rw [HG.o, h1]; rfl
          exact HH.o j (by omega)⟩
         case measure => simp [intOf]; omega
       have h1' : letter x = false := by simpa using h1
       clear h1
       by_cases h2 : digit x = true
       · go_wp2_with (first | (go_at_call 168; refine (letter_any _ _).mono ?_; rintro e w2 ⟨rfl, rfl⟩) | (go_at_call 169; refine (digit_any _ _).mono ?_; rintro e w3 ⟨rfl, rfl⟩))
         go_round
         case rel => exact ⟨k + 1, by omega, by go_num, fun j hj => by
          by_cases e : j = k
          · subst e; rw [HG.o, h2]; simp
          exact HH.o j (by omega)⟩
         case measure => simp [intOf]; omega
       have h2' : digit x = false := by simpa using h2
       clear h2
       go_wp2_with (first | (go_at_call 168; refine (letter_any _ _).mono ?_; rintro e w2 ⟨rfl, rfl⟩) | (go_at_call 169; refine (digit_any _ _).mono ?_; rintro e w3 ⟨rfl, rfl⟩))
       go_ret
       refine ⟨?_, rfl⟩
       have e := all_not bs (fun b => letter b || digit b) k hkl (by show (letter _ || digit _) = false; rw [HG.o, h1', h2']; rfl)
       simp [nameOk, e]
     clear HC
     go_wp2
     go_ret
     refine ⟨?_, rfl⟩
     have hl := HL.o
     have e := all_of bs (fun b => letter b || digit b) (fun j hj => HH.o j (by omega))
     have hf := HF.o
     simp only [nameOk, e, hf, hl]
     simp; omega
   have hf' : letter (bs[0]?.getD 0) = false := by simpa using hf
   have e : nameOk bs = false := by simp [nameOk, hf']
   rw [e]
   clear hf
   go_in
   go_wp2_with (first | (go_at_call 168; refine (letter_any _ _).mono ?_; rintro e w1 ⟨rfl, rfl⟩) | go_in)
   go_ret
   exact ⟨rfl, rfl⟩
 have e : nameOk bs = false := by simp [nameOk, hl]; omega
 rw [e]
 have h12' : decide ((len : Int) ≤ 12) = false := by simp; omega
 clear hl hc
 go_in
 go_wp2
 go_ret
 exact ⟨rfl, rfl⟩
theorem specTermOk_blank (n s : Int) (a : Option Addr) (len cap : Nat) (bs : List Int) (w : World) (hB : Bs w a len bs) :
 Calls Tryz.prog 110 #[.agg #[.int .i64 1, .slice a len cap, .int .i64 n, .int .i64 s]] w fun e w' => e = .returned (.bool (termOk 1 bs n s)) ∧ ∃ o1, w' = w.alloc o1 := by
 obtain ⟨hl, h2, h3, h4⟩ := hB
 have HL := iH hl
 clear h3 h4 hl
 go_in
 go_wp2
 all_goals go_ret
 all_goals (refine ⟨congrArg (fun b => Ending.returned (Value.bool b)) ?_, _, rfl⟩; have hl := HL.o; rw [Bool.eq_iff_iff]; go_light; simp [termOk, -List.length_eq_zero_iff]; try omega)
theorem specTermOk_number (n s : Int) (a : Option Addr) (len cap : Nat) (bs : List Int) (w : World) (hB : Bs w a len bs) (_h1 : -9223372036854775808 ≤ n) (_h2 : n ≤ 9223372036854775807) :
 Calls Tryz.prog 110 #[.agg #[.int .i64 3, .slice a len cap, .int .i64 n, .int .i64 s]] w fun e w' => e = .returned (.bool (termOk 3 bs n s)) ∧ ∃ o1, w' = w.alloc o1 := by
 obtain ⟨hl, h2, h3, h4⟩ := hB
 have HL := iH hl
 clear h3 h4 hl
 go_in
 go_wp2
 all_goals go_ret
 all_goals (refine ⟨congrArg (fun b => Ending.returned (Value.bool b)) ?_, _, rfl⟩; have hl := HL.o; rw [Bool.eq_iff_iff]; go_light; simp [termOk, numOk, -List.length_eq_zero_iff]; try omega)
theorem specTermOk_other (k n s : Int) (a : Option Addr) (len cap : Nat) (bs : List Int) (w : World) (h0 : k ≠ 0) (h1 : k ≠ 1) (h2 : k ≠ 2) (h3 : k ≠ 3) :
 Calls Tryz.prog 110 #[.agg #[.int .i64 k, .slice a len cap, .int .i64 n, .int .i64 s]] w fun e w' => e = .returned (.bool (termOk k bs n s)) ∧ ∃ o1, w' = w.alloc o1 := by
 have e : termOk k bs n s = false := by simp [termOk, h0, h1, h2, h3]
 rw [e]
 have g0 : (k == 0) = false := by simp; omega
 have g1 : (k == 1) = false := by simp; omega
 have g2 : (k == 2) = false := by simp; omega
 have g3 : (k == 3) = false := by simp; omega
 clear h0 h1 h2 h3 e
 go_in
 go_wp2
 go_ret
 exact ⟨rfl, _, rfl⟩
set_option maxRecDepth 10000 in
theorem specTermOk_text (n s : Int) (a : Option Addr) (len cap : Nat) (bs : List Int) (w : World) (hB : Bs w a len bs) :
 Calls Tryz.prog 110 #[.agg #[.int .i64 2, .slice a len cap, .int .i64 n, .int .i64 s]] w fun e w' => e = .returned (.bool (termOk 2 bs n s)) ∧ ∃ o1, w' = w.alloc o1 := by
 obtain ⟨hl, h2, h3, h4⟩ := hB
 have et : termOk 2 bs n s = (textOk bs && n == 0 && s == 0) := by simp [termOk]
 rw [et]
 clear h3 et
 by_cases h30 : len ≤ 30 ∧ n = 0 ∧ s = 0
 · obtain ⟨h30, rfl, rfl⟩ := h30
   have eb : (textOk bs && (0 : Int) == 0 && (0 : Int) == 0) = textOk bs := by simp
   rw [eb]
   clear eb
   rcases h4 with h4 | ⟨b, off, rfl, hlt, hc⟩
   · subst h4
     have e : textOk bs = true := by simp [textOk, List.eq_nil_of_length_eq_zero hl]
     rw [e]
     clear hl e
     go_in
     go_wp2
     refine wp_loop_rounds 1 ?_
     rw [rounds_succ]
     go_wp2
     go_ret
     exact ⟨rfl, _, rfl⟩
   have HL := iH hl
   clear hl
   go_in
   go_wp2
   go_loop [4] (fun i => ∃ k : Nat, k ≤ len ∧ i = .int .i64 k ∧ ∀ j : Nat, j < k → plainB (bs[j]?.getD 0) = true)
    (fun i => len - (intOf i).toNat)
   case atStart => exact ⟨0, nZ, rfl, by intro j hj; omega⟩
   obtain ⟨k, hk, rfl, hH⟩ := hrel
   have HH := iH hH
   have hcx := fun (h : k < len) => hc k h
   clear hc hH
   go_wp2
   · have hx : bs[k]?.getD 0 < 32 ∨ 126 < bs[k]?.getD 0 := by assumption
     go_ret
     refine ⟨?_, _, rfl⟩
     have e := all_not bs plainB k (by have := HL.o; omega) (by simp [plainB]; omega)
     simp [textOk, e]
   · have hx : 32 ≤ bs[k]?.getD 0 ∧ bs[k]?.getD 0 ≤ 126 := by assumption
     go_round
     case rel => exact ⟨k + 1, by omega, by go_num, fun j hj => by
      by_cases e : j = k
      · subst e; simp [plainB]; omega
      exact HH.o j (by omega)⟩
     case measure => simp [intOf]; omega
   · have hx : bs[k]?.getD 0 < 32 := by assumption
     go_ret
     refine ⟨?_, _, rfl⟩
     have e := all_not bs plainB k (by have := HL.o; omega) (by simp [plainB]; omega)
     simp [textOk, e]
   go_ret
   refine ⟨?_, _, rfl⟩
   have hl := HL.o
   have e := all_of bs plainB (fun j hj => HH.o j (by omega))
   simp [textOk, e]; omega
 have e : (textOk bs && n == 0 && s == 0) = false := by
  rw [Bool.eq_false_iff]
  intro h
  simp [textOk] at h
  omega
 rw [e]
 clear e h4
 by_cases g30 : len ≤ 30
 · by_cases gn : n = 0
   · have gs : (s != 0) = true := by simp; omega
     subst gn
     clear h30
     go_in
     go_wp2
     go_ret
     exact ⟨rfl, _, rfl⟩
   have gn' : (n != 0) = true := by simp; omega
   clear h30 gn
   go_in
   go_wp2
   go_ret
   exact ⟨rfl, _, rfl⟩
 clear h30
 go_in
 go_wp2
 go_ret
 exact ⟨rfl, _, rfl⟩
set_option maxRecDepth 10000 in
theorem specTermOk_name (n s : Int) (a : Option Addr) (len cap : Nat) (bs : List Int) (w : World) (hB : Bs w a len bs) :
 Calls Tryz.prog 110 #[.agg #[.int .i64 0, .slice a len cap, .int .i64 n, .int .i64 s]] w fun e w' => e = .returned (.bool (termOk 0 bs n s)) ∧ ∃ o1, w' = w.alloc o1 := by
 obtain ⟨hl, h2, h3, h4⟩ := hB
 have et : termOk 0 bs n s = (nameOk bs && n == 0 && s == 0) := by simp [termOk]
 rw [et]
 clear h3 et
 by_cases h12 : 1 ≤ len ∧ len ≤ 12 ∧ n = 0 ∧ s = 0
 · obtain ⟨h1, h12, rfl, rfl⟩ := h12
   have eb : (nameOk bs && (0 : Int) == 0 && (0 : Int) == 0) = nameOk bs := by simp
   rw [eb]
   clear eb
   obtain ⟨b, off, rfl, hlt, hc⟩ : ∃ b off, a = some ⟨b, off, none⟩ ∧ b < w.heap.size ∧ ∀ i, i < len → w.cell? ⟨b, off + i, none⟩ = some (.int .u8 (bs[i]?.getD 0)) := by
    rcases h4 with h4 | h4
    · omega
    exact h4
   clear h4
   have HL := iH hl
   clear hl
   go_in
   go_wp2
   go_loop [3] (fun i => ∃ k : Nat, k ≤ len ∧ i = .int .i64 k ∧ ∀ j : Nat, j < k → (letter (bs[j]?.getD 0) || digit (bs[j]?.getD 0)) = true ∧ (j = 0 → 57 < bs[j]?.getD 0))
    (fun i => len - (intOf i).toNat)
   case atStart => exact ⟨0, nZ, rfl, by intro j hj; omega⟩
   obtain ⟨k, hk, rfl, hH⟩ := hrel
   have HH := iH hH
   have HC := hc
   clear hc hH
   by_cases hlt2 : k < len
   · have hcx := HC k hlt2
     clear HC
     generalize hg : bs[k]?.getD 0 = x at hcx
     have HG := iH hg
     clear hg
     have hkl : k < bs.length := by have := HL.o; omega
     by_cases hs : (letter x || digit x) = true
     · by_cases hk0 : k = 0
       · subst hk0
         simp only [Nat.add_zero] at hcx
         by_cases h57 : x ≤ 57
         · have hd : decide (x ≤ 57) = true := by simpa using h57
           go_wp2_with (go_at_call 137; refine (small_any _ _).mono ?_; rintro e w2 ⟨rfl, rfl⟩)
           go_ret
           refine ⟨?_, _, rfl⟩
           have el : letter (bs[0]?.getD 0) = false := by rw [HG.o]; simp [letter]; omega
           simp [nameOk, el]
         have hd : decide (x ≤ 57) = false := by simpa using h57
         go_wp2_with (go_at_call 137; refine (small_any _ _).mono ?_; rintro e w2 ⟨rfl, rfl⟩)
         go_round
         case rel => exact ⟨1, by omega, by go_num, fun j hj => by
          obtain rfl : j = 0 := by omega
          rw [HG.o]; exact ⟨hs, fun _ => by omega⟩⟩
         case measure => simp [intOf]; omega
       have hk0' : ((k : Int) == 0) = false := by simp; omega
       go_wp2_with (go_at_call 137; refine (small_any _ _).mono ?_; rintro e w2 ⟨rfl, rfl⟩)
       go_round
       case rel => exact ⟨k + 1, by omega, by go_num, fun j hj => by
        by_cases e : j = k
        · subst e; rw [HG.o]; exact ⟨hs, fun h => absurd h hk0⟩
        exact HH.o j (by omega)⟩
       case measure => simp [intOf]; omega
     have hs' : (letter x || digit x) = false := by simpa using hs
     clear hs
     go_wp2_with (go_at_call 137; refine (small_any _ _).mono ?_; rintro e w2 ⟨rfl, rfl⟩)
     go_ret
     refine ⟨?_, _, rfl⟩
     have e := all_not bs (fun b => letter b || digit b) k hkl (by show (letter _ || digit _) = false; rw [HG.o]; exact hs')
     simp [nameOk, e]
   clear HC
   go_wp2
   go_ret
   refine ⟨?_, _, rfl⟩
   have hl := HL.o
   have e := all_of bs (fun b => letter b || digit b) (fun j hj => (HH.o j (by omega)).1)
   have hf : letter (bs[0]?.getD 0) = true := by
    have h := HH.o 0 (by omega)
    have h' := h.2 rfl
    have h'' := h.1
    simp [letter, digit] at h'' ⊢
    omega
   simp only [nameOk, e, hf, hl]
   simp; omega
 have e : (nameOk bs && n == 0 && s == 0) = false := by
  rw [Bool.eq_false_iff]
  intro h
  simp [nameOk] at h
  omega
 rw [e]
 clear e h4
 by_cases g1 : 1 ≤ len
 · by_cases g12 : len ≤ 12
   · by_cases gn : n = 0
     · have gs : (s != 0) = true := by simp; omega
       subst gn
       clear h12
       go_in
       go_wp2
       go_ret
       exact ⟨rfl, _, rfl⟩
     have gn' : (n != 0) = true := by simp; omega
     clear h12 gn
     go_in
     go_wp2
     go_ret
     exact ⟨rfl, _, rfl⟩
   clear h12
   go_in
   go_wp2
   go_ret
   exact ⟨rfl, _, rfl⟩
 clear h12
 go_in
 go_wp2
 go_ret
 exact ⟨rfl, _, rfl⟩
theorem decimal_any (k n s : Int) (a : Option Addr) (len cap : Nat) (w : World) :
 Calls Tryz.prog 182 #[.agg #[.int .i64 k, .slice a len cap, .int .i64 n, .int .i64 s]] w fun e w' => e = .returned (.agg #[.int .i64 n, .int .i64 s]) ∧ ∃ o1 o2, w' = (w.alloc o1).alloc o2 := by
 go_in
 go_wp2
 simp [bodyPost, results, Tryz.results182, go_sem]
 exact ⟨_, _, rfl⟩
set_option maxRecDepth 10000 in
theorem implTermOk_any (k n s : Int) (a : Option Addr) (len cap : Nat) (bs : List Int) (w : World) (hB : Bs w a len bs) (h1 : -9223372036854775808 ≤ n) (h2 : n ≤ 9223372036854775807) (h3 : -9223372036854775808 ≤ s) (h4 : s ≤ 9223372036854775807) :
 Calls Tryz.prog 167 #[.agg #[.int .i64 k, .slice a len cap, .int .i64 n, .int .i64 s]] w fun e w' => e = .returned (.bool (termOk k bs n s)) ∧ Bl w w' := by
 have hB1 : ∀ o1, Bs (w.alloc o1) a len bs := fun o1 => hB.below (bl_alloc brf _)
 have HL := iH hB.1
 have hlm := hB.2.1
 clear hB
 by_cases k0 : k = 0
 · subst k0
   generalize hg : termOk 0 bs n s = r
   have HG := iH hg
   clear hg
   go_in
   go_wp2_with (go_at_call 152; refine (isName_any a len cap bs _ (hB1 _)).mono ?_; rintro e w1 ⟨rfl, rfl⟩)
   all_goals go_ret
   all_goals (refine ⟨congrArg (fun b => Ending.returned (Value.bool b)) ?_, bl_alloc brf _⟩; rw [← HG.o]; clear HG; go_light; simp_all [termOk])
 by_cases k1 : k = 1
 · subst k1
   generalize hg : termOk 1 bs n s = r
   have HG := iH hg
   clear hg
   go_in
   go_wp2_with (go_at_call 150; refine (within_any _ _ _ _).mono ?_; rintro e w1 ⟨rfl, rfl⟩)
   all_goals go_ret
   all_goals (refine ⟨congrArg (fun b => Ending.returned (Value.bool b)) ?_, bl_alloc brf _⟩; have hg := HG.o; have hl := HL.o; rw [← hg, Bool.eq_iff_iff]; go_light; simp [termOk, -List.length_eq_zero_iff]; try omega)
 by_cases k2 : k = 2
 · subst k2
   generalize hg : termOk 2 bs n s = r
   have HG := iH hg
   clear hg
   go_in
   go_wp2_with (go_at_call 181; refine (isText_any a len cap bs _ (hB1 _)).mono ?_; rintro e w1 ⟨rfl, rfl⟩)
   all_goals go_ret
   all_goals (refine ⟨congrArg (fun b => Ending.returned (Value.bool b)) ?_, bl_alloc brf _⟩; rw [← HG.o]; clear HG; go_light; simp_all [termOk])
 by_cases k3 : k = 3
 · subst k3
   generalize hg : termOk 3 bs n s = r
   have HG := iH hg
   clear hg
   by_cases hl0 : len = 0
   · subst hl0
     go_in
     go_wp2_with (first | (go_at_call 182; refine (decimal_any _ _ _ _ _ _ _).mono ?_; rintro e w1 ⟨rfl, o1, o2, rfl⟩) | (go_at_call 183; refine (decOk_any _ _ _ h1 h2 h3 h4).mono ?_; rintro e w2 ⟨rfl, o3, rfl⟩))
     go_ret
     refine ⟨congrArg (fun b => Ending.returned (Value.bool b)) ?_, ?_⟩
     · have hg := HG.o
       have hl := HL.o
       rw [← hg]
       simp [termOk, hl]
     repeat (first | with_reducible exact Below.refl _ _ | with_reducible apply bl_alloc | with_reducible apply Below.drew)
   have hl0' : ((len : Int) == 0) = false := by simp; omega
   go_in
   go_wp2
   go_ret
   refine ⟨congrArg (fun b => Ending.returned (Value.bool b)) ?_, ?_⟩
   · have hg := HG.o
     have hl := HL.o
     have hz : (bs.length == 0) = false := by simp only [beq_eq_false_iff_ne, ne_eq]; omega
     rw [← hg]
     simp [termOk, hz, -List.length_eq_zero_iff, -beq_eq_false_iff_ne]
   repeat (first | with_reducible exact Below.refl _ _ | with_reducible apply bl_alloc | with_reducible apply Below.drew)
 have e : termOk k bs n s = false := by simp [termOk, k0, k1, k2, k3]
 rw [e]
 have g0 : (k == 0) = false := by simp; omega
 have g1 : (k == 1) = false := by simp; omega
 have g2 : (k == 2) = false := by simp; omega
 have g3 : (k == 3) = false := by simp; omega
 clear k0 k1 k2 k3 e
 go_in
 go_wp2
 go_ret
 exact ⟨rfl, bl_alloc brf _⟩
theorem specTermOk_any (k n s : Int) (a : Option Addr) (len cap : Nat) (bs : List Int) (w : World) (hB : Bs w a len bs) (h1 : -9223372036854775808 ≤ n) (h2 : n ≤ 9223372036854775807) :
 Calls Tryz.prog 110 #[.agg #[.int .i64 k, .slice a len cap, .int .i64 n, .int .i64 s]] w fun e w' => e = .returned (.bool (termOk k bs n s)) ∧ ∃ o1, w' = w.alloc o1 := by
 by_cases k0 : k = 0
 · subst k0; exact specTermOk_name n s a len cap bs w hB
 by_cases k1 : k = 1
 · subst k1; exact specTermOk_blank n s a len cap bs w hB
 by_cases k2 : k = 2
 · subst k2; exact specTermOk_text n s a len cap bs w hB
 by_cases k3 : k = 3
 · subst k3; exact specTermOk_number n s a len cap bs w hB h1 h2
 exact specTermOk_other k n s a len cap bs w k0 k1 k2 k3
def At4 (w : World) (b : Nat) (v0 v1 v2 v3 : Value) : Prop :=
 b < w.heap.size ∧ w.cell? ⟨b, 0, none⟩ = some v0 ∧ w.cell? ⟨b, 1, none⟩ = some v1 ∧ w.cell? ⟨b, 2, none⟩ = some v2 ∧ w.cell? ⟨b, 3, none⟩ = some v3
theorem At4.below {w w' : World} {b : Nat} {v0 v1 v2 v3 : Value} (h : At4 w b v0 v1 v2 v3) (hb : Bl w w') : At4 w' b v0 v1 v2 v3 := by
 obtain ⟨hl, h0, h1, h2, h3⟩ := h
 refine ⟨Nat.lt_of_lt_of_le hl hb.size, ?_, ?_, ?_, ?_⟩
 · exact (hb.cell (p := ⟨b, 0, none⟩) hl).trans h0
 · exact (hb.cell (p := ⟨b, 1, none⟩) hl).trans h1
 · exact (hb.cell (p := ⟨b, 2, none⟩) hl).trans h2
 exact (hb.cell (p := ⟨b, 3, none⟩) hl).trans h3
theorem At4.new (w : World) (v0 v1 v2 v3 : Value) (t : TypeId) : At4 (w.alloc (.cells #[v0, v1, v2, v3] t)) w.heap.size v0 v1 v2 v3 := by
 refine ⟨by simp, ?_, ?_, ?_, ?_⟩ <;> simp [go_sem]
theorem bl_a {w : World} (o : Obj) : Bl w (w.alloc o) := bl_alloc brf o
def p10 : Nat → Int
 | 0 => 1
 | k + 1 => p10 k * 10
structure TD where
 k : Int
 bs : List Int
 n : Int
 s : Int
def TD.ok (x : TD) : Bool := termOk x.k x.bs x.n x.s
def numsOf (s : ByteArray) : List Int := s.data.toList.map (fun b => (b.toNat : Int))
def Byt (l : List Int) : Prop := ∀ x ∈ l, 0 ≤ x ∧ x ≤ 255
theorem Byt.get {l : List Int} (h : Byt l) (i : Nat) : 0 ≤ l[i]?.getD 0 ∧ l[i]?.getD 0 ≤ 255 := by
 by_cases hi : i < l.length
 · rw [List.getElem?_eq_getElem hi]
   exact h _ (List.getElem_mem hi)
 rw [List.getElem?_eq_none (by omega)]
 simp
theorem Byt.of {l : List Int} (h : ∀ i : Nat, 0 ≤ l[i]?.getD 0 ∧ l[i]?.getD 0 ≤ 255) : Byt l := by
 intro x hx
 obtain ⟨i, hi, rfl⟩ := List.getElem_of_mem hx
 have := h i
 rwa [List.getElem?_eq_getElem hi] at this
theorem Bs.byt {w : World} {a : Option Addr} {len : Nat} {bs : List Int} (h : Bs w a len bs) : Byt bs := Byt.of h.2.2.1
theorem numsOf_nums {bs : List Int} (h : Byt bs) : numsOf (strOfNums bs) = bs := by
 unfold numsOf
 rw [strOfNums_data, List.map_map]
 have : ∀ x ∈ bs, ((fun b : UInt8 => (b.toNat : Int)) ∘ fun n : Int => UInt8.ofNat n.toNat) x = x := by
  intro x hx
  obtain ⟨h0, h1⟩ := h x hx
  simp
  omega
 rw [List.map_congr_left this, List.map_id']
theorem Bs.str {w : World} {a : Option Addr} {len cap : Nat} {bs : List Int} (h : Bs w a len bs) : (convert 23 9 (.slice a len cap)).run Tryz.prog w = .ok (.string (strOfNums bs)) w := by
 obtain ⟨hl, _, _, h4⟩ := h
 rcases h4 with h4 | ⟨b, off, rfl, _, hc⟩
 · subst h4
   have e := List.eq_nil_of_length_eq_zero hl
   subst e
   cases a with
   | none =>
    rw [run_convert_bytes_nil w 23 5 Tryz.underlying23 Tryz.underlying5 0 cap 9 Tryz.underlying9]
    rfl
   | some x =>
    have hl : (loadCells x 0).run Tryz.prog w = .ok (([] : List Int).map (Value.int .u8)).toArray w := rfl
    rw [run_convert_bytes_string w 23 9 5 _ 0 cap Tryz.underlying23 Tryz.underlying5 Tryz.underlying9, run_bytesToString w _ 0 cap [] hl]
    rfl
 exact run_convert_bytes_arg w 23 5 Tryz.underlying23 Tryz.underlying5 b off len cap bs hl (fun i hi => by rw [hc i hi, List.getD_eq_getElem?_getD]) 9 Tryz.underlying9
open Go.ChangeShapes Go.WideShapes Go.ChangeAt Go.RowKit Go.Joins
theorem own : ownKnob Tryz.prog.godebug = none := by kernel_rfl
theorem laidOut : laidOutB Tryz.prog = true := by kernel_rfl
theorem Tryz.cells25 : Tryz.prog.cellsOf 25 = 4 := by kernel_rfl
theorem Tryz.cells5 : Tryz.prog.cellsOf 5 = 1 := by kernel_rfl
theorem cell_lt {w : World} {a : Addr} {v : Value} (h : w.cell? a = some v) : a.block < w.heap.size := by
 apply Classical.byContradiction
 intro hn
 have e : w.heap[a.block]? = none := by simp; omega
 simp [World.cell?, e] at h
theorem Bs.of_cells {W : World} {x : Addr} {l c : Nat} {zs : List Int} (hl : l ≤ c) (hz : zs.length = c) (h20 : l ≤ 1048576)
 (hcell : ∀ i, i < zs.length → W.cell? (x.add i) = some (.int .u8 (zs.getD i 0))) (hwz : ∀ n ∈ zs, (Lit.int .u8 n).wf = true) : Bs W (some x) l (zs.take l) := by
 refine ⟨by simp; omega, h20, fun i => ?_, ?_⟩
 · by_cases hi : i < (zs.take l).length
   · have hm := List.mem_of_mem_take (List.getElem_mem hi)
     have := bounds_u8 (hwz _ hm)
     rw [List.getElem?_eq_getElem hi]
     exact this
   rw [List.getElem?_eq_none (by omega)]
   simp
 by_cases h0 : l = 0
 · exact .inl h0
 right
 obtain ⟨b, off, spot⟩ := x
 have hc0 := hcell 0 (by omega)
 have hspot : spot = none := by simpa [Addr.add] using World.cell?_spot hc0
 subst hspot
 refine ⟨b, off, rfl, by simpa [Addr.add] using cell_lt hc0, fun i hi => ?_⟩
 have h := hcell i (by omega)
 have ea : (⟨b, off, none⟩ : Addr).add i = ⟨b, off + i, none⟩ := by
  by_cases h0 : i = 0 <;> simp [Addr.add, h0]
 rw [ea] at h
 rw [h, List.getElem?_take, if_pos hi, List.getD_eq_getElem?_getD]
structure But (g : Nat) (w w' : World) : Prop where
 os : w'.os = w.os
 tape : w'.tape = w.tape
 output : w'.output = w.output
 size : w'.heap.size = w.heap.size
 block : ∀ b, b ≠ g → w'.heap[b]? = w.heap[b]?
theorem But.refl (g : Nat) (w : World) : But g w w := ⟨rfl, rfl, rfl, rfl, fun _ _ => rfl⟩
theorem But.set {g : Nat} {w w' : World} (h : But g w w') (i : Nat) (v : Value) : But g w (w'.setCell ⟨g, i, none⟩ v) :=
 ⟨h.os, h.tape, h.output, by simpa using h.size, fun b hb => (Below.heap_setCell _ _ _ _ hb).trans (h.block b hb)⟩
theorem But.cell {g : Nat} {w w' : World} (h : But g w w') {p : Addr} (hp : p.block ≠ g) : w'.cell? p = w.cell? p := World.cell?_of_block (w := w) (h.block p.block hp)
theorem But.below {g B : Nat} {w w' : World} (h : But g w w') (hg : B ≤ g) : Below B w w' :=
 ⟨h.os, h.tape, h.output, by rw [h.size]; exact nR, fun b hb => h.block b (by omega)⟩
theorem set_same {w : World} {g i : Nat} {u v : Value} (h : w.cell? ⟨g, i, none⟩ = some u) : (w.setCell ⟨g, i, none⟩ v).cell? ⟨g, i, none⟩ = some v := by
 simp [go_sem, h]
theorem set_other {w : World} {g i j : Nat} {v : Value} (h : i ≠ j) : (w.setCell ⟨g, j, none⟩ v).cell? ⟨g, i, none⟩ = w.cell? ⟨g, i, none⟩ := by
 simp [go_sem]
theorem toTerm_own (k n s : Int) (a : Option Addr) (len cap : Nat) (bs : List Int) (w : World) (hB : Bs w a len bs) :
 Calls Tryz.prog 80 #[.agg #[.int .i64 k, .slice a len cap, .int .i64 n, .int .i64 s]] w fun e w' =>
  e = .returned (.agg #[.int .i64 k, .slice (some ⟨w.heap.size + 1 + 1 + 1, 0, none⟩) len len, .int .i64 n, .int .i64 s]) ∧ ∃ o1 o2 o3, w' = (((w.alloc o1).alloc o2).alloc o3).alloc (.cells (cellsOf bs) 5) := by
 have hB3 : ∀ o1 o2 o3, Bs (((w.alloc o1).alloc o2).alloc o3) a len bs := fun o1 o2 o3 => hB.below (bl_alloc (bl_alloc (bl_alloc brf _) _) _)
 clear hB
 go_in
 go_wp2_with (go_at_call 33; refine (toByteS_any a len cap bs _ (hB3 _ _ _)).mono ?_; rintro e w1 ⟨rfl, rfl⟩)
 simp [bodyPost, results, Tryz.results80, go_sem]
 exact ⟨_, _, _, rfl⟩
end Go.Proofs.YtoloadogihbdeaaGreat
