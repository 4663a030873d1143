/- Texts put together: NumA TxtA TxtB DrwA TokA TokB TokC TokD TokE -/
import Derived.Test.YtoclingolfdfeaaGreatDoorRows
import Derived.WalkKit
import Derived.WalkSpells
import Derived.WalkLawsBesides
import Derived.ProofKit
import Derived.OpenShut
import Derived.Deep.Light
import Derived.Deep.OwnRows
import Derived.Deep.Draws
import Derived.BigQuiet
import Derived.Deep.QuietTactic
import Derived.Deep.RegionWith
/- NumA -/
namespace Go.Proofs.YtoclingolfdfeaaGreatDoor
open Go.RowKit

theorem bl_alloc {w w' : World} (h : Below w.heap.size w w') (o : Obj) : Below w.heap.size w (w'.alloc o) := h.alloc h.size o
theorem bl_trans {w w' w'' : World} (h : Below w.heap.size w w') (k : Below w'.heap.size w' w'') : Below w.heap.size w w'' := h.trans (k.mono h.size)
theorem bl_set {w w' : World} (h : Below w.heap.size w w') {p : Addr} (hp : w.heap.size ≤ p.block) (u : Value) : Below w.heap.size w (w'.setCell p u) := h.setCell hp u

/-- A number that may be. -/
def numOk (n s : Int) : Bool := decide (0 ≤ s) && decide (s ≤ 6) && decide (-1000000000000000 ≤ n) && decide (n ≤ 1000000000000000) && (s == 0 || n.tmod 10 != 0)

theorem within_any (n a b : Int) (w : World) :
    Calls Tryz.prog 35 #[.int .i64 n, .int .i64 a, .int .i64 b] w fun e w' => e = .returned (.bool (decide (a ≤ n) && decide (n ≤ b))) ∧ w' = w := by
  go_enter Tryz.func35, Tryz.ntmps35
  go_wp2
  all_goals go_ret
  all_goals (refine ⟨?_, rfl⟩; simp [*]; try omega)

theorem decOk_any (n s : Int) (w : World) (_h1 : -9223372036854775808 ≤ n) (_h2 : n ≤ 9223372036854775807) (_h3 : -9223372036854775808 ≤ s) (_h4 : s ≤ 9223372036854775807) :
    Calls Tryz.prog 37 #[.agg #[.int .i64 n, .int .i64 s]] w fun e w' =>
      e = .returned (.bool (numOk n s)) ∧ ∃ o1, w' = w.alloc o1 := by
  go_enter Tryz.func37, Tryz.ntmps37
  go_wp2
  all_goals go_ret
  all_goals refine ⟨?_, _, rfl⟩
  all_goals (go_light; simp_all [numOk]; try omega)

end Go.Proofs.YtoclingolfdfeaaGreatDoor

/- TxtA -/
namespace Go.Proofs.YtoclingolfdfeaaGreatDoor
open Go.RowKit Go.Deep

/-- The slice value's address 'a' leads, for 'len' bytes, to the numbers bs. -/
def Bs (w : World) (a : Option Addr) (len : Nat) (bs : List Int) : Prop :=
  bs.length = len ∧ len ≤ 1048576 ∧ (∀ i : Nat, 0 ≤ bs[i]?.getD 0 ∧ bs[i]?.getD 0 ≤ 255) ∧
    (len = 0 ∨ ∃ b off, a = some ⟨b, off, none⟩ ∧ b < w.heap.size ∧ ∀ i, i < len → w.cell? ⟨b, off + i, none⟩ = some (.int .u8 (bs[i]?.getD 0)))

theorem Bs.below {w w' : World} {a : Option Addr} {len : Nat} {bs : List Int} (h : Bs w a len bs) (hb : Below w.heap.size w w') : Bs w' a len bs := by
  obtain ⟨h1, h2, h3, h4⟩ := h
  refine ⟨h1, h2, h3, ?_⟩
  rcases h4 with h4 | ⟨b, off, ha, hlt, hc⟩
  · exact .inl h4
  · exact .inr ⟨b, off, ha, Nat.lt_of_lt_of_le hlt hb.size, fun i hi => (hb.cell (p := ⟨b, off + i, none⟩) hlt).trans (hc i hi)⟩

/-- The bytes as cells. -/
def cellsOf (bs : List Int) : Array Value := (bs.map (Value.int .u8)).toArray

theorem Bs.made (w : World) (bs : List Int) (len : Nat) (hl : bs.length = len) (h2 : len ≤ 1048576) (h3 : ∀ i : Nat, 0 ≤ bs[i]?.getD 0 ∧ bs[i]?.getD 0 ≤ 255) :
    Bs (w.alloc (.cells (cellsOf bs) 5)) (some ⟨w.heap.size, 0, none⟩) len bs := by
  refine ⟨hl, h2, h3, .inr ⟨w.heap.size, 0, rfl, by simp, fun i hi => ?_⟩⟩
  have hi' : i < bs.length := by omega
  simp [go_sem, cellsOf, hi']

theorem Tryz.info5 : (Tryz.prog.info? 5).map (fun i => (i.zero, i.size, i.bytes)) = some (some (.int .u8 0), 1, 1) := by kernel_rfl

/-- The row while it is filled: the first k are there. -/
def filled (bs : List Int) (k : Nat) : Array Value := (Array.range bs.length).map (fun i => Value.int .u8 (if i < k then bs[i]?.getD 0 else 0))

theorem filled_get (bs : List Int) (k i : Nat) : (filled bs k)[i]? = if i < bs.length then some (Value.int .u8 (if i < k then bs[i]?.getD 0 else 0)) else none := by
  by_cases h : i < bs.length <;> simp [filled, h]
theorem filled_zero (bs : List Int) (n : Nat) (h : bs.length = n) : madeCells #[Value.int .u8 0] n = filled bs 0 := by
  subst h
  apply Array.ext_getElem?
  intro i
  rw [filled_get]
  by_cases h : i < bs.length <;> simp [madeCells, h, Nat.mod_one]
theorem filled_at (bs : List Int) (k : Nat) (h : k < bs.length) : (filled bs k)[k]? = some (Value.int .u8 0) := by
  rw [filled_get]; simp [h]
theorem filled_step (bs : List Int) (k : Nat) : (filled bs k).setIfInBounds k (Value.int .u8 (bs[k]?.getD 0)) = filled bs (k + 1) := by
  apply Array.ext_getElem?
  intro i
  rw [Array.getElem?_setIfInBounds, filled_get, filled_get]
  have hsz : (filled bs k).size = bs.length := by simp [filled]
  rw [hsz]
  by_cases e : k = i
  · subst e
    by_cases h : k < bs.length <;> simp [h]
  · rw [if_neg e]
    by_cases h : i < k
    · rw [if_pos h, if_pos (by omega : i < k + 1)]
    · rw [if_neg h, if_neg (by omega : ¬ i < k + 1)]
theorem filled_end (bs : List Int) (k : Nat) (hk : bs.length ≤ k) : filled bs k = cellsOf bs := by
  apply Array.ext_getElem?
  intro i
  rw [filled_get]
  by_cases h : i < bs.length
  · have : i < k := by omega
    simp [h, cellsOf, this]
  · simp [h, cellsOf]

theorem toByteS_any (a : Option Addr) (len cap : Nat) (bs : List Int) (w : World) (hB : Bs w a len bs) :
    Calls Tryz.prog 21 #[.slice a len cap] w fun e w' =>
      e = .returned (.slice (some ⟨w.heap.size, 0, none⟩) len len) ∧ w' = w.alloc (.cells (cellsOf bs) 5) := by
  obtain ⟨hl, h2, h3, h4⟩ := hB
  have hmk := run_make_row' (P := Tryz.prog) 22 5 (.int .u8 0) 1 Tryz.underlying22 Tryz.info5 rfl .i64 .i64 len (by omega) (by omega)
  rcases h4 with h4 | ⟨b, off, rfl, hlt, hc⟩
  · subst h4
    have e0 : cellsOf bs = madeCells #[Value.int .u8 0] 0 := by rw [filled_zero bs 0 hl, ← filled_end bs 0 (by omega)]
    rw [e0]
    have hmk0 : ∀ w, (Instr.makeSlice 22 (.int .i64 0) (.int .i64 0)).run Tryz.prog w = .ok (.slice (some ⟨w.heap.size, 0, none⟩) 0 0) (w.alloc (.cells (madeCells #[Value.int .u8 0] 0) 5)) := fun w => by simpa using hmk w
    clear hmk
    go_enter Tryz.func21, Tryz.ntmps21
    go_wp2
    refine wp_loop_rounds 1 ?_
    rw [rounds_succ]
    go_wp2
    go_ret
    exact ⟨rfl, rfl⟩
  · go_enter Tryz.func21, Tryz.ntmps21
    go_wp2
    go_loopw [4] (fun i wr => ∃ k : Nat, k ≤ len ∧ i = .int .i64 k ∧ wr = w.alloc (.cells (filled bs k) 5))
      (fun i _ => len - (intOf i).toNat)
    case atStart => exact ⟨0, Nat.zero_le _, rfl, by rw [filled_zero bs len hl]⟩
    case round =>
      obtain ⟨k, hk, rfl, rfl⟩ := hrel
      have hcx : k < len → w.cell? ⟨b, off + k, none⟩ = some (.int .u8 (bs[k]?.getD 0)) := fun h => hc k h
      have hfx : k < len → (filled bs k)[k]? = some (Value.int .u8 0) := fun h => filled_at bs k (by omega)
      have HL : Hid (bs.length = len) := hl
      clear hc h3 hmk hl
      go_wp2
      · go_roundw
        case rel =>
          refine ⟨k + 1, by omega, by go_num, ?_⟩
          rw [filled_step]
        case measure => simp [intOf]; omega
      · go_ret
        refine ⟨rfl, ?_⟩
        rw [filled_end bs k (by have := HL.out; omega)]
end Go.Proofs.YtoclingolfdfeaaGreatDoor

/- TxtB -/
namespace Go.Proofs.YtoclingolfdfeaaGreatDoor
open Go.RowKit Go.Deep

theorem list_eq_of (xs bs : List Int) (h : xs.length = bs.length) (H : ∀ j : Nat, j < xs.length → xs[j]?.getD 0 = bs[j]?.getD 0) : xs = bs := by
  apply List.ext_getElem h
  intro i h1 h2
  have := H i h1
  simpa [h1, h2] using this
theorem list_ne_of (xs bs : List Int) (k : Nat) (H : xs[k]?.getD 0 ≠ bs[k]?.getD 0) : xs ≠ bs := by
  intro e; subst e; exact H rfl

theorem eqByteS_any (a b : Option Addr) (la lb ca cb : Nat) (xs bs : List Int) (w : World) (hA : Bs w a la xs) (hB : Bs w b lb bs) :
    Calls Tryz.prog 23 #[.slice a la ca, .slice b lb cb] w fun e w' => e = .returned (.bool (decide (xs = bs))) ∧ ∃ q, w' = w.drewN q := by
  obtain ⟨hla, h2a, h3a, h4a⟩ := hA
  obtain ⟨hlb, h2b, h3b, h4b⟩ := hB
  by_cases hne : la = lb
  · subst hne
    rcases h4a with h4a | ⟨ba, offa, rfl, hlta, hca⟩
    · subst h4a
      have e : xs = bs := by
        rw [List.eq_nil_of_length_eq_zero hla, List.eq_nil_of_length_eq_zero hlb]
      have e' : decide (xs = bs) = true := by simp [e]
      rw [e']
      go_enter Tryz.func23, Tryz.ntmps23
      go_wp2
      refine wp_loop_rounds 1 ?_
      rw [rounds_succ]
      go_wp2
      go_ret
      exact ⟨rfl, 0, rfl⟩
    · rcases h4b with h4b | ⟨bb, offb, rfl, hltb, hcb⟩
      · subst h4b
        have e : xs = bs := by
          rw [List.eq_nil_of_length_eq_zero hla, List.eq_nil_of_length_eq_zero hlb]
        have e' : decide (xs = bs) = true := by simp [e]
        rw [e']
        go_enter Tryz.func23, Tryz.ntmps23
        go_wp2
        refine wp_loop_rounds 1 ?_
        rw [rounds_succ]
        go_wp2
        go_ret
        exact ⟨rfl, 0, rfl⟩
      · go_enter Tryz.func23, Tryz.ntmps23
        go_wp2
        go_loopw [5] (fun i wr => ∃ k q : Nat, k ≤ la ∧ i = .int .i64 k ∧ wr = w.drewN q ∧ ∀ j : Nat, j < k → xs[j]?.getD 0 = bs[j]?.getD 0)
          (fun i _ => la - (intOf i).toNat)
        case atStart => exact ⟨0, 0, Nat.zero_le _, rfl, rfl, by intro j hj; omega⟩
        case round =>
          obtain ⟨k, q, hk, rfl, rfl, hH⟩ := hrel
          have HA : Hid (xs.length = la) := hla
          have HB : Hid (bs.length = la) := hlb
          have HH : Hid (∀ j : Nat, j < k → xs[j]?.getD 0 = bs[j]?.getD 0) := hH
          by_cases hlt : k < la
          · have hx := hca k hlt
            have hy := hcb k hlt
            clear hca hcb hla hlb hH h3a h3b
            go_wp2
            go_region
            all_goals go_wp2
            · have hd : (xs[k]?.getD 0 != bs[k]?.getD 0) = true := by assumption
              have : xs ≠ bs := list_ne_of xs bs k (by simpa using hd)
              go_ret
              exact ⟨by simp [this], _, rfl⟩
            · have hd : (xs[k]?.getD 0 != bs[k]?.getD 0) = false := by assumption
              have hd' : xs[k]?.getD 0 = bs[k]?.getD 0 := by simpa using hd
              go_roundw
              case rel => exact ⟨k + 1, q + 1, by omega, by go_num, rfl, fun j hj => by
                by_cases e : j = k
                · rw [e]; exact hd'
                · exact HH.out j (by omega)⟩
              case measure => simp [intOf]; omega
          · clear hca hcb hla hlb hH h3a h3b
            go_wp2
            go_ret
            refine ⟨?_, q, rfl⟩
            have : xs = bs := list_eq_of xs bs (HA.out.trans HB.out.symm) (fun j hj => HH.out j (by have := HA.out; omega))
            simp [this]
  · have e : xs ≠ bs := by intro e; subst e; exact hne (hla.symm.trans hlb)
    have e' : decide (xs = bs) = false := by simp [e]
    rw [e']
    have hz : ((la : Int) == (lb : Int)) = false := by simp; omega
    clear h4a h4b h3a h3b
    go_enter Tryz.func23, Tryz.ntmps23
    go_wp2
    go_ret
    exact ⟨rfl, 0, rfl⟩

theorem eqTerm_any (k n s k' n' s' : Int) (a a' : Option Addr) (len cap len' cap' : Nat) (bs bs' : List Int) (w : World) (hB : Bs w a len bs) (hB' : Bs w a' len' bs') :
    Calls Tryz.prog 126 #[.agg #[.int .i64 k, .slice a len cap, .int .i64 n, .int .i64 s], .agg #[.int .i64 k', .slice a' len' cap', .int .i64 n', .int .i64 s']] w fun e w' =>
      e = .returned (.bool (decide (k = k' ∧ bs = bs' ∧ n = n' ∧ s = s'))) ∧ Below w.heap.size w w' := by
  have h1 : ∀ o1 o2, Bs ((w.alloc o1).alloc o2) a len bs := fun o1 o2 => hB.below (bl_alloc (bl_alloc (Below.refl _ _) _) _)
  have h2 : ∀ o1 o2, Bs ((w.alloc o1).alloc o2) a' len' bs' := fun o1 o2 => hB'.below (bl_alloc (bl_alloc (Below.refl _ _) _) _)
  clear hB hB'
  go_enter Tryz.func126, Tryz.ntmps126
  go_wp2_with (go_at_call 23; refine (eqByteS_any a a' len len' cap cap' bs bs' _ (h1 _ _) (h2 _ _)).mono ?_; rintro e w1 ⟨rfl, q, rfl⟩)
  all_goals go_ret
  all_goals refine ⟨?_, ?_⟩
  all_goals first | ((repeat (first | with_reducible exact Below.refl _ _ | with_reducible apply bl_alloc | with_reducible apply Below.drew | with_reducible apply below_drewN)); done) | skip
  all_goals (go_light; simp_all)
end Go.Proofs.YtoclingolfdfeaaGreatDoor

/- DrwA -/
namespace Go.Proofs.YtoclingolfdfeaaGreatDoor
open Go.RowKit Go.Deep

/-- A row of bytes that came in, of whatever length. -/
def Code (w : World) (a : Option Addr) (len : Nat) : Prop :=
  len = 0 ∨ ∃ b off, a = some ⟨b, off, none⟩ ∧ b < w.heap.size ∧ ∀ i, i < len → ∃ v, w.cell? ⟨b, off + i, none⟩ = some (.int .u8 v) ∧ 0 ≤ v ∧ v ≤ 255

/-- The cursor c lies in block g; the code is not in it. -/
structure Cur (w : World) (g : Nat) (a : Option Addr) (len cap : Nat) : Prop where
  lt : g < w.heap.size
  c0 : w.cell? ⟨g, 0, none⟩ = some (.slice a len cap)
  c1 : ∃ i : Nat, i ≤ len ∧ w.cell? ⟨g, 1, none⟩ = some (.int .i64 i)
  c2 : ∃ h : Int, w.cell? ⟨g, 2, none⟩ = some (.int .i64 h)
  f1 : w.frozen? ⟨g, 1, none⟩ = false
  f2 : w.frozen? ⟨g, 2, none⟩ = false
  code : len = 0 ∨ ∃ b off, a = some ⟨b, off, none⟩ ∧ b < w.heap.size ∧ b ≠ g ∧ ∀ i, i < len → ∃ v, w.cell? ⟨b, off + i, none⟩ = some (.int .u8 v) ∧ 0 ≤ v ∧ v ≤ 255

/-- All blocks that there were but g are as they were. -/
structure Past (g : Nat) (w w' : World) : Prop where
  os : w'.os = w.os
  tape : w'.tape = w.tape
  output : w'.output = w.output
  size : w.heap.size ≤ w'.heap.size
  block : ∀ b, b < w.heap.size → b ≠ g → w'.heap[b]? = w.heap[b]?
theorem Past.refl (g : Nat) (w : World) : Past g w w := ⟨rfl, rfl, rfl, Nat.le_refl _, fun _ _ _ => rfl⟩
theorem Past.trans {g : Nat} {w w' w'' : World} (h : Past g w w') (k : Past g w' w'') : Past g w w'' :=
  ⟨k.os.trans h.os, k.tape.trans h.tape, k.output.trans h.output, Nat.le_trans h.size k.size, fun b hb hn => (k.block b (Nat.lt_of_lt_of_le hb h.size) hn).trans (h.block b hb hn)⟩
theorem Past.of_below {g : Nat} {w w' : World} (h : Below w.heap.size w w') : Past g w w' := ⟨h.os, h.tape, h.output, h.size, fun b hb _ => h.block b hb⟩
theorem Past.set {g : Nat} {w w' : World} (h : Past g w w') (i : Nat) (v : Value) : Past g w (w'.setCell ⟨g, i, none⟩ v) :=
  ⟨h.os, h.tape, h.output, by simpa using h.size, fun b hb hn => (Below.heap_setCell _ _ _ _ hn).trans (h.block b hb hn)⟩
theorem Past.below {g B : Nat} {w w' : World} (h : Past g w w') (hB : B ≤ g) (hw : B ≤ w.heap.size) : Below B w w' :=
  ⟨h.os, h.tape, h.output, h.size, fun b hb => h.block b (by omega) (by omega)⟩
theorem Past.cell {g : Nat} {w w' : World} (h : Past g w w') {p : Addr} (hp : p.block < w.heap.size) (hn : p.block ≠ g) : w'.cell? p = w.cell? p := World.cell?_of_block (w := w) (h.block p.block hp hn)
theorem Past.frozen {g : Nat} {w w' : World} (h : Past g w w') {p : Addr} (hp : p.block < w.heap.size) (hn : p.block ≠ g) : w'.frozen? p = w.frozen? p := World.frozen?_of_block (w := w) (h.block p.block hp hn)
theorem Cur.below {w w' : World} {g : Nat} {a : Option Addr} {len cap : Nat} (h : Cur w g a len cap) (hb : Below w.heap.size w w') : Cur w' g a len cap := by
  have e : ∀ i, w'.cell? ⟨g, i, none⟩ = w.cell? ⟨g, i, none⟩ := fun i => hb.cell (p := ⟨g, i, none⟩) h.lt
  have f : ∀ i, w'.frozen? ⟨g, i, none⟩ = w.frozen? ⟨g, i, none⟩ := fun i => hb.frozen (p := ⟨g, i, none⟩) h.lt
  refine ⟨Nat.lt_of_lt_of_le h.lt hb.size, (e 0).trans h.c0, ?_, ?_, (f 1).trans h.f1, (f 2).trans h.f2, ?_⟩
  · rw [e 1]; exact h.c1
  · rw [e 2]; exact h.c2
  · rcases h.code with hc | ⟨b, off, ha, hlt, hn, hc⟩
    · exact .inl hc
    · refine .inr ⟨b, off, ha, Nat.lt_of_lt_of_le hlt hb.size, hn, fun i hi => ?_⟩
      rw [hb.cell (p := ⟨b, off + i, none⟩) hlt]
      exact hc i hi

theorem Past.drewN {g : Nat} {w w' : World} (h : Past g w w') (q : Nat) : Past g w (w'.drewN q) := h.trans (Past.of_below (below_drewN (Below.refl _ _) q))
theorem Cur.drewN {w : World} {g : Nat} {a : Option Addr} {len cap : Nat} (h : Cur w g a len cap) (q : Nat) : Cur (w.drewN q) g a len cap := h.below (below_drewN (Below.refl _ _) q)
end Go.Proofs.YtoclingolfdfeaaGreatDoor

/- TokA -/
namespace Go.Proofs.YtoclingolfdfeaaGreatDoor
open Go.RowKit Go.Deep

def letter (b : Int) : Bool := decide (97 ≤ b) && decide (b ≤ 122)
def digit (b : Int) : Bool := decide (48 ≤ b) && decide (b ≤ 57)
def plainB (b : Int) : Bool := decide (32 ≤ b) && decide (b ≤ 126)
def nameOk (bs : List Int) : Bool := decide (1 ≤ bs.length) && decide (bs.length ≤ 12) && letter (bs[0]?.getD 0) && bs.all (fun b => letter b || digit b)
def textOk (bs : List Int) : Bool := decide (bs.length ≤ 30) && bs.all plainB
/-- A term that may be. -/
def termOk (k : Int) (bs : List Int) (n s : Int) : Bool :=
  if k = 0 then nameOk bs && n == 0 && s == 0
  else if k = 1 then bs.length == 0 && decide (0 ≤ n) && decide (n ≤ 999999) && s == 0
  else if k = 2 then textOk bs && n == 0 && s == 0
  else if k = 3 then bs.length == 0 && numOk n s
  else false

theorem all_of (bs : List Int) (p : Int → Bool) (H : ∀ j : Nat, j < bs.length → p (bs[j]?.getD 0) = true) : bs.all p = true := by
  rw [List.all_eq_true]
  intro x hx
  obtain ⟨i, hi, rfl⟩ := List.getElem_of_mem hx
  have := H i hi
  simpa [hi] using this
theorem all_not (bs : List Int) (p : Int → Bool) (k : Nat) (h : k < bs.length) (H : p (bs[k]?.getD 0) = false) : bs.all p = false := by
  rw [List.all_eq_false]
  refine ⟨bs[k], List.getElem_mem h, ?_⟩
  simpa [h] using H

theorem small_any (b : Int) (w : World) : Calls Tryz.prog 33 #[.int .u8 b] w fun e w' => e = .returned (.bool (letter b || digit b)) ∧ w' = w := by
  go_enter Tryz.func33, Tryz.ntmps33
  go_wp2
  all_goals go_ret
  all_goals (refine ⟨congrArg (fun b => Ending.returned (Value.bool b)) ?_, rfl⟩; rw [Bool.eq_iff_iff]; simp [letter, digit]; try omega)
theorem letter_any (b : Int) (w : World) : Calls Tryz.prog 66 #[.int .u8 b] w fun e w' => e = .returned (.bool (letter b)) ∧ w' = w := by
  go_enter Tryz.func66, Tryz.ntmps66
  go_wp2
  all_goals go_ret
  all_goals (refine ⟨?_, rfl⟩; simp [letter]; try omega)
theorem digit_any (b : Int) (w : World) : Calls Tryz.prog 67 #[.int .u8 b] w fun e w' => e = .returned (.bool (digit b)) ∧ w' = w := by
  go_enter Tryz.func67, Tryz.ntmps67
  go_wp2
  all_goals go_ret
  all_goals (refine ⟨?_, rfl⟩; simp [digit]; try omega)

theorem isText_any (a : Option Addr) (len cap : Nat) (bs : List Int) (w : World) (hB : Bs w a len bs) :
    Calls Tryz.prog 36 #[.slice a len cap] w fun e w' => e = .returned (.bool (textOk bs)) ∧ w' = w := by
  obtain ⟨hl, h2, h3, h4⟩ := hB
  clear h3
  by_cases h30 : len ≤ 30
  · rcases h4 with h4 | ⟨b, off, rfl, hlt, hc⟩
    · subst h4
      have e : textOk bs = true := by simp [textOk, List.eq_nil_of_length_eq_zero hl]
      rw [e]
      clear hl
      go_enter Tryz.func36, Tryz.ntmps36
      go_wp2
      refine wp_loop_rounds 1 ?_
      rw [rounds_succ]
      go_wp2
      go_ret
      exact ⟨rfl, rfl⟩
    · have HL : Hid (bs.length = len) := hl
      clear hl
      go_enter Tryz.func36, Tryz.ntmps36
      go_wp2
      go_loop [10] (fun i => ∃ k : Nat, k ≤ len ∧ i = .int .i64 k ∧ ∀ j : Nat, j < k → plainB (bs[j]?.getD 0) = true)
        (fun i => len - (intOf i).toNat)
      case atStart => exact ⟨0, Nat.zero_le _, rfl, by intro j hj; omega⟩
      case round =>
        obtain ⟨k, hk, rfl, hH⟩ := hrel
        have HH : Hid (∀ j : Nat, j < k → plainB (bs[j]?.getD 0) = true) := hH
        have hcx : k < len → w.cell? ⟨b, off + k, none⟩ = some (.int .u8 (bs[k]?.getD 0)) := fun h => hc k h
        clear hc hH
        go_wp2
        · have hx : bs[k]?.getD 0 < 32 ∨ 126 < bs[k]?.getD 0 := by assumption
          go_ret
          refine ⟨?_, rfl⟩
          have e := all_not bs plainB k (by have := HL.out; omega) (by simp [plainB]; omega)
          simp [textOk, e]
        · have hx : 32 ≤ bs[k]?.getD 0 ∧ bs[k]?.getD 0 ≤ 126 := by assumption
          go_round
          case rel => exact ⟨k + 1, by omega, by go_num, fun j hj => by
            by_cases e : j = k
            · subst e; simp [plainB]; omega
            · exact HH.out j (by omega)⟩
          case measure => simp [intOf]; omega
        · have hx : bs[k]?.getD 0 < 32 := by assumption
          go_ret
          refine ⟨?_, rfl⟩
          have e := all_not bs plainB k (by have := HL.out; omega) (by simp [plainB]; omega)
          simp [textOk, e]
        · go_ret
          refine ⟨?_, rfl⟩
          have hl := HL.out
          have e := all_of bs plainB (fun j hj => HH.out j (by omega))
          simp [textOk, e]; omega
  · have e : textOk bs = false := by simp [textOk]; omega
    rw [e]
    clear h4
    go_enter Tryz.func36, Tryz.ntmps36
    go_wp2
    go_ret
    exact ⟨rfl, rfl⟩

theorem isName_any (a : Option Addr) (len cap : Nat) (bs : List Int) (w : World) (hB : Bs w a len bs) :
    Calls Tryz.prog 34 #[.slice a len cap] w fun e w' => e = .returned (.bool (nameOk bs)) ∧ w' = w := by
  obtain ⟨hl, h2, h3, h4⟩ := hB
  clear h3
  by_cases h0 : len = 0
  · subst h0
    have e : nameOk bs = false := by simp [nameOk, hl]
    rw [e]
    clear hl h4
    go_enter Tryz.func34, Tryz.ntmps34
    go_wp2
    go_ret
    exact ⟨rfl, rfl⟩
  obtain ⟨b, off, rfl, hlt, hc⟩ : ∃ b off, a = some ⟨b, off, none⟩ ∧ b < w.heap.size ∧ ∀ i, i < len → w.cell? ⟨b, off + i, none⟩ = some (.int .u8 (bs[i]?.getD 0)) := by
    rcases h4 with h4 | h4
    · exact absurd h4 h0
    · exact h4
  clear h4
  by_cases h12 : len ≤ 12
  · have hc0 : w.cell? ⟨b, off, none⟩ = some (.int .u8 (bs[0]?.getD 0)) := hc 0 (by omega)
    have hb1 : (1 : Int) ≤ (len : Int) := by omega
    have hb0 : (0 : Int) < (len : Int) := by omega
    have HL : Hid (bs.length = len) := hl
    clear hl
    by_cases hf : letter (bs[0]?.getD 0) = true
    · go_enter Tryz.func34, Tryz.ntmps34
      go_wp2_with (first | (go_at_call 66; refine (letter_any _ _).mono ?_; rintro e w1 ⟨rfl, rfl⟩) | go_in)
      go_loop [18] (fun i => ∃ k : Nat, k ≤ len ∧ i = .int .i64 k ∧ ∀ j : Nat, j < k → (letter (bs[j]?.getD 0) || digit (bs[j]?.getD 0)) = true)
        (fun i => len - (intOf i).toNat)
      case atStart => exact ⟨0, Nat.zero_le _, rfl, by intro j hj; omega⟩
      case round =>
        obtain ⟨k, hk, rfl, hH⟩ := hrel
        have HH : Hid (∀ j : Nat, j < k → (letter (bs[j]?.getD 0) || digit (bs[j]?.getD 0)) = true) := hH
        have HC := hc
        have HF : Hid (letter (bs[0]?.getD 0) = true) := hf
        clear hc hH hc0 hf
        by_cases hlt2 : k < len
        · have hcx := HC k hlt2
          clear HC
          generalize hg : bs[k]?.getD 0 = x at hcx
          have HG : Hid (bs[k]?.getD 0 = x) := hg
          clear hg
          have hkl : k < bs.length := by have := HL.out; omega
          by_cases h1 : letter x = true
          · go_wp2_with (first | (go_at_call 66; refine (letter_any _ _).mono ?_; rintro e w2 ⟨rfl, rfl⟩) | (go_at_call 67; refine (digit_any _ _).mono ?_; rintro e w3 ⟨rfl, rfl⟩))
            go_round
            case rel => exact ⟨k + 1, by omega, by go_num, fun j hj => by
              by_cases e : j = k
              · subst e; rw [HG.out, h1]; rfl
              · exact HH.out j (by omega)⟩
            case measure => simp [intOf]; omega
          · have h1' : letter x = false := by simpa using h1
            clear h1
            by_cases h2 : digit x = true
            · go_wp2_with (first | (go_at_call 66; refine (letter_any _ _).mono ?_; rintro e w2 ⟨rfl, rfl⟩) | (go_at_call 67; refine (digit_any _ _).mono ?_; rintro e w3 ⟨rfl, rfl⟩))
              go_round
              case rel => exact ⟨k + 1, by omega, by go_num, fun j hj => by
                by_cases e : j = k
                · subst e; rw [HG.out, h2]; simp
                · exact HH.out j (by omega)⟩
              case measure => simp [intOf]; omega
            · have h2' : digit x = false := by simpa using h2
              clear h2
              go_wp2_with (first | (go_at_call 66; refine (letter_any _ _).mono ?_; rintro e w2 ⟨rfl, rfl⟩) | (go_at_call 67; refine (digit_any _ _).mono ?_; rintro e w3 ⟨rfl, rfl⟩))
              go_ret
              refine ⟨?_, rfl⟩
              have e := all_not bs (fun b => letter b || digit b) k hkl (by show (letter _ || digit _) = false; rw [HG.out, h1', h2']; rfl)
              simp [nameOk, e]
        · clear HC
          go_wp2
          go_ret
          refine ⟨?_, rfl⟩
          have hl := HL.out
          have e := all_of bs (fun b => letter b || digit b) (fun j hj => HH.out j (by omega))
          have hf := HF.out
          simp only [nameOk, e, hf, hl]
          simp; omega
    · have hf' : letter (bs[0]?.getD 0) = false := by simpa using hf
      have e : nameOk bs = false := by simp [nameOk, hf']
      rw [e]
      clear hf
      go_enter Tryz.func34, Tryz.ntmps34
      go_wp2_with (first | (go_at_call 66; refine (letter_any _ _).mono ?_; rintro e w1 ⟨rfl, rfl⟩) | go_in)
      go_ret
      exact ⟨rfl, rfl⟩
  · have e : nameOk bs = false := by simp [nameOk, hl]; omega
    rw [e]
    have h12' : decide ((len : Int) ≤ 12) = false := by simp; omega
    clear hl hc
    go_enter Tryz.func34, Tryz.ntmps34
    go_wp2
    go_ret
    exact ⟨rfl, rfl⟩
end Go.Proofs.YtoclingolfdfeaaGreatDoor

/- TokB -/
namespace Go.Proofs.YtoclingolfdfeaaGreatDoor
open Go.RowKit Go.Deep

theorem specTermOk_blank (n s : Int) (a : Option Addr) (len cap : Nat) (bs : List Int) (w : World) (hB : Bs w a len bs) :
    Calls Tryz.prog 8 #[.agg #[.int .i64 1, .slice a len cap, .int .i64 n, .int .i64 s]] w fun e w' => e = .returned (.bool (termOk 1 bs n s)) ∧ ∃ o1, w' = w.alloc o1 := by
  obtain ⟨hl, h2, h3, h4⟩ := hB
  have HL : Hid (bs.length = len) := hl
  clear h3 h4 hl
  go_enter Tryz.func8, Tryz.ntmps8
  go_wp2
  all_goals go_ret
  all_goals (refine ⟨congrArg (fun b => Ending.returned (Value.bool b)) ?_, _, rfl⟩; have hl := HL.out; rw [Bool.eq_iff_iff]; go_light; simp [termOk, -List.length_eq_zero_iff]; try omega)

theorem specTermOk_number (n s : Int) (a : Option Addr) (len cap : Nat) (bs : List Int) (w : World) (hB : Bs w a len bs) (_h1 : -9223372036854775808 ≤ n) (_h2 : n ≤ 9223372036854775807) :
    Calls Tryz.prog 8 #[.agg #[.int .i64 3, .slice a len cap, .int .i64 n, .int .i64 s]] w fun e w' => e = .returned (.bool (termOk 3 bs n s)) ∧ ∃ o1, w' = w.alloc o1 := by
  obtain ⟨hl, h2, h3, h4⟩ := hB
  have HL : Hid (bs.length = len) := hl
  clear h3 h4 hl
  go_enter Tryz.func8, Tryz.ntmps8
  go_wp2
  all_goals go_ret
  all_goals (refine ⟨congrArg (fun b => Ending.returned (Value.bool b)) ?_, _, rfl⟩; have hl := HL.out; rw [Bool.eq_iff_iff]; go_light; simp [termOk, numOk, -List.length_eq_zero_iff]; try omega)

theorem specTermOk_other (k n s : Int) (a : Option Addr) (len cap : Nat) (bs : List Int) (w : World) (h0 : k ≠ 0) (h1 : k ≠ 1) (h2 : k ≠ 2) (h3 : k ≠ 3) :
    Calls Tryz.prog 8 #[.agg #[.int .i64 k, .slice a len cap, .int .i64 n, .int .i64 s]] w fun e w' => e = .returned (.bool (termOk k bs n s)) ∧ ∃ o1, w' = w.alloc o1 := by
  have e : termOk k bs n s = false := by simp [termOk, h0, h1, h2, h3]
  rw [e]
  have g0 : (k == 0) = false := by simp; omega
  have g1 : (k == 1) = false := by simp; omega
  have g2 : (k == 2) = false := by simp; omega
  have g3 : (k == 3) = false := by simp; omega
  clear h0 h1 h2 h3 e
  go_enter Tryz.func8, Tryz.ntmps8
  go_wp2
  go_ret
  exact ⟨rfl, _, rfl⟩

set_option maxRecDepth 10000 in
set_option maxHeartbeats 1000000 in
theorem specTermOk_text (n s : Int) (a : Option Addr) (len cap : Nat) (bs : List Int) (w : World) (hB : Bs w a len bs) :
    Calls Tryz.prog 8 #[.agg #[.int .i64 2, .slice a len cap, .int .i64 n, .int .i64 s]] w fun e w' => e = .returned (.bool (termOk 2 bs n s)) ∧ ∃ o1, w' = w.alloc o1 := by
  obtain ⟨hl, h2, h3, h4⟩ := hB
  have et : termOk 2 bs n s = (textOk bs && n == 0 && s == 0) := by simp [termOk]
  rw [et]
  clear h3 et
  by_cases h30 : len ≤ 30 ∧ n = 0 ∧ s = 0
  · obtain ⟨h30, rfl, rfl⟩ := h30
    have eb : (textOk bs && (0 : Int) == 0 && (0 : Int) == 0) = textOk bs := by simp
    rw [eb]
    clear eb
    rcases h4 with h4 | ⟨b, off, rfl, hlt, hc⟩
    · subst h4
      have e : textOk bs = true := by simp [textOk, List.eq_nil_of_length_eq_zero hl]
      rw [e]
      clear hl e
      go_enter Tryz.func8, Tryz.ntmps8
      go_wp2
      refine wp_loop_rounds 1 ?_
      rw [rounds_succ]
      go_wp2
      go_ret
      exact ⟨rfl, _, rfl⟩
    · have HL : Hid (bs.length = len) := hl
      clear hl
      go_enter Tryz.func8, Tryz.ntmps8
      go_wp2
      go_loop [4] (fun i => ∃ k : Nat, k ≤ len ∧ i = .int .i64 k ∧ ∀ j : Nat, j < k → plainB (bs[j]?.getD 0) = true)
        (fun i => len - (intOf i).toNat)
      case atStart => exact ⟨0, Nat.zero_le _, rfl, by intro j hj; omega⟩
      case round =>
        obtain ⟨k, hk, rfl, hH⟩ := hrel
        have HH : Hid (∀ j : Nat, j < k → plainB (bs[j]?.getD 0) = true) := hH
        have hcx : k < len → w.cell? ⟨b, off + k, none⟩ = some (.int .u8 (bs[k]?.getD 0)) := fun h => hc k h
        clear hc hH
        go_wp2
        · have hx : bs[k]?.getD 0 < 32 ∨ 126 < bs[k]?.getD 0 := by assumption
          go_ret
          refine ⟨?_, _, rfl⟩
          have e := all_not bs plainB k (by have := HL.out; omega) (by simp [plainB]; omega)
          simp [textOk, e]
        · have hx : 32 ≤ bs[k]?.getD 0 ∧ bs[k]?.getD 0 ≤ 126 := by assumption
          go_round
          case rel => exact ⟨k + 1, by omega, by go_num, fun j hj => by
            by_cases e : j = k
            · subst e; simp [plainB]; omega
            · exact HH.out j (by omega)⟩
          case measure => simp [intOf]; omega
        · have hx : bs[k]?.getD 0 < 32 := by assumption
          go_ret
          refine ⟨?_, _, rfl⟩
          have e := all_not bs plainB k (by have := HL.out; omega) (by simp [plainB]; omega)
          simp [textOk, e]
        · go_ret
          refine ⟨?_, _, rfl⟩
          have hl := HL.out
          have e := all_of bs plainB (fun j hj => HH.out j (by omega))
          simp [textOk, e]; omega
  · have e : (textOk bs && n == 0 && s == 0) = false := by
      rw [Bool.eq_false_iff]
      intro h
      simp [textOk] at h
      omega
    rw [e]
    clear e h4
    by_cases g30 : len ≤ 30
    · by_cases gn : n = 0
      · have gs : (s != 0) = true := by simp; omega
        subst gn
        clear h30
        go_enter Tryz.func8, Tryz.ntmps8
        go_wp2
        go_ret
        exact ⟨rfl, _, rfl⟩
      · have gn' : (n != 0) = true := by simp; omega
        clear h30 gn
        go_enter Tryz.func8, Tryz.ntmps8
        go_wp2
        go_ret
        exact ⟨rfl, _, rfl⟩
    · clear h30
      go_enter Tryz.func8, Tryz.ntmps8
      go_wp2
      go_ret
      exact ⟨rfl, _, rfl⟩
end Go.Proofs.YtoclingolfdfeaaGreatDoor

/- TokC -/
namespace Go.Proofs.YtoclingolfdfeaaGreatDoor
open Go.RowKit Go.Deep

set_option maxRecDepth 10000 in
set_option maxHeartbeats 1000000 in
theorem specTermOk_name (n s : Int) (a : Option Addr) (len cap : Nat) (bs : List Int) (w : World) (hB : Bs w a len bs) :
    Calls Tryz.prog 8 #[.agg #[.int .i64 0, .slice a len cap, .int .i64 n, .int .i64 s]] w fun e w' => e = .returned (.bool (termOk 0 bs n s)) ∧ ∃ o1, w' = w.alloc o1 := by
  obtain ⟨hl, h2, h3, h4⟩ := hB
  have et : termOk 0 bs n s = (nameOk bs && n == 0 && s == 0) := by simp [termOk]
  rw [et]
  clear h3 et
  by_cases h12 : 1 ≤ len ∧ len ≤ 12 ∧ n = 0 ∧ s = 0
  · obtain ⟨h1, h12, rfl, rfl⟩ := h12
    have eb : (nameOk bs && (0 : Int) == 0 && (0 : Int) == 0) = nameOk bs := by simp
    rw [eb]
    clear eb
    obtain ⟨b, off, rfl, hlt, hc⟩ : ∃ b off, a = some ⟨b, off, none⟩ ∧ b < w.heap.size ∧ ∀ i, i < len → w.cell? ⟨b, off + i, none⟩ = some (.int .u8 (bs[i]?.getD 0)) := by
      rcases h4 with h4 | h4
      · omega
      · exact h4
    clear h4
    have HL : Hid (bs.length = len) := hl
    clear hl
    go_enter Tryz.func8, Tryz.ntmps8
    go_wp2
    go_loop [3] (fun i => ∃ k : Nat, k ≤ len ∧ i = .int .i64 k ∧ ∀ j : Nat, j < k → (letter (bs[j]?.getD 0) || digit (bs[j]?.getD 0)) = true ∧ (j = 0 → 57 < bs[j]?.getD 0))
      (fun i => len - (intOf i).toNat)
    case atStart => exact ⟨0, Nat.zero_le _, rfl, by intro j hj; omega⟩
    case round =>
      obtain ⟨k, hk, rfl, hH⟩ := hrel
      have HH : Hid (∀ j : Nat, j < k → (letter (bs[j]?.getD 0) || digit (bs[j]?.getD 0)) = true ∧ (j = 0 → 57 < bs[j]?.getD 0)) := hH
      have HC := hc
      clear hc hH
      by_cases hlt2 : k < len
      · have hcx := HC k hlt2
        clear HC
        generalize hg : bs[k]?.getD 0 = x at hcx
        have HG : Hid (bs[k]?.getD 0 = x) := hg
        clear hg
        have hkl : k < bs.length := by have := HL.out; omega
        by_cases hs : (letter x || digit x) = true
        · by_cases hk0 : k = 0
          · subst hk0
            simp only [Nat.add_zero] at hcx
            by_cases h57 : x ≤ 57
            · have hd : decide (x ≤ 57) = true := by simpa using h57
              go_wp2_with (go_at_call 33; refine (small_any _ _).mono ?_; rintro e w2 ⟨rfl, rfl⟩)
              go_ret
              refine ⟨?_, _, rfl⟩
              have el : letter (bs[0]?.getD 0) = false := by rw [HG.out]; simp [letter]; omega
              simp [nameOk, el]
            · have hd : decide (x ≤ 57) = false := by simpa using h57
              go_wp2_with (go_at_call 33; refine (small_any _ _).mono ?_; rintro e w2 ⟨rfl, rfl⟩)
              go_round
              case rel => exact ⟨1, by omega, by go_num, fun j hj => by
                obtain rfl : j = 0 := by omega
                rw [HG.out]; exact ⟨hs, fun _ => by omega⟩⟩
              case measure => simp [intOf]; omega
          · have hk0' : ((k : Int) == 0) = false := by simp; omega
            go_wp2_with (go_at_call 33; refine (small_any _ _).mono ?_; rintro e w2 ⟨rfl, rfl⟩)
            go_round
            case rel => exact ⟨k + 1, by omega, by go_num, fun j hj => by
              by_cases e : j = k
              · subst e; rw [HG.out]; exact ⟨hs, fun h => absurd h hk0⟩
              · exact HH.out j (by omega)⟩
            case measure => simp [intOf]; omega
        · have hs' : (letter x || digit x) = false := by simpa using hs
          clear hs
          go_wp2_with (go_at_call 33; refine (small_any _ _).mono ?_; rintro e w2 ⟨rfl, rfl⟩)
          go_ret
          refine ⟨?_, _, rfl⟩
          have e := all_not bs (fun b => letter b || digit b) k hkl (by show (letter _ || digit _) = false; rw [HG.out]; exact hs')
          simp [nameOk, e]
      · clear HC
        go_wp2
        go_ret
        refine ⟨?_, _, rfl⟩
        have hl := HL.out
        have e := all_of bs (fun b => letter b || digit b) (fun j hj => (HH.out j (by omega)).1)
        have hf : letter (bs[0]?.getD 0) = true := by
          have h := HH.out 0 (by omega)
          have h' := h.2 rfl
          have h'' := h.1
          simp [letter, digit] at h'' ⊢
          omega
        simp only [nameOk, e, hf, hl]
        simp; omega
  · have e : (nameOk bs && n == 0 && s == 0) = false := by
      rw [Bool.eq_false_iff]
      intro h
      simp [nameOk] at h
      omega
    rw [e]
    clear e h4
    by_cases g1 : 1 ≤ len
    · by_cases g12 : len ≤ 12
      · by_cases gn : n = 0
        · have gs : (s != 0) = true := by simp; omega
          subst gn
          clear h12
          go_enter Tryz.func8, Tryz.ntmps8
          go_wp2
          go_ret
          exact ⟨rfl, _, rfl⟩
        · have gn' : (n != 0) = true := by simp; omega
          clear h12 gn
          go_enter Tryz.func8, Tryz.ntmps8
          go_wp2
          go_ret
          exact ⟨rfl, _, rfl⟩
      · clear h12
        go_enter Tryz.func8, Tryz.ntmps8
        go_wp2
        go_ret
        exact ⟨rfl, _, rfl⟩
    · clear h12
      go_enter Tryz.func8, Tryz.ntmps8
      go_wp2
      go_ret
      exact ⟨rfl, _, rfl⟩
end Go.Proofs.YtoclingolfdfeaaGreatDoor

/- TokD -/
namespace Go.Proofs.YtoclingolfdfeaaGreatDoor
open Go.RowKit Go.Deep

/-- A term's number. -/
theorem decimal_any (k n s : Int) (a : Option Addr) (len cap : Nat) (w : World) :
    Calls Tryz.prog 31 #[.agg #[.int .i64 k, .slice a len cap, .int .i64 n, .int .i64 s]] w fun e w' => e = .returned (.agg #[.int .i64 n, .int .i64 s]) ∧ ∃ o1 o2, w' = (w.alloc o1).alloc o2 := by
  go_enter Tryz.func31, Tryz.ntmps31
  go_wp2
  simp [bodyPost, results, Tryz.results31, go_sem]
  exact ⟨_, _, rfl⟩

set_option maxRecDepth 10000 in
theorem implTermOk_any (k n s : Int) (a : Option Addr) (len cap : Nat) (bs : List Int) (w : World) (hB : Bs w a len bs) (h1 : -9223372036854775808 ≤ n) (h2 : n ≤ 9223372036854775807) (h3 : -9223372036854775808 ≤ s) (h4 : s ≤ 9223372036854775807) :
    Calls Tryz.prog 9 #[.agg #[.int .i64 k, .slice a len cap, .int .i64 n, .int .i64 s]] w fun e w' => e = .returned (.bool (termOk k bs n s)) ∧ Below w.heap.size w w' := by
  have hB1 : ∀ o1, Bs (w.alloc o1) a len bs := fun o1 => hB.below (bl_alloc (Below.refl _ _) _)
  have HL : Hid (bs.length = len) := hB.1
  have hlm := hB.2.1
  clear hB
  by_cases k0 : k = 0
  · subst k0
    generalize hg : termOk 0 bs n s = r
    have HG : Hid (termOk 0 bs n s = r) := hg
    clear hg
    go_enter Tryz.func9, Tryz.ntmps9
    go_wp2_with (go_at_call 34; refine (isName_any a len cap bs _ (hB1 _)).mono ?_; rintro e w1 ⟨rfl, rfl⟩)
    all_goals go_ret
    all_goals (refine ⟨congrArg (fun b => Ending.returned (Value.bool b)) ?_, bl_alloc (Below.refl _ _) _⟩; rw [← HG.out]; clear HG; go_light; simp_all [termOk])
  by_cases k1 : k = 1
  · subst k1
    generalize hg : termOk 1 bs n s = r
    have HG : Hid (termOk 1 bs n s = r) := hg
    clear hg
    go_enter Tryz.func9, Tryz.ntmps9
    go_wp2_with (go_at_call 35; refine (within_any _ _ _ _).mono ?_; rintro e w1 ⟨rfl, rfl⟩)
    all_goals go_ret
    all_goals (refine ⟨congrArg (fun b => Ending.returned (Value.bool b)) ?_, bl_alloc (Below.refl _ _) _⟩; have hg := HG.out; have hl := HL.out; rw [← hg, Bool.eq_iff_iff]; go_light; simp [termOk, -List.length_eq_zero_iff]; try omega)
  by_cases k2 : k = 2
  · subst k2
    generalize hg : termOk 2 bs n s = r
    have HG : Hid (termOk 2 bs n s = r) := hg
    clear hg
    go_enter Tryz.func9, Tryz.ntmps9
    go_wp2_with (go_at_call 36; refine (isText_any a len cap bs _ (hB1 _)).mono ?_; rintro e w1 ⟨rfl, rfl⟩)
    all_goals go_ret
    all_goals (refine ⟨congrArg (fun b => Ending.returned (Value.bool b)) ?_, bl_alloc (Below.refl _ _) _⟩; rw [← HG.out]; clear HG; go_light; simp_all [termOk])
  by_cases k3 : k = 3
  · subst k3
    generalize hg : termOk 3 bs n s = r
    have HG : Hid (termOk 3 bs n s = r) := hg
    clear hg
    by_cases hl0 : len = 0
    · subst hl0
      go_enter Tryz.func9, Tryz.ntmps9
      go_wp2_with (first | (go_at_call 31; refine (decimal_any _ _ _ _ _ _ _).mono ?_; rintro e w1 ⟨rfl, o1, o2, rfl⟩) | (go_at_call 37; refine (decOk_any _ _ _ h1 h2 h3 h4).mono ?_; rintro e w2 ⟨rfl, o3, rfl⟩))
      go_ret
      refine ⟨congrArg (fun b => Ending.returned (Value.bool b)) ?_, ?_⟩
      · have hg := HG.out
        have hl := HL.out
        rw [← hg]
        simp [termOk, hl]
      · repeat (first | with_reducible exact Below.refl _ _ | with_reducible apply bl_alloc | with_reducible apply Below.drew)
    · have hl0' : ((len : Int) == 0) = false := by simp; omega
      go_enter Tryz.func9, Tryz.ntmps9
      go_wp2
      go_ret
      refine ⟨congrArg (fun b => Ending.returned (Value.bool b)) ?_, ?_⟩
      · have hg := HG.out
        have hl := HL.out
        have hz : (bs.length == 0) = false := by simp only [beq_eq_false_iff_ne, ne_eq]; omega
        rw [← hg]
        simp [termOk, hz, -List.length_eq_zero_iff, -beq_eq_false_iff_ne]
      · repeat (first | with_reducible exact Below.refl _ _ | with_reducible apply bl_alloc | with_reducible apply Below.drew)
  · have e : termOk k bs n s = false := by simp [termOk, k0, k1, k2, k3]
    rw [e]
    have g0 : (k == 0) = false := by simp; omega
    have g1 : (k == 1) = false := by simp; omega
    have g2 : (k == 2) = false := by simp; omega
    have g3 : (k == 3) = false := by simp; omega
    clear k0 k1 k2 k3 e
    go_enter Tryz.func9, Tryz.ntmps9
    go_wp2
    go_ret
    exact ⟨rfl, bl_alloc (Below.refl _ _) _⟩
end Go.Proofs.YtoclingolfdfeaaGreatDoor

/- TokE -/
namespace Go.Proofs.YtoclingolfdfeaaGreatDoor
open Go.RowKit Go.Deep

theorem specTermOk_any (k n s : Int) (a : Option Addr) (len cap : Nat) (bs : List Int) (w : World) (hB : Bs w a len bs) (h1 : -9223372036854775808 ≤ n) (h2 : n ≤ 9223372036854775807) :
    Calls Tryz.prog 8 #[.agg #[.int .i64 k, .slice a len cap, .int .i64 n, .int .i64 s]] w fun e w' => e = .returned (.bool (termOk k bs n s)) ∧ ∃ o1, w' = w.alloc o1 := by
  by_cases k0 : k = 0
  · subst k0; exact specTermOk_name n s a len cap bs w hB
  by_cases k1 : k = 1
  · subst k1; exact specTermOk_blank n s a len cap bs w hB
  by_cases k2 : k = 2
  · subst k2; exact specTermOk_text n s a len cap bs w hB
  by_cases k3 : k = 3
  · subst k3; exact specTermOk_number n s a len cap bs w hB h1 h2
  · exact specTermOk_other k n s a len cap bs w k0 k1 k2 k3

/-- A struct of four fields at the head of block b. -/
def At4 (w : World) (b : Nat) (v0 v1 v2 v3 : Value) : Prop :=
  b < w.heap.size ∧ w.cell? ⟨b, 0, none⟩ = some v0 ∧ w.cell? ⟨b, 1, none⟩ = some v1 ∧ w.cell? ⟨b, 2, none⟩ = some v2 ∧ w.cell? ⟨b, 3, none⟩ = some v3
theorem At4.below {w w' : World} {b : Nat} {v0 v1 v2 v3 : Value} (h : At4 w b v0 v1 v2 v3) (hb : Below w.heap.size w w') : At4 w' b v0 v1 v2 v3 := by
  obtain ⟨hl, h0, h1, h2, h3⟩ := h
  refine ⟨Nat.lt_of_lt_of_le hl hb.size, ?_, ?_, ?_, ?_⟩
  · exact (hb.cell (p := ⟨b, 0, none⟩) hl).trans h0
  · exact (hb.cell (p := ⟨b, 1, none⟩) hl).trans h1
  · exact (hb.cell (p := ⟨b, 2, none⟩) hl).trans h2
  · exact (hb.cell (p := ⟨b, 3, none⟩) hl).trans h3
theorem At4.new (w : World) (v0 v1 v2 v3 : Value) (t : TypeId) : At4 (w.alloc (.cells #[v0, v1, v2, v3] t)) w.heap.size v0 v1 v2 v3 := by
  refine ⟨by simp, ?_, ?_, ?_, ?_⟩ <;> simp [go_sem]
theorem bl_a {w : World} (o : Obj) : Below w.heap.size w (w.alloc o) := bl_alloc (Below.refl _ _) o

end Go.Proofs.YtoclingolfdfeaaGreatDoor
