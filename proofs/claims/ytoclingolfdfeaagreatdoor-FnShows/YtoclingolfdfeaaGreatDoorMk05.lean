/- Texts put together: DrwA CalC CalD DrwB DrwC -/
import Derived.Test.YtoclingolfdfeaaGreatDoorMk01
import Derived.Test.YtoclingolfdfeaaGreatDoorMk02
import Derived.Deep.RegionHeld3
/- DrwA -/
namespace Go.Proofs.YtoclingolfdfeaaGreatDoor
open Go.RowKit Go.Deep

/-- A row of bytes that came in, of whatever length. -/
def Code (w : World) (a : Option Addr) (len : Nat) : Prop :=
  len = 0 ∨ ∃ b off, a = some ⟨b, off, none⟩ ∧ b < w.heap.size ∧ ∀ i, i < len → ∃ v, w.cell? ⟨b, off + i, none⟩ = some (.int .u8 v) ∧ 0 ≤ v ∧ v ≤ 255

/-- The cursor c lies in block g; the code is not in it. -/
structure Cur (w : World) (g : Nat) (a : Option Addr) (len cap : Nat) : Prop where
  lt : g < w.heap.size
  c0 : w.cell? ⟨g, 0, none⟩ = some (.slice a len cap)
  c1 : ∃ i : Nat, i ≤ len ∧ w.cell? ⟨g, 1, none⟩ = some (.int .i64 i)
  c2 : ∃ h : Int, w.cell? ⟨g, 2, none⟩ = some (.int .i64 h)
  f1 : w.frozen? ⟨g, 1, none⟩ = false
  f2 : w.frozen? ⟨g, 2, none⟩ = false
  code : len = 0 ∨ ∃ b off, a = some ⟨b, off, none⟩ ∧ b < w.heap.size ∧ b ≠ g ∧ ∀ i, i < len → ∃ v, w.cell? ⟨b, off + i, none⟩ = some (.int .u8 v) ∧ 0 ≤ v ∧ v ≤ 255

/-- All blocks that there were but g are as they were. -/
structure Past (g : Nat) (w w' : World) : Prop where
  os : w'.os = w.os
  tape : w'.tape = w.tape
  output : w'.output = w.output
  size : w.heap.size ≤ w'.heap.size
  block : ∀ b, b < w.heap.size → b ≠ g → w'.heap[b]? = w.heap[b]?
theorem Past.refl (g : Nat) (w : World) : Past g w w := ⟨rfl, rfl, rfl, Nat.le_refl _, fun _ _ _ => rfl⟩
theorem Past.trans {g : Nat} {w w' w'' : World} (h : Past g w w') (k : Past g w' w'') : Past g w w'' :=
  ⟨k.os.trans h.os, k.tape.trans h.tape, k.output.trans h.output, Nat.le_trans h.size k.size, fun b hb hn => (k.block b (Nat.lt_of_lt_of_le hb h.size) hn).trans (h.block b hb hn)⟩
theorem Past.of_below {g : Nat} {w w' : World} (h : Below w.heap.size w w') : Past g w w' := ⟨h.os, h.tape, h.output, h.size, fun b hb _ => h.block b hb⟩
theorem Past.set {g : Nat} {w w' : World} (h : Past g w w') (i : Nat) (v : Value) : Past g w (w'.setCell ⟨g, i, none⟩ v) :=
  ⟨h.os, h.tape, h.output, by simpa using h.size, fun b hb hn => (Below.heap_setCell _ _ _ _ hn).trans (h.block b hb hn)⟩
theorem Past.below {g B : Nat} {w w' : World} (h : Past g w w') (hB : B ≤ g) (hw : B ≤ w.heap.size) : Below B w w' :=
  ⟨h.os, h.tape, h.output, h.size, fun b hb => h.block b (by omega) (by omega)⟩
theorem Past.cell {g : Nat} {w w' : World} (h : Past g w w') {p : Addr} (hp : p.block < w.heap.size) (hn : p.block ≠ g) : w'.cell? p = w.cell? p := World.cell?_of_block (w := w) (h.block p.block hp hn)
theorem Past.frozen {g : Nat} {w w' : World} (h : Past g w w') {p : Addr} (hp : p.block < w.heap.size) (hn : p.block ≠ g) : w'.frozen? p = w.frozen? p := World.frozen?_of_block (w := w) (h.block p.block hp hn)
theorem Cur.below {w w' : World} {g : Nat} {a : Option Addr} {len cap : Nat} (h : Cur w g a len cap) (hb : Below w.heap.size w w') : Cur w' g a len cap := by
  have e : ∀ i, w'.cell? ⟨g, i, none⟩ = w.cell? ⟨g, i, none⟩ := fun i => hb.cell (p := ⟨g, i, none⟩) h.lt
  have f : ∀ i, w'.frozen? ⟨g, i, none⟩ = w.frozen? ⟨g, i, none⟩ := fun i => hb.frozen (p := ⟨g, i, none⟩) h.lt
  refine ⟨Nat.lt_of_lt_of_le h.lt hb.size, (e 0).trans h.c0, ?_, ?_, (f 1).trans h.f1, (f 2).trans h.f2, ?_⟩
  · rw [e 1]; exact h.c1
  · rw [e 2]; exact h.c2
  · rcases h.code with hc | ⟨b, off, ha, hlt, hn, hc⟩
    · exact .inl hc
    · refine .inr ⟨b, off, ha, Nat.lt_of_lt_of_le hlt hb.size, hn, fun i hi => ?_⟩
      rw [hb.cell (p := ⟨b, off + i, none⟩) hlt]
      exact hc i hi

theorem Cur.set2 {w : World} {g : Nat} {a : Option Addr} {len cap : Nat} (h : Cur w g a len cap) (v : Int) : Cur (w.setCell ⟨g, 2, none⟩ (.int .i64 v)) g a len cap := by
  obtain ⟨lt, c0, ⟨i, hi, c1⟩, ⟨h, c2⟩, f1, f2, hcode⟩ := h
  refine ⟨by simpa using lt, ?_, ⟨i, hi, ?_⟩, ⟨v, ?_⟩, ?_, ?_, ?_⟩
  · simp [go_sem, c0]
  · simp [go_sem, c1]
  · simp [go_sem, c2]
  · simp [f1]
  · simp [f2]
  · rcases hcode with hc | ⟨b, off, ha, hlt, hn, hc⟩
    · exact .inl hc
    · refine .inr ⟨b, off, ha, by simpa using hlt, hn, fun j hj => ?_⟩
      rw [World.cell?_of_block (Below.heap_setCell _ _ _ _ (by exact hn))]
      exact hc j hj
theorem Cur.set1 {w : World} {g : Nat} {a : Option Addr} {len cap : Nat} (h : Cur w g a len cap) (i : Nat) (v : Int) (hv : v = i) (hi : i ≤ len) : Cur (w.setCell ⟨g, 1, none⟩ (.int .i64 v)) g a len cap := by
  subst hv
  obtain ⟨lt, c0, ⟨i', hi', c1⟩, ⟨h, c2⟩, f1, f2, hcode⟩ := h
  refine ⟨by simpa using lt, ?_, ⟨i, hi, ?_⟩, ⟨h, ?_⟩, ?_, ?_, ?_⟩
  · simp [go_sem, c0]
  · simp [go_sem, c1]
  · simp [go_sem, c2]
  · simp [f1]
  · simp [f2]
  · rcases hcode with hc | ⟨b, off, ha, hlt, hn, hc⟩
    · exact .inl hc
    · refine .inr ⟨b, off, ha, by simpa using hlt, hn, fun j hj => ?_⟩
      rw [World.cell?_of_block (Below.heap_setCell _ _ _ _ (by exact hn))]
      exact hc j hj
theorem Past.drewN {g : Nat} {w w' : World} (h : Past g w w') (q : Nat) : Past g w (w'.drewN q) := h.trans (Past.of_below (below_drewN (Below.refl _ _) q))
theorem Cur.drewN {w : World} {g : Nat} {a : Option Addr} {len cap : Nat} (h : Cur w g a len cap) (q : Nat) : Cur (w.drewN q) g a len cap := h.below (below_drewN (Below.refl _ _) q)
theorem and255 (x : Int) : 0 ≤ bits BinOp.and IntKind.i64 x 255 ∧ bits BinOp.and IntKind.i64 x 255 ≤ 255 := by
  have h : ∃ n : Nat, n ≤ 255 ∧ bits BinOp.and IntKind.i64 x 255 = IntKind.i64.wrap n := by
    refine ⟨(BitVec.ofInt 64 x &&& BitVec.ofInt 64 255).toNat, ?_, rfl⟩
    rw [BitVec.toNat_and]
    exact Nat.le_trans Nat.and_le_right (by decide)
  obtain ⟨n, hn, e⟩ := h
  rw [e, IntKind.wrap_i64]
  omega

set_option maxHeartbeats 1000000 in
theorem l1Byte_any (g : Nat) (a : Option Addr) (len cap : Nat) (w : World) (hlen : len ≤ 9223372036854775807) (hC : Cur w g a len cap) :
    Calls Tryz.prog 61 #[.pointer (some ⟨g, 0, none⟩)] w fun e w' => ∃ x : Int, e = .returned (.int .i64 x) ∧ 0 ≤ x ∧ x ≤ 255 ∧ Past g w w' ∧ Cur w' g a len cap := by
  have HC : Hid (Cur w g a len cap) := hC
  obtain ⟨hlt, c0, ⟨i, hi, c1⟩, ⟨h, c2⟩, f1, f2, hcode⟩ := hC
  by_cases hil : i < len
  · obtain ⟨b, off, rfl, hbl, hbn, hcd⟩ := hcode.resolve_left (by omega)
    obtain ⟨v, cv, v0, v1⟩ := hcd i hil
    clear hcd hcode
    go_enter Tryz.func61, Tryz.ntmps61
    go_wp2_with fail
    go_quiet (fail)
    go_wp2_with fail
    go_quiet (fail)
    go_wp2_with fail
    go_quiet (fail)
    go_wp2
    go_ret
    exact ⟨_, rfl, (and255 _).1, (and255 _).2, (((Past.refl _ _).set _ _).drewN _).set _ _, ((HC.out.set2 _).drewN _).set1 (i + 1) _ (by omega) (by omega)⟩
  · clear hcode
    go_enter Tryz.func61, Tryz.ntmps61
    go_wp2_with fail
    go_quiet (fail)
    go_wp2_with fail
    go_quiet (fail)
    go_wp2
    go_ret
    exact ⟨_, rfl, (and255 _).1, (and255 _).2, ((((Past.refl _ _).set _ _).drewN _).drewN _), (((HC.out.set2 _).drewN _).drewN _)⟩

/-- What a draw below n answers. -/
def Drawn (g : Nat) (a : Option Addr) (len cap : Nat) (w : World) (n : Nat) (e : Ending) (w' : World) : Prop := ∃ x : Nat, e = .returned (.int .i64 x) ∧ x < n ∧ Past g w w' ∧ Cur w' g a len cap
theorem l1Below_any (g : Nat) (a : Option Addr) (len cap n : Nat) (w : World) (hlen : len ≤ 9223372036854775807) (hC : Cur w g a len cap) (h1 : 1 ≤ n) (h2 : n ≤ 256) :
    Calls Tryz.prog 59 #[.pointer (some ⟨g, 0, none⟩), .int .i64 n] w fun e w' => Drawn g a len cap w n e w' := by
  have B := fun w h => l1Byte_any g a len cap w hlen h
  have HC : Hid (Cur w g a len cap) := hC
  clear hC
  go_enter Tryz.func59, Tryz.ntmps59
  go_wp2_with fail
  refine (B _ HC.out).mono ?_
  rintro e w1 ⟨x, rfl, x0, x1, hP, hC1⟩
  clear B HC
  have HP : Hid (Past g w w1) := hP
  have HC1 : Hid (Cur w1 g a len cap) := hC1
  clear hP hC1
  go_wp2
  go_ret
  obtain ⟨y, rfl⟩ : ∃ y : Nat, x = y := ⟨x.toNat, by omega⟩
  refine ⟨y % n, ?_, Nat.mod_lt _ (by omega), HP.out, HC1.out⟩
  show Ending.returned (.int .i64 ((y : Int) % (n : Int))) = _
  rw [Int.natCast_emod]
theorem l1Once_any (g : Nat) (a : Option Addr) (len cap n : Nat) (w : World) (hlen : len ≤ 9223372036854775807) (hC : Cur w g a len cap) (h1 : 1 ≤ n) (h2 : n ≤ 256) :
    Calls Tryz.prog 58 #[.pointer (some ⟨g, 0, none⟩), .int .i64 n] w fun e w' => ∃ p : Bool, e = .returned (.bool p) ∧ Past g w w' ∧ Cur w' g a len cap := by
  have B := fun w h => l1Below_any g a len cap n w hlen h h1 h2
  have HC : Hid (Cur w g a len cap) := hC
  clear hC
  go_enter Tryz.func58, Tryz.ntmps58
  go_wp2_with fail
  refine (B _ HC.out).mono ?_
  rintro e w1 ⟨x, rfl, x1, hP, hC1⟩
  clear B HC
  have HP : Hid (Past g w w1) := hP
  have HC1 : Hid (Cur w1 g a len cap) := hC1
  clear hP hC1
  go_wp2
  go_ret
  exact ⟨_, rfl, HP.out, HC1.out⟩
/-- One of a list of numbers that lies in a block of its own. -/
theorem l1PickInt_any (g lb : Nat) (a : Option Addr) (len cap n : Nat) (L : Nat → Int) (w : World) (hlen : len ≤ 9223372036854775807) (hC : Cur w g a len cap) (h1 : 1 ≤ n) (h2 : n ≤ 256) (hlb : lb < w.heap.size) (hne : lb ≠ g)
    (hL : ∀ i, i < n → w.cell? ⟨lb, i, none⟩ = some (.int .i64 (L i))) :
    Calls Tryz.prog 60 #[.pointer (some ⟨g, 0, none⟩), .slice (some ⟨lb, 0, none⟩) n n] w fun e w' => ∃ j : Nat, j < n ∧ e = .returned (.int .i64 (L j)) ∧ Past g w w' ∧ Cur w' g a len cap := by
  have B := fun w h => l1Below_any g a len cap n w hlen h h1 h2
  have HC : Hid (Cur w g a len cap) := hC
  have HL : Hid (∀ i, i < n → w.cell? ⟨lb, i, none⟩ = some (.int .i64 (L i))) := hL
  clear hC hL
  go_enter Tryz.func60, Tryz.ntmps60
  go_wp2_with fail
  refine (B _ HC.out).mono ?_
  rintro e w1 ⟨x, rfl, x1, hP, hC1⟩
  have hx : w1.cell? ⟨lb, x, none⟩ = some (.int .i64 (L x)) := (hP.cell (p := ⟨lb, x, none⟩) hlb hne).trans (HL.out x x1)
  clear B HC HL
  have HP : Hid (Past g w w1) := hP
  have HC1 : Hid (Cur w1 g a len cap) := hC1
  clear hP hC1
  go_wp2
  go_ret
  exact ⟨x, x1, rfl, HP.out, HC1.out⟩
end Go.Proofs.YtoclingolfdfeaaGreatDoor

/- CalC -/
namespace Go.Proofs.YtoclingolfdfeaaGreatDoor
open Go.RowKit Go.Deep

/-- Six digits more, one after the other; nothing where what is there is too great ahead of one. -/
def digits : Nat → Int → Int → Int → Option Int
  | 0, n, _, _ => some n
  | k + 1, n, r, y => if 1000000000000000 < n ∨ 461168601842738790 < r then none else digits k (n * 10 + r * 10 / y) (r * 10 % y) y
end Go.Proofs.YtoclingolfdfeaaGreatDoor

/- CalD -/
namespace Go.Proofs.YtoclingolfdfeaaGreatDoor
open Go.RowKit Go.Deep

/-- A struct of two fields, of the call's own, at the head of block b. -/
def Own2 (w : World) (b : Nat) (v0 v1 : Value) : Prop :=
  b < w.heap.size ∧ w.cell? ⟨b, 0, none⟩ = some v0 ∧ w.cell? ⟨b, 1, none⟩ = some v1 ∧ w.frozen? ⟨b, 0, none⟩ = false ∧ w.frozen? ⟨b, 1, none⟩ = false
theorem Own2.below {w w' : World} {b : Nat} {v0 v1 : Value} (h : Own2 w b v0 v1) (hb : Below w.heap.size w w') : Own2 w' b v0 v1 := by
  obtain ⟨hl, h0, h1, f0, f1⟩ := h
  exact ⟨Nat.lt_of_lt_of_le hl hb.size, (hb.cell (p := ⟨b, 0, none⟩) hl).trans h0, (hb.cell (p := ⟨b, 1, none⟩) hl).trans h1, (hb.frozen (p := ⟨b, 0, none⟩) hl).trans f0, (hb.frozen (p := ⟨b, 1, none⟩) hl).trans f1⟩
theorem Own2.at (w : World) (b : Nat) (v0 v1 : Value) (t : TypeId) (e : b = w.heap.size) : Own2 (w.alloc (.cells #[v0, v1] t)) b v0 v1 := by
  subst e
  refine ⟨by simp, ?_, ?_, ?_, ?_⟩ <;> simp [go_sem]
/-- .. of four. -/
def Own4 (w : World) (b : Nat) (v0 v1 v2 v3 : Value) : Prop :=
  At4 w b v0 v1 v2 v3 ∧ w.frozen? ⟨b, 0, none⟩ = false ∧ w.frozen? ⟨b, 1, none⟩ = false ∧ w.frozen? ⟨b, 2, none⟩ = false ∧ w.frozen? ⟨b, 3, none⟩ = false
theorem Own4.below {w w' : World} {b : Nat} {v0 v1 v2 v3 : Value} (h : Own4 w b v0 v1 v2 v3) (hb : Below w.heap.size w w') : Own4 w' b v0 v1 v2 v3 := by
  obtain ⟨h4, f0, f1, f2, f3⟩ := h
  have hl := h4.1
  exact ⟨h4.below hb, (hb.frozen (p := ⟨b, 0, none⟩) hl).trans f0, (hb.frozen (p := ⟨b, 1, none⟩) hl).trans f1, (hb.frozen (p := ⟨b, 2, none⟩) hl).trans f2, (hb.frozen (p := ⟨b, 3, none⟩) hl).trans f3⟩
theorem Own4.at (w : World) (b : Nat) (v0 v1 v2 v3 : Value) (t : TypeId) (e : b = w.heap.size) : Own4 (w.alloc (.cells #[v0, v1, v2, v3] t)) b v0 v1 v2 v3 := by
  subst e
  refine ⟨At4.new w v0 v1 v2 v3 t, ?_, ?_, ?_, ?_⟩ <;> simp [go_sem]

end Go.Proofs.YtoclingolfdfeaaGreatDoor

/- DrwB -/
namespace Go.Proofs.YtoclingolfdfeaaGreatDoor
open Go.RowKit Go.Deep

/-- What a new cursor is. -/
def CurRes (w : World) (a : Option Addr) (len cap : Nat) (e : Ending) (w' : World) : Prop := e = .returned (.pointer (some ⟨w.heap.size, 0, none⟩)) ∧ Below w.heap.size w w' ∧ Cur w' w.heap.size a len cap
set_option maxRecDepth 20000 in
theorem l1New_any (a : Option Addr) (len cap : Nat) (w : World) (_hlen : len ≤ 9223372036854775807) (hC : Code w a len) :
    Calls Tryz.prog 28 #[.slice a len cap] w fun e w' => CurRes w a len cap e w' := by
  have HC : Hid (Code w a len) := hC
  have HE : Hid (∀ h : Int, ∀ T, Cur (w.alloc (.cells #[.slice a len cap, .int .i64 0, .int .i64 h] T)) w.heap.size a len cap) := by
    intro h T
    refine ⟨by simp, by simp [go_sem], ⟨0, Nat.zero_le _, by simp [go_sem]⟩, ⟨h, by simp [go_sem]⟩, by simp [go_sem], by simp [go_sem], ?_⟩
    rcases hC with hc | ⟨b, off, ha, hlt, hc⟩
    · exact .inl hc
    · refine .inr ⟨b, off, ha, by simp; omega, by omega, fun i hi => ?_⟩
      rw [(bl_a (w := w) _).cell (p := ⟨b, off + i, none⟩) hlt]
      exact hc i hi
  clear hC
  go_enter Tryz.func28, Tryz.ntmps28
  go_wp2
  go_loopw [3, 4] (fun x i wr => ∃ (k : Nat) (h : Int), k ≤ len ∧ k ≤ 4000 ∧ i = .int .i64 k ∧ x = .int .i64 h ∧ wr = w)
    (fun _ i _ => 4000 - (intOf i).toNat)
  case atStart => exact ⟨0, _, Nat.zero_le _, Nat.zero_le _, rfl, rfl, rfl⟩
  case round =>
    obtain ⟨k, h, hk, hk4, rfl, rfl, rfl⟩ := hrel
    by_cases hlk : k < len
    · by_cases hl4 : k < 4000
      · obtain ⟨b, off, rfl, hlt, hc⟩ := HC.out.resolve_left (by omega)
        obtain ⟨v, cv, v0, v1⟩ := hc k hlk
        clear hc
        go_wp2
        go_roundw
        case rel => exact ⟨k + 1, ⟨_, by omega, by omega, by go_num, rfl, trivial⟩⟩
        case measure => simp [intOf]; omega
      · have h4 : decide ((k : Int) < 4000) = false := by simp; omega
        go_wp2
        go_ret
        exact ⟨rfl, bl_a _, HE.out _ _⟩
    · go_wp2
      go_ret
      exact ⟨rfl, bl_a _, HE.out _ _⟩


theorem Tx.past {w w' : World} {B c : Nat} {a : Option Addr} {len cap : Nat} {bs : List Int} (h : Tx w B a len cap bs) (hb : Past c w w') (hc : c < B) : Tx w' B a len cap bs := by
  rcases h.2 with h2 | ⟨g, rfl, hB, hg, hl, hcs⟩
  · obtain ⟨rfl, rfl, rfl⟩ := h2
    obtain ⟨l1, l2, l3, _⟩ := h.1
    exact ⟨⟨l1, l2, l3, .inl rfl⟩, .inl ⟨rfl, rfl, rfl⟩⟩
  · have ec : ∀ j, w'.cell? ⟨g, j, none⟩ = w.cell? ⟨g, j, none⟩ := fun j => hb.cell (p := ⟨g, j, none⟩) hg (by show g ≠ c; omega)
    have ef : ∀ j, w'.frozen? ⟨g, j, none⟩ = w.frozen? ⟨g, j, none⟩ := fun j => hb.frozen (p := ⟨g, j, none⟩) hg (by show g ≠ c; omega)
    obtain ⟨l1, l2, l3, l4⟩ := h.1
    refine ⟨⟨l1, l2, l3, ?_⟩, .inr ⟨g, rfl, hB, Nat.lt_of_lt_of_le hg hb.size, hl, fun j hj => ?_⟩⟩
    · rcases l4 with l4 | ⟨b, off, ha, hlt, hcc⟩
      · exact .inl l4
      · cases ha
        exact .inr ⟨g, 0, rfl, Nat.lt_of_lt_of_le hg hb.size, fun i hi => (ec (0 + i)).trans (hcc i hi)⟩
    · rw [ec j, ef j]
      exact hcs j hj
/-- What a draw of a term answers. -/
def TermRes (B : Nat) (e : Ending) (w' : World) : Prop := ∃ (k n s : Int) (a : Option Addr) (len cap : Nat) (bs : List Int), e = .returned (.agg #[.int .i64 k, .slice a len cap, .int .i64 n, .int .i64 s]) ∧ (-9223372036854775808 ≤ n ∧ n ≤ 9223372036854775807) ∧ (0 ≤ s ∧ s ≤ 6) ∧ len ≤ 100 ∧ Tx w' B a len cap bs

theorem l1name_any (s : ByteArray) (w : World) (hs : s.size ≤ 100) :
    Calls Tryz.prog 85 #[.string s] w fun e w' => TermRes w.heap.size e w' ∧ Below w.heap.size w w' := by
  have hcv := fun w => Lib.run_convert_string_bytes (P := Tryz.prog) w 9 22 5 s Tryz.underlying9 Tryz.underlying22 Tryz.underlying5
  have hW : ∀ T, Own4 (w.alloc (.cells #[.int .i64 0, .slice none 0 0, .int .i64 0, .int .i64 0] T)) w.heap.size (.int .i64 0) (.slice none 0 0) (.int .i64 0) (.int .i64 0) := fun T => Own4.at w _ _ _ _ _ T rfl
  have hb1 := bytesWorld_below (w.alloc (.cells #[.int .i64 0, .slice none 0 0, .int .i64 0, .int .i64 0] 24)) 5 s
  have hT := Tx.conv (w.alloc (.cells #[.int .i64 0, .slice none 0 0, .int .i64 0, .int .i64 0] 24)) s 5 (by omega)
  have hO := (hW 24).below hb1
  clear hW
  obtain ⟨⟨o0, o1, o2, o3, o4⟩, f0, f1, f2, f3⟩ := id hO
  have HT : Hid (Tx (Lib.bytesWorld (w.alloc (.cells #[.int .i64 0, .slice none 0 0, .int .i64 0, .int .i64 0] 24)) 5 s) (w.alloc (.cells #[.int .i64 0, .slice none 0 0, .int .i64 0, .int .i64 0] 24)).heap.size (some ⟨(w.alloc (.cells #[.int .i64 0, .slice none 0 0, .int .i64 0, .int .i64 0] 24)).heap.size, 0, none⟩) s.size (grownCap (w.alloc (.cells #[.int .i64 0, .slice none 0 0, .int .i64 0, .int .i64 0] 24)) s.size 0 5) (numsOf s)) := hT
  have HB : Hid (Below w.heap.size w (Lib.bytesWorld (w.alloc (.cells #[.int .i64 0, .slice none 0 0, .int .i64 0, .int .i64 0] 24)) 5 s)) := bl_trans (bl_a _) hb1
  clear hT hb1 hO
  go_enter Tryz.func85, Tryz.ntmps85
  go_wp2
  refine bodyPost_ret (v := .agg #[.int .i64 0, .slice (some ⟨w.heap.size + 1, 0, none⟩) s.size (grownCap (w.alloc (.cells #[.int .i64 0, .slice none 0 0, .int .i64 0, .int .i64 0] 24)) s.size 0 5), .int .i64 0, .int .i64 0]) (by simp [results, Tryz.results85, go_sem, *]) rfl ⟨⟨0, 0, 0, _, _, _, numsOf s, rfl, by omega, by omega, hs, ?_⟩, ?_⟩
  · have hP := Past.set (Past.set (Past.set (Past.set (Past.refl w.heap.size (Lib.bytesWorld (w.alloc (.cells #[.int .i64 0, .slice none 0 0, .int .i64 0, .int .i64 0] 24)) 5 s)) 0 (.int .i64 0)) 1 (.slice (some ⟨w.heap.size + 1, 0, none⟩) s.size (grownCap (w.alloc (.cells #[.int .i64 0, .slice none 0 0, .int .i64 0, .int .i64 0] 24)) s.size 0 5))) 2 (.int .i64 0)) 3 (.int .i64 0)
    have := (HT.out.past hP (by simp)).mono (B' := w.heap.size) (by simp)
    simpa using this
  · exact bl_set (bl_set (bl_set (bl_set HB.out (Nat.le_refl _) _) (Nat.le_refl _) _) (Nat.le_refl _) _) (Nat.le_refl _) _
theorem l1int_d (n : Int) (w : World) (h : -9223372036854775808 ≤ n ∧ n ≤ 9223372036854775807) :
    Calls Tryz.prog 87 #[.int .i64 n] w fun e w' => TermRes w.heap.size e w' ∧ Below w.heap.size w w' := by
  go_enter Tryz.func87, Tryz.ntmps87
  go_wp2
  refine bodyPost_ret (v := .agg #[.int .i64 3, .slice none 0 0, .int .i64 n, .int .i64 0]) (by simp [results, Tryz.results87, go_sem]) rfl ⟨⟨3, n, 0, none, 0, 0, [], rfl, h, by omega, by omega, Tx.nil _ _⟩, bl_a _⟩
theorem Own4.past {w w' : World} {g b : Nat} {v0 v1 v2 v3 : Value} (h : Own4 w b v0 v1 v2 v3) (hb : Past g w w') (hn : b ≠ g) : Own4 w' b v0 v1 v2 v3 := by
  obtain ⟨⟨hl, h0, h1, h2, h3⟩, f0, f1, f2, f3⟩ := h
  exact ⟨⟨Nat.lt_of_lt_of_le hl hb.size, (hb.cell (p := ⟨b, 0, none⟩) hl hn).trans h0, (hb.cell (p := ⟨b, 1, none⟩) hl hn).trans h1, (hb.cell (p := ⟨b, 2, none⟩) hl hn).trans h2, (hb.cell (p := ⟨b, 3, none⟩) hl hn).trans h3⟩,
    (hb.frozen (p := ⟨b, 0, none⟩) hl hn).trans f0, (hb.frozen (p := ⟨b, 1, none⟩) hl hn).trans f1, (hb.frozen (p := ⟨b, 2, none⟩) hl hn).trans f2, (hb.frozen (p := ⟨b, 3, none⟩) hl hn).trans f3⟩
end Go.Proofs.YtoclingolfdfeaaGreatDoor

/- DrwC -/
namespace Go.Proofs.YtoclingolfdfeaaGreatDoor
open Go.RowKit Go.Deep

/-- What a draw of a term answers, the cursor in block g. -/
def TermDrawn (g : Nat) (a : Option Addr) (len cap : Nat) (w : World) (e : Ending) (w' : World) : Prop := TermRes w.heap.size e w' ∧ Past g w w' ∧ Cur w' g a len cap

theorem Past.set_new {g : Nat} {w w' : World} (h : Past g w w') {p : Addr} (hp : w.heap.size ≤ p.block) (v : Value) : Past g w (w'.setCell p v) :=
  ⟨h.os, h.tape, h.output, by simpa using h.size, fun b hb hn => (Below.heap_setCell _ _ _ _ (by omega)).trans (h.block b hb hn)⟩
theorem Cur.glue {w w3 w' : World} {g : Nat} {a : Option Addr} {len cap : Nat} (h : Cur w g a len cap) (h3 : Cur w3 g a len cap) (hP : Past g w w') (hg : w'.heap[g]? = w3.heap[g]?) : Cur w' g a len cap := by
  have e : ∀ i, w'.cell? ⟨g, i, none⟩ = w3.cell? ⟨g, i, none⟩ := fun i => World.cell?_of_block (w := w3) (a := ⟨g, i, none⟩) hg
  have f : ∀ i, w'.frozen? ⟨g, i, none⟩ = w3.frozen? ⟨g, i, none⟩ := fun i => World.frozen?_of_block (w := w3) (a := ⟨g, i, none⟩) hg
  refine ⟨Nat.lt_of_lt_of_le h.lt hP.size, (e 0).trans h3.c0, ?_, ?_, (f 1).trans h3.f1, (f 2).trans h3.f2, ?_⟩
  · rw [e 1]; exact h3.c1
  · rw [e 2]; exact h3.c2
  · rcases h.code with hc | ⟨b, off, ha, hlt, hn, hc⟩
    · exact .inl hc
    · refine .inr ⟨b, off, ha, Nat.lt_of_lt_of_le hlt hP.size, hn, fun i hi => ?_⟩
      rw [hP.cell (p := ⟨b, off + i, none⟩) hlt hn]
      exact hc i hi
theorem numP_bounds (q : Int) (z : Nat) : (-9223372036854775808 ≤ tN (numP q z) ∧ tN (numP q z) ≤ 9223372036854775807) ∧ (-9223372036854775808 ≤ tS (numP q z) ∧ tS (numP q z) ≤ 9223372036854775807) := by
  unfold tN tS
  by_cases h : numOk (numP q z).1 (numP q z).2 = true
  · rw [if_pos h, if_pos h]
    simp only [numOk, Bool.and_eq_true, decide_eq_true_eq] at h
    omega
  · rw [if_neg h, if_neg h]
    omega
theorem numP_b6 (q : Int) (z : Nat) : 0 ≤ tS (numP q z) ∧ tS (numP q z) ≤ 6 := by
  unfold tS
  by_cases h : numOk (numP q z).1 (numP q z).2 = true
  · rw [if_pos h]
    simp only [numOk, Bool.and_eq_true, decide_eq_true_eq] at h
    omega
  · rw [if_neg h]
    omega
/-- The end of a draw: the answer is laid into block r and given back. -/
theorem term_end {g : Nat} {a : Option Addr} {len cap : Nat} {w w3 : World} {k n s : Int} {ta : Option Addr} {tl tc : Nat} {bs : List Int} {r B : Nat} (hC : Cur w g a len cap) (hP : Past g w w3) (hC3 : Cur w3 g a len cap) (hT : Tx w3 B ta tl tc bs) (hB : r < B) (hr : w.heap.size ≤ r) (hrg : g ≠ r)
    (hn : -9223372036854775808 ≤ n ∧ n ≤ 9223372036854775807) (hs : 0 ≤ s ∧ s ≤ 6) (hl : tl ≤ 100) :
    TermDrawn g a len cap w (.returned (.agg #[.int .i64 k, .slice ta tl tc, .int .i64 n, .int .i64 s])) ((((w3.setCell ⟨r, 0, none⟩ (.int .i64 k)).setCell ⟨r, 1, none⟩ (.slice ta tl tc)).setCell ⟨r, 2, none⟩ (.int .i64 n)).setCell ⟨r, 3, none⟩ (.int .i64 s)) := by
  have hQ : Past r w3 ((((w3.setCell ⟨r, 0, none⟩ (.int .i64 k)).setCell ⟨r, 1, none⟩ (.slice ta tl tc)).setCell ⟨r, 2, none⟩ (.int .i64 n)).setCell ⟨r, 3, none⟩ (.int .i64 s)) := ((((Past.refl r w3).set 0 _).set 1 _).set 2 _).set 3 _
  have hP' : Past g w ((((w3.setCell ⟨r, 0, none⟩ (.int .i64 k)).setCell ⟨r, 1, none⟩ (.slice ta tl tc)).setCell ⟨r, 2, none⟩ (.int .i64 n)).setCell ⟨r, 3, none⟩ (.int .i64 s)) := (((hP.set_new (p := ⟨r, 0, none⟩) hr _).set_new (p := ⟨r, 1, none⟩) hr _).set_new (p := ⟨r, 2, none⟩) hr _).set_new (p := ⟨r, 3, none⟩) hr _
  exact ⟨⟨k, n, s, ta, tl, tc, bs, rfl, hn, hs, hl, (hT.past hQ hB).mono (by omega)⟩, hP', hC.glue hC3 hP' (hQ.block g hC3.lt hrg)⟩

set_option maxRecDepth 20000 in
set_option maxHeartbeats 2000000 in
theorem l1term_any (g : Nat) (a : Option Addr) (len cap : Nat) (w : World) (hlen : len ≤ 9223372036854775807) (hC : Cur w g a len cap) :
    Calls Tryz.prog 57 #[.pointer (some ⟨g, 0, none⟩)] w fun e w' => TermDrawn g a len cap w e w' := by
  have B := fun w (n : Nat) (h : Cur w g a len cap) (h1 : 1 ≤ n) (h2 : n ≤ 256) => l1Below_any g a len cap n w hlen h h1 h2
  have O := fun w (n : Nat) (h : Cur w g a len cap) (h1 : 1 ≤ n) (h2 : n ≤ 256) => l1Once_any g a len cap n w hlen h h1 h2
  have hgl := hC.lt
  have HC : Hid (Cur w g a len cap) := hC
  clear hC
  go_enter Tryz.func57, Tryz.ntmps57
  go_wp2_with fail
  refine (B _ 6 (HC.out.below (bl_a _)) (by omega) (by omega)).mono ?_
  rintro e w1 ⟨x, rfl, hx, hP1, hC1⟩
  have hR1 := (Own4.at w w.heap.size (.int .i64 0) (.slice none 0 0) (.int .i64 0) (.int .i64 0) 24 rfl)
  have hR : Own4 w1 w.heap.size (.int .i64 0) (.slice none 0 0) (.int .i64 0) (.int .i64 0) := hR1.past hP1 (by omega)
  have hP := (Past.of_below (g := g) (bl_a (w := w) (.cells #[.int .i64 0, .slice none 0 0, .int .i64 0, .int .i64 0] 24))).trans hP1
  have hs1 := hP1.size
  simp at hs1
  clear hR1 hP1
  by_cases hx2 : x = 2
  · subst hx2
    go_wp2_with fail
    refine (B _ 4 hC1 (by omega) (by omega)).mono ?_
    rintro e w2 ⟨y, rfl, hy, hP2, hC2⟩
    have hR2 := hR.past hP2 (by omega)
    replace hP := hP.trans hP2
    have HP : Hid (Past g w w2) := hP
    have HC2 : Hid (Cur w2 g a len cap) := hC2
    obtain ⟨⟨o0, o1, o2, o3, o4⟩, f0, f1, f2, f3⟩ := id hR2
    clear B O hC1 hR hP hP2 hC2 hR2
    go_wp2
    refine bodyPost_ret (v := .agg #[.int .i64 1, .slice none 0 0, .int .i64 y, .int .i64 0]) (by simp [results, Tryz.results57, go_sem, *]) rfl ?_
    exact term_end HC.out HP.out HC2.out (Tx.nil w2 (w.heap.size + 1)) (by omega) (Nat.le_refl _) (by omega) (by omega) (by omega) (by omega)
  by_cases hx3 : x ≤ 1
  · have hxx : x = 0 ∨ x = 1 := by omega
    rcases hxx with rfl | rfl
    · go_wp2_with fail
      refine (B _ 6 (hC1.below (bl_a _)) (by omega) (by omega)).mono ?_
      rintro e w2 ⟨y, rfl, hy, hP2, hC2⟩
      have hcl := hP2.cell (p := ⟨w1.heap.size, y, none⟩) (by simp) (show w1.heap.size ≠ g by omega)
      have hs2 := hP2.size
      simp at hs2
      have hR2 := (hR.below (bl_a _)).past hP2 (by omega)
      replace hP := (hP.trans (Past.of_below (bl_a _))).trans hP2
      obtain ⟨t, ht, hct⟩ : ∃ t : ByteArray, t.size ≤ 100 ∧ w2.cell? ⟨w1.heap.size, y, none⟩ = some (.string t) := by
        have hyy : y = 0 ∨ y = 1 ∨ y = 2 ∨ y = 3 ∨ y = 4 ∨ y = 5 := by omega
        rcases hyy with rfl | rfl | rfl | rfl | rfl | rfl
        all_goals
          simp [go_sem] at hcl
          exact ⟨_, by decide, hcl⟩
      have HP : Hid (Past g w w2) := hP
      have HC2 : Hid (Cur w2 g a len cap) := hC2
      clear B O hC1 hP2 hR hcl hP hC2
      go_wp2_with fail
      refine (l1name_any t _ ht).mono ?_
      rintro e w3 ⟨⟨k, n, s, ta, tl, tc, bs, rfl, hn, hsc, htl, hT⟩, hb3⟩
      have hR3 := hR2.below hb3
      have HP3 : Hid (Past g w w3) := HP.out.trans (Past.of_below hb3)
      have HC3 : Hid (Cur w3 g a len cap) := HC2.out.below hb3
      have HT : Hid (Tx w3 w2.heap.size ta tl tc bs) := hT
      obtain ⟨⟨o0, o1, o2, o3, o4⟩, f0, f1, f2, f3⟩ := id hR3
      clear hR2 hR3 hT hb3 HP HC2 hct
      go_wp2
      refine bodyPost_ret (v := .agg #[.int .i64 k, .slice ta tl tc, .int .i64 n, .int .i64 s]) (by simp [results, Tryz.results57, go_sem, *]) rfl ?_
      exact term_end HC.out HP3.out HC3.out HT.out (by omega) (Nat.le_refl _) (by omega) hn hsc htl
    · go_wp2_with fail
      refine (B _ 6 (hC1.below (bl_a _)) (by omega) (by omega)).mono ?_
      rintro e w2 ⟨y, rfl, hy, hP2, hC2⟩
      have hcl := hP2.cell (p := ⟨w1.heap.size, y, none⟩) (by simp) (show w1.heap.size ≠ g by omega)
      have hs2 := hP2.size
      simp at hs2
      have hR2 := (hR.below (bl_a _)).past hP2 (by omega)
      replace hP := (hP.trans (Past.of_below (bl_a _))).trans hP2
      obtain ⟨t, ht, hct⟩ : ∃ t : ByteArray, t.size ≤ 100 ∧ w2.cell? ⟨w1.heap.size, y, none⟩ = some (.string t) := by
        have hyy : y = 0 ∨ y = 1 ∨ y = 2 ∨ y = 3 ∨ y = 4 ∨ y = 5 := by omega
        rcases hyy with rfl | rfl | rfl | rfl | rfl | rfl
        all_goals
          simp [go_sem] at hcl
          exact ⟨_, by decide, hcl⟩
      have HP : Hid (Past g w w2) := hP
      have HC2 : Hid (Cur w2 g a len cap) := hC2
      clear B O hC1 hP2 hR hcl hP hC2
      go_wp2_with fail
      refine (l1name_any t _ ht).mono ?_
      rintro e w3 ⟨⟨k, n, s, ta, tl, tc, bs, rfl, hn, hsc, htl, hT⟩, hb3⟩
      have hR3 := hR2.below hb3
      have HP3 : Hid (Past g w w3) := HP.out.trans (Past.of_below hb3)
      have HC3 : Hid (Cur w3 g a len cap) := HC2.out.below hb3
      have HT : Hid (Tx w3 w2.heap.size ta tl tc bs) := hT
      obtain ⟨⟨o0, o1, o2, o3, o4⟩, f0, f1, f2, f3⟩ := id hR3
      clear hR2 hR3 hT hb3 HP HC2 hct
      go_wp2
      refine bodyPost_ret (v := .agg #[.int .i64 k, .slice ta tl tc, .int .i64 n, .int .i64 s]) (by simp [results, Tryz.results57, go_sem, *]) rfl ?_
      exact term_end HC.out HP3.out HC3.out HT.out (by omega) (Nat.le_refl _) (by omega) hn hsc htl
  by_cases hx4 : x = 3
  · subst hx4
    go_wp2_with fail
    refine (B _ 6 (hC1.below (bl_a _)) (by omega) (by omega)).mono ?_
    rintro e w2 ⟨y, rfl, hy, hP2, hC2⟩
    have hcl := hP2.cell (p := ⟨w1.heap.size, y, none⟩) (by simp) (show w1.heap.size ≠ g by omega)
    have hs2 := hP2.size
    simp at hs2
    have hR2 := (hR.below (bl_a _)).past hP2 (by omega)
    replace hP := (hP.trans (Past.of_below (bl_a _))).trans hP2
    obtain ⟨t, ht, hct⟩ : ∃ t : ByteArray, t.size ≤ 100 ∧ w2.cell? ⟨w1.heap.size, y, none⟩ = some (.string t) := by
      have hyy : y = 0 ∨ y = 1 ∨ y = 2 ∨ y = 3 ∨ y = 4 ∨ y = 5 := by omega
      rcases hyy with rfl | rfl | rfl | rfl | rfl | rfl
      all_goals
        simp [go_sem] at hcl
        exact ⟨_, by decide, hcl⟩
    have HP : Hid (Past g w w2) := hP
    have HC2 : Hid (Cur w2 g a len cap) := hC2
    clear B O hC1 hP2 hR hcl hP hC2
    have hcv := fun w => Lib.run_convert_string_bytes (P := Tryz.prog) w 9 22 5 t Tryz.underlying9 Tryz.underlying22 Tryz.underlying5
    have hb3 := bytesWorld_below w2 5 t
    have hR3 := hR2.below hb3
    have HP3 : Hid (Past g w (Lib.bytesWorld w2 5 t)) := HP.out.trans (Past.of_below hb3)
    have HC3 : Hid (Cur (Lib.bytesWorld w2 5 t) g a len cap) := HC2.out.below hb3
    have HT : Hid (Tx (Lib.bytesWorld w2 5 t) w2.heap.size (some ⟨w2.heap.size, 0, none⟩) t.size (grownCap w2 t.size 0 5) (numsOf t)) := Tx.conv w2 t 5 (by omega)
    obtain ⟨⟨o0, o1, o2, o3, o4⟩, f0, f1, f2, f3⟩ := id hR3
    clear hR2 hR3 hb3 HP HC2
    go_wp2
    refine bodyPost_ret (v := .agg #[.int .i64 2, .slice (some ⟨w2.heap.size, 0, none⟩) t.size (grownCap w2 t.size 0 5), .int .i64 0, .int .i64 0]) (by simp [results, Tryz.results57, go_sem, *]) rfl ?_
    exact term_end HC.out HP3.out HC3.out HT.out (by omega) (Nat.le_refl _) (by omega) (by omega) (by omega) ht
  have PI := fun w (lb n : Nat) (L : Nat → Int) (h : Cur w g a len cap) h1 h2 h3 h4 h5 => l1PickInt_any g lb a len cap n L w hlen h h1 h2 h3 h4 h5
  have hxx : x = 4 ∨ x = 5 := by omega
  have e0 : ((x : Int) == 0) = false := by simp; omega
  have e1 : ((x : Int) == 1) = false := by simp; omega
  have e2 : ((x : Int) == 2) = false := by simp; omega
  have e3 : ((x : Int) == 3) = false := by simp; omega
  go_wp2_with fail
  refine (O _ 3 hC1 (by omega) (by omega)).mono ?_
  rintro e w2 ⟨p, rfl, hP2, hC2⟩
  have hR2 := hR.past hP2 (by omega)
  have hs2 := hP2.size
  have HP2 : Hid (Past g w w2) := hP.trans hP2
  clear hC1 hR hP hP2 hxx
  cases p
  · have hRq := hR2
    have HPq := HP2
    have HCq : Hid (Cur w2 g a len cap) := hC2
    clear hR2 HP2 hC2 PI
    go_wp2_with fail
    refine (B _ 7 HCq.out (by omega) (by omega)).mono ?_
    rintro e w5 ⟨z, rfl, hz, hP5, hC5⟩
    have hR5 := hRq.past hP5 (by omega)
    have hs5 := hP5.size
    have HP5 : Hid (Past g w w5) := HPq.out.trans hP5
    have HC5 : Hid (Cur w5 g a len cap) := hC5
    clear B O hP5 hC5 hRq HPq HCq
    go_wp2_with fail
    refine (l1int_d ((z : Int) - 2) _ (by omega)).mono ?_
    rintro e w6 ⟨⟨k, n, s, ta, tl, tc, bs, rfl, hn, hsc, htl, hT⟩, hb6⟩
    have hR6 := hR5.below hb6
    have HP6 : Hid (Past g w w6) := HP5.out.trans (Past.of_below hb6)
    have HC6 : Hid (Cur w6 g a len cap) := HC5.out.below hb6
    have HT : Hid (Tx w6 w5.heap.size ta tl tc bs) := hT
    obtain ⟨⟨o0, o1, o2, o3, o4⟩, f0, f1, f2, f3⟩ := id hR6
    clear hR5 hR6 hT hb6 HP5 HC5
    go_wp2
    refine bodyPost_ret (v := .agg #[.int .i64 k, .slice ta tl tc, .int .i64 n, .int .i64 s]) (by simp [results, Tryz.results57, go_sem, *]) rfl ?_
    exact term_end HC.out HP6.out HC6.out HT.out (by omega) (Nat.le_refl _) (by omega) hn hsc htl
  · go_wp2_with fail
    refine (PI _ w2.heap.size 7 (fun i => if i = 0 then 15 else if i = 1 then -25 else if i = 2 then 1 else if i = 3 then 1000000000000000 else if i = 4 then -1000000000000000 else if i = 5 then 999999 else 123456789012) (hC2.below (bl_a _)) (by omega) (by omega) (by simp) (by omega) (by
      intro i hi
      have hii : i = 0 ∨ i = 1 ∨ i = 2 ∨ i = 3 ∨ i = 4 ∨ i = 5 ∨ i = 6 := by omega
      rcases hii with rfl | rfl | rfl | rfl | rfl | rfl | rfl
      all_goals simp [go_sem])).mono ?_
    rintro e w3 ⟨j, hj, rfl, hP3, hC3⟩
    obtain ⟨q, hq, hq1, hq2⟩ : ∃ q : Int, q = (if j = 0 then 15 else if j = 1 then -25 else if j = 2 then 1 else if j = 3 then 1000000000000000 else if j = 4 then -1000000000000000 else if j = 5 then 999999 else 123456789012) ∧ -1000000000000000 ≤ q ∧ q ≤ 1000000000000000 := by
      refine ⟨_, rfl, ?_⟩
      have hii : j = 0 ∨ j = 1 ∨ j = 2 ∨ j = 3 ∨ j = 4 ∨ j = 5 ∨ j = 6 := by omega
      rcases hii with rfl | rfl | rfl | rfl | rfl | rfl | rfl
      all_goals decide
    rw [← hq]
    clear hq hj
    have hR3 := (hR2.below (bl_a _)).past hP3 (by omega)
    have hs3 := hP3.size
    simp at hs3
    have HP3 : Hid (Past g w w3) := (HP2.out.trans (Past.of_below (bl_a _))).trans hP3
    clear hP3 hR2 HP2 hC2
    go_wp2_with fail
    refine (B _ 7 hC3 (by omega) (by omega)).mono ?_
    rintro e w4 ⟨z, rfl, hz, hP4, hC4⟩
    have hR4 := hR3.past hP4 (by omega)
    have hs4 := hP4.size
    have HP4 : Hid (Past g w w4) := HP3.out.trans hP4
    clear hP4 hR3 HP3 hC3
    go_wp2_with fail
    refine (specNum_any q z _ (by omega) (by omega)).mono ?_
    rintro e w5 ⟨rfl, hb5⟩
    have hbq := numP_bounds q z
    have hb6 := numP_b6 q z
    generalize tK (numP q z) = u1 at *
    generalize tN (numP q z) = u2 at *
    generalize tS (numP q z) = u3 at *
    generalize numOk (numP q z).1 (numP q z).2 = u4 at *
    have hRq := (hR4.below hb5).below (bl_a (.cells #[.int .i64 u1, .slice none 0 0, .int .i64 u2, .int .i64 u3] 24))
    have HPq : Hid (Past g w (w5.alloc (.cells #[.int .i64 u1, .slice none 0 0, .int .i64 u2, .int .i64 u3] 24))) := (HP4.out.trans (Past.of_below hb5)).trans (Past.of_below (bl_a _))
    have HCq : Hid (Cur (w5.alloc (.cells #[.int .i64 u1, .slice none 0 0, .int .i64 u2, .int .i64 u3] 24)) g a len cap) := (hC4.below hb5).below (bl_a _)
    have hZ := At4.new w5 (.int .i64 u1) (.slice none 0 0) (.int .i64 u2) (.int .i64 u3) 24
    have hsq : w.heap.size < (w5.alloc (.cells #[.int .i64 u1, .slice none 0 0, .int .i64 u2, .int .i64 u3] 24)).heap.size := by
      have := hb5.size
      simp
      omega
    clear hb5 hR4 HP4 hC4
    by_cases hu : u1 = 3
    · subst hu
      obtain ⟨⟨o0, o1, o2, o3, o4⟩, f0, f1, f2, f3⟩ := id hRq
      clear hRq B O
      go_wp2
      refine bodyPost_ret (v := .agg #[.int .i64 3, .slice none 0 0, .int .i64 u2, .int .i64 u3]) (by simp [results, Tryz.results57, go_sem, *]) rfl ?_
      exact term_end HC.out HPq.out HCq.out (Tx.nil _ (w.heap.size + 1)) (by omega) (Nat.le_refl _) (by omega) hbq.1 hb6 (by omega)
    · have hu' : (u1 == 3) = false := by simp [hu]
      clear hu hZ
      clear PI
      go_wp2_with fail
      refine (B _ 7 HCq.out (by omega) (by omega)).mono ?_
      rintro e w5 ⟨z, rfl, hz, hP5, hC5⟩
      have hR5 := hRq.past hP5 (by omega)
      have hs5 := hP5.size
      have HP5 : Hid (Past g w w5) := HPq.out.trans hP5
      have HC5 : Hid (Cur w5 g a len cap) := hC5
      clear B O hP5 hC5 hRq HPq HCq
      go_wp2_with fail
      refine (l1int_d ((z : Int) - 2) _ (by omega)).mono ?_
      rintro e w6 ⟨⟨k, n, s, ta, tl, tc, bs, rfl, hn, hsc, htl, hT⟩, hb6⟩
      have hR6 := hR5.below hb6
      have HP6 : Hid (Past g w w6) := HP5.out.trans (Past.of_below hb6)
      have HC6 : Hid (Cur w6 g a len cap) := HC5.out.below hb6
      have HT : Hid (Tx w6 w5.heap.size ta tl tc bs) := hT
      obtain ⟨⟨o0, o1, o2, o3, o4⟩, f0, f1, f2, f3⟩ := id hR6
      clear hR5 hR6 hT hb6 HP5 HC5
      go_wp2
      refine bodyPost_ret (v := .agg #[.int .i64 k, .slice ta tl tc, .int .i64 n, .int .i64 s]) (by simp [results, Tryz.results57, go_sem, *]) rfl ?_
      exact term_end HC.out HP6.out HC6.out HT.out (by omega) (Nat.le_refl _) (by omega) hn hsc htl
end Go.Proofs.YtoclingolfdfeaaGreatDoor
