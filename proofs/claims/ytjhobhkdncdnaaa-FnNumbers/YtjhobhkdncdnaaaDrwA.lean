/- Draws: the cursor, and the contracts of l1Byte, l1Below, l1Once, l1PickInt. -/
import Derived.Test.YtjhobhkdncdnaaaTxtB
namespace Go.Proofs.Ytjhobhkdncdnaaa
open Go.RowKit Go.Deep

/-- A row of bytes that came in, of whatever length. -/
def Code (w : World) (a : Option Addr) (len : Nat) : Prop :=
  len = 0 ∨ ∃ b off, a = some ⟨b, off, none⟩ ∧ b < w.heap.size ∧ ∀ i, i < len → ∃ v, w.cell? ⟨b, off + i, none⟩ = some (.int .u8 v) ∧ 0 ≤ v ∧ v ≤ 255

/-- The cursor c lies in block g; the code is not in it. -/
structure Cur (w : World) (g : Nat) (a : Option Addr) (len cap : Nat) : Prop where
  lt : g < w.heap.size
  c0 : w.cell? ⟨g, 0, none⟩ = some (.slice a len cap)
  c1 : ∃ i : Nat, i ≤ len ∧ w.cell? ⟨g, 1, none⟩ = some (.int .i64 i)
  c2 : ∃ h : Int, w.cell? ⟨g, 2, none⟩ = some (.int .i64 h)
  f1 : w.frozen? ⟨g, 1, none⟩ = false
  f2 : w.frozen? ⟨g, 2, none⟩ = false
  code : len = 0 ∨ ∃ b off, a = some ⟨b, off, none⟩ ∧ b < w.heap.size ∧ b ≠ g ∧ ∀ i, i < len → ∃ v, w.cell? ⟨b, off + i, none⟩ = some (.int .u8 v) ∧ 0 ≤ v ∧ v ≤ 255

/-- All blocks that there were but g are as they were. -/
structure Past (g : Nat) (w w' : World) : Prop where
  os : w'.os = w.os
  tape : w'.tape = w.tape
  output : w'.output = w.output
  size : w.heap.size ≤ w'.heap.size
  block : ∀ b, b < w.heap.size → b ≠ g → w'.heap[b]? = w.heap[b]?
theorem Past.refl (g : Nat) (w : World) : Past g w w := ⟨rfl, rfl, rfl, Nat.le_refl _, fun _ _ _ => rfl⟩
theorem Past.trans {g : Nat} {w w' w'' : World} (h : Past g w w') (k : Past g w' w'') : Past g w w'' :=
  ⟨k.os.trans h.os, k.tape.trans h.tape, k.output.trans h.output, Nat.le_trans h.size k.size, fun b hb hn => (k.block b (Nat.lt_of_lt_of_le hb h.size) hn).trans (h.block b hb hn)⟩
theorem Past.of_below {g : Nat} {w w' : World} (h : Below w.heap.size w w') : Past g w w' := ⟨h.os, h.tape, h.output, h.size, fun b hb _ => h.block b hb⟩
theorem Past.set {g : Nat} {w w' : World} (h : Past g w w') (i : Nat) (v : Value) : Past g w (w'.setCell ⟨g, i, none⟩ v) :=
  ⟨h.os, h.tape, h.output, by simpa using h.size, fun b hb hn => (Below.heap_setCell _ _ _ _ hn).trans (h.block b hb hn)⟩
theorem Past.below {g B : Nat} {w w' : World} (h : Past g w w') (hB : B ≤ g) (hw : B ≤ w.heap.size) : Below B w w' :=
  ⟨h.os, h.tape, h.output, h.size, fun b hb => h.block b (by omega) (by omega)⟩
theorem Past.cell {g : Nat} {w w' : World} (h : Past g w w') {p : Addr} (hp : p.block < w.heap.size) (hn : p.block ≠ g) : w'.cell? p = w.cell? p := World.cell?_of_block (w := w) (h.block p.block hp hn)
theorem Past.frozen {g : Nat} {w w' : World} (h : Past g w w') {p : Addr} (hp : p.block < w.heap.size) (hn : p.block ≠ g) : w'.frozen? p = w.frozen? p := World.frozen?_of_block (w := w) (h.block p.block hp hn)
theorem Cur.below {w w' : World} {g : Nat} {a : Option Addr} {len cap : Nat} (h : Cur w g a len cap) (hb : Below w.heap.size w w') : Cur w' g a len cap := by
  have e : ∀ i, w'.cell? ⟨g, i, none⟩ = w.cell? ⟨g, i, none⟩ := fun i => hb.cell (p := ⟨g, i, none⟩) h.lt
  have f : ∀ i, w'.frozen? ⟨g, i, none⟩ = w.frozen? ⟨g, i, none⟩ := fun i => hb.frozen (p := ⟨g, i, none⟩) h.lt
  refine ⟨Nat.lt_of_lt_of_le h.lt hb.size, (e 0).trans h.c0, ?_, ?_, (f 1).trans h.f1, (f 2).trans h.f2, ?_⟩
  · rw [e 1]; exact h.c1
  · rw [e 2]; exact h.c2
  · rcases h.code with hc | ⟨b, off, ha, hlt, hn, hc⟩
    · exact .inl hc
    · refine .inr ⟨b, off, ha, Nat.lt_of_lt_of_le hlt hb.size, hn, fun i hi => ?_⟩
      rw [hb.cell (p := ⟨b, off + i, none⟩) hlt]
      exact hc i hi

theorem Cur.set2 {w : World} {g : Nat} {a : Option Addr} {len cap : Nat} (h : Cur w g a len cap) (v : Int) : Cur (w.setCell ⟨g, 2, none⟩ (.int .i64 v)) g a len cap := by
  obtain ⟨lt, c0, ⟨i, hi, c1⟩, ⟨h, c2⟩, f1, f2, hcode⟩ := h
  refine ⟨by simpa using lt, ?_, ⟨i, hi, ?_⟩, ⟨v, ?_⟩, ?_, ?_, ?_⟩
  · simp [go_sem, c0]
  · simp [go_sem, c1]
  · simp [go_sem, c2]
  · simp [f1]
  · simp [f2]
  · rcases hcode with hc | ⟨b, off, ha, hlt, hn, hc⟩
    · exact .inl hc
    · refine .inr ⟨b, off, ha, by simpa using hlt, hn, fun j hj => ?_⟩
      rw [World.cell?_of_block (Below.heap_setCell _ _ _ _ (by exact hn))]
      exact hc j hj
theorem Cur.set1 {w : World} {g : Nat} {a : Option Addr} {len cap : Nat} (h : Cur w g a len cap) (i : Nat) (v : Int) (hv : v = i) (hi : i ≤ len) : Cur (w.setCell ⟨g, 1, none⟩ (.int .i64 v)) g a len cap := by
  subst hv
  obtain ⟨lt, c0, ⟨i', hi', c1⟩, ⟨h, c2⟩, f1, f2, hcode⟩ := h
  refine ⟨by simpa using lt, ?_, ⟨i, hi, ?_⟩, ⟨h, ?_⟩, ?_, ?_, ?_⟩
  · simp [go_sem, c0]
  · simp [go_sem, c1]
  · simp [go_sem, c2]
  · simp [f1]
  · simp [f2]
  · rcases hcode with hc | ⟨b, off, ha, hlt, hn, hc⟩
    · exact .inl hc
    · refine .inr ⟨b, off, ha, by simpa using hlt, hn, fun j hj => ?_⟩
      rw [World.cell?_of_block (Below.heap_setCell _ _ _ _ (by exact hn))]
      exact hc j hj
theorem Past.drewN {g : Nat} {w w' : World} (h : Past g w w') (q : Nat) : Past g w (w'.drewN q) := h.trans (Past.of_below (below_drewN (Below.refl _ _) q))
theorem Cur.drewN {w : World} {g : Nat} {a : Option Addr} {len cap : Nat} (h : Cur w g a len cap) (q : Nat) : Cur (w.drewN q) g a len cap := h.below (below_drewN (Below.refl _ _) q)
theorem and255 (x : Int) : 0 ≤ bits BinOp.and IntKind.i64 x 255 ∧ bits BinOp.and IntKind.i64 x 255 ≤ 255 := by
  have h : ∃ n : Nat, n ≤ 255 ∧ bits BinOp.and IntKind.i64 x 255 = IntKind.i64.wrap n := by
    refine ⟨(BitVec.ofInt 64 x &&& BitVec.ofInt 64 255).toNat, ?_, rfl⟩
    rw [BitVec.toNat_and]
    exact Nat.le_trans Nat.and_le_right (by decide)
  obtain ⟨n, hn, e⟩ := h
  rw [e, IntKind.wrap_i64]
  omega

set_option maxHeartbeats 1000000 in
theorem l1Byte_any (g : Nat) (a : Option Addr) (len cap : Nat) (w : World) (hlen : len ≤ 9223372036854775807) (hC : Cur w g a len cap) :
    Calls Try.prog 34 #[.pointer (some ⟨g, 0, none⟩)] w fun e w' => ∃ x : Int, e = .returned (.int .i64 x) ∧ 0 ≤ x ∧ x ≤ 255 ∧ Past g w w' ∧ Cur w' g a len cap := by
  have HC : Hid (Cur w g a len cap) := hC
  obtain ⟨hlt, c0, ⟨i, hi, c1⟩, ⟨h, c2⟩, f1, f2, hcode⟩ := hC
  by_cases hil : i < len
  · obtain ⟨b, off, rfl, hbl, hbn, hcd⟩ := hcode.resolve_left (by omega)
    obtain ⟨v, cv, v0, v1⟩ := hcd i hil
    clear hcd hcode
    go_enter Try.func34, Try.ntmps34
    go_wp2_with fail
    go_quiet (fail)
    go_wp2_with fail
    go_quiet (fail)
    go_wp2_with fail
    go_quiet (fail)
    go_wp2
    go_ret
    exact ⟨_, rfl, (and255 _).1, (and255 _).2, (((Past.refl _ _).set _ _).drewN _).set _ _, ((HC.out.set2 _).drewN _).set1 (i + 1) _ (by omega) (by omega)⟩
  · clear hcode
    go_enter Try.func34, Try.ntmps34
    go_wp2_with fail
    go_quiet (fail)
    go_wp2_with fail
    go_quiet (fail)
    go_wp2
    go_ret
    exact ⟨_, rfl, (and255 _).1, (and255 _).2, ((((Past.refl _ _).set _ _).drewN _).drewN _), (((HC.out.set2 _).drewN _).drewN _)⟩

/-- What a draw below n answers. -/
def Drawn (g : Nat) (a : Option Addr) (len cap : Nat) (w : World) (n : Nat) (e : Ending) (w' : World) : Prop := ∃ x : Nat, e = .returned (.int .i64 x) ∧ x < n ∧ Past g w w' ∧ Cur w' g a len cap
theorem l1Below_any (g : Nat) (a : Option Addr) (len cap n : Nat) (w : World) (hlen : len ≤ 9223372036854775807) (hC : Cur w g a len cap) (h1 : 1 ≤ n) (h2 : n ≤ 256) :
    Calls Try.prog 27 #[.pointer (some ⟨g, 0, none⟩), .int .i64 n] w fun e w' => Drawn g a len cap w n e w' := by
  have B := fun w h => l1Byte_any g a len cap w hlen h
  have HC : Hid (Cur w g a len cap) := hC
  clear hC
  go_enter Try.func27, Try.ntmps27
  go_wp2_with fail
  refine (B _ HC.out).mono ?_
  rintro e w1 ⟨x, rfl, x0, x1, hP, hC1⟩
  clear B HC
  have HP : Hid (Past g w w1) := hP
  have HC1 : Hid (Cur w1 g a len cap) := hC1
  clear hP hC1
  go_wp2
  go_ret
  obtain ⟨y, rfl⟩ : ∃ y : Nat, x = y := ⟨x.toNat, by omega⟩
  refine ⟨y % n, ?_, Nat.mod_lt _ (by omega), HP.out, HC1.out⟩
  show Ending.returned (.int .i64 ((y : Int) % (n : Int))) = _
  rw [Int.natCast_emod]
theorem l1Once_any (g : Nat) (a : Option Addr) (len cap n : Nat) (w : World) (hlen : len ≤ 9223372036854775807) (hC : Cur w g a len cap) (h1 : 1 ≤ n) (h2 : n ≤ 256) :
    Calls Try.prog 28 #[.pointer (some ⟨g, 0, none⟩), .int .i64 n] w fun e w' => ∃ p : Bool, e = .returned (.bool p) ∧ Past g w w' ∧ Cur w' g a len cap := by
  have B := fun w h => l1Below_any g a len cap n w hlen h h1 h2
  have HC : Hid (Cur w g a len cap) := hC
  clear hC
  go_enter Try.func28, Try.ntmps28
  go_wp2_with fail
  refine (B _ HC.out).mono ?_
  rintro e w1 ⟨x, rfl, x1, hP, hC1⟩
  clear B HC
  have HP : Hid (Past g w w1) := hP
  have HC1 : Hid (Cur w1 g a len cap) := hC1
  clear hP hC1
  go_wp2
  go_ret
  exact ⟨_, rfl, HP.out, HC1.out⟩
/-- One of a list of numbers that lies in a block of its own. -/
theorem l1PickInt_any (g lb : Nat) (a : Option Addr) (len cap n : Nat) (L : Nat → Int) (w : World) (hlen : len ≤ 9223372036854775807) (hC : Cur w g a len cap) (h1 : 1 ≤ n) (h2 : n ≤ 256) (hlb : lb < w.heap.size) (hne : lb ≠ g)
    (hL : ∀ i, i < n → w.cell? ⟨lb, i, none⟩ = some (.int .i64 (L i))) :
    Calls Try.prog 26 #[.pointer (some ⟨g, 0, none⟩), .slice (some ⟨lb, 0, none⟩) n n] w fun e w' => ∃ j : Nat, j < n ∧ e = .returned (.int .i64 (L j)) ∧ Past g w w' ∧ Cur w' g a len cap := by
  have B := fun w h => l1Below_any g a len cap n w hlen h h1 h2
  have HC : Hid (Cur w g a len cap) := hC
  have HL : Hid (∀ i, i < n → w.cell? ⟨lb, i, none⟩ = some (.int .i64 (L i))) := hL
  clear hC hL
  go_enter Try.func26, Try.ntmps26
  go_wp2_with fail
  refine (B _ HC.out).mono ?_
  rintro e w1 ⟨x, rfl, x1, hP, hC1⟩
  have hx : w1.cell? ⟨lb, x, none⟩ = some (.int .i64 (L x)) := (hP.cell (p := ⟨lb, x, none⟩) hlb hne).trans (HL.out x x1)
  clear B HC HL
  have HP : Hid (Past g w w1) := hP
  have HC1 : Hid (Cur w1 g a len cap) := hC1
  clear hP hC1
  go_wp2
  go_ret
  exact ⟨x, x1, rfl, HP.out, HC1.out⟩
end Go.Proofs.Ytjhobhkdncdnaaa
