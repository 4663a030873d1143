/- Texts put together: StrK StxA DrwA CalC CalD -/
import Derived.Test.YtobnpfcgcoooeaaGreatDoorMk10
import Derived.BigQuiet
import Derived.Test.YtobnpfcgcoooeaaGreatDoorMk01
import Derived.Test.YtobnpfcgcoooeaaGreatDoorMk04
import Derived.Deep.RegionHeld3
import Derived.Test.YtobnpfcgcoooeaaGreatDoorMk02
/- StrK -/
namespace Go.Proofs.YtobnpfcgcoooeaaGreatDoor
open Go.RowKit Go.Deep
set_option maxRecDepth 100000

theorem sliceCompare_empty (p p' : Option Addr) (cap cap' : Nat) (w : World) :
    Calls Tryz.prog 80 #[.slice p 0 cap, .slice p' 0 cap'] w fun e w' => e = .returned (.int .i64 0) ∧ w' = w := by
  go_enter Tryz.func80, Tryz.ntmps80
  go_wp2_with fail
  go_loop [11] (fun i => i = .int .i64 0) (fun i => 0)
  case atStart => rfl
  case round =>
    subst hrel
    go_wp2_with fail
    go_ret
    exact ⟨rfl, rfl⟩

theorem Arr3.take {w : World} {g : Nat} {x : Int × Int × Int} (h : Arr3 w g x) (k : Nat) (hk : k ≤ 3) : Ints w g 0 ([x.1, x.2.1, x.2.2].take k) := by
  intro i hi
  have hi' : i < k ∧ i < 3 := by simp at hi; omega
  rw [List.getElem?_take_of_lt hi'.1]
  exact h.ints i (by simp; omega)

set_option maxHeartbeats 4000000 in
theorem compareKeys_any (o : Nat) (x : Int × Int × Int) (w : World) (ho : o < 6) (pk : Option Addr) (cap : Nat) (k : Nat) (ks : List Int) (hkl : ks.length = k) (hk : k ≤ 3) (hI : k = 0 ∨ ∃ b off, pk = some ⟨b, off, none⟩ ∧ b < w.heap.size ∧ Ints w b off ks) :
    Calls Tryz.prog 53 #[.int .i64 o, .agg #[.int .i64 x.1, .int .i64 x.2.1, .int .i64 x.2.2], .slice pk k cap] w fun e w' => e = .returned (.int .i64 (lexI ([(rkey o x).1, (rkey o x).2.1, (rkey o x).2.2].take k) ks)) ∧ Gr w w' := by
  have N1 := fun w => numbers_any o x w ho
  generalize rkey o x = p at *
  obtain ⟨r, hr⟩ : ∃ r, r = lexI ([p.1, p.2.1, p.2.2].take k) ks := ⟨_, rfl⟩
  have HCM : Hid (∀ (g : Nat) (w' : World), Gr w w' → Arr3 w' g p → Calls Tryz.prog 80 #[.slice (some ⟨g, 0, none⟩) k 3, .slice pk k cap] w' fun e w'' => e = .returned (.int .i64 r) ∧ w'' = w') := by
    show ∀ (g : Nat) (w' : World), _
    intro g w' hG h
    rcases hI with rfl | ⟨b, off, rfl, hb, hI⟩
    · have : r = 0 := by rw [hr]; simp [lexI]
      rw [this]
      exact sliceCompare_empty _ _ _ _ _
    · have hl : ([p.1, p.2.1, p.2.2].take k).length = k := by simp; omega
      have := sliceCompare_any g 0 3 b off cap ([p.1, p.2.1, p.2.2].take k) ks w' (by rw [hl, hkl]) (by rw [hl]; omega) (h.take k hk) (fun i hi => by
        exact gcell_keep hG (hI i hi) hb)
      rw [hl, ← hr] at this
      exact this
  rw [← hr]
  clear hI hr hkl
  have hk4 : k = 0 ∨ k = 1 ∨ k = 2 ∨ k = 3 := by omega
  clear hk
  rcases hk4 with rfl | rfl | rfl | rfl
  all_goals
    go_enter Tryz.func53, Tryz.ntmps53
    go_wp2_with fail
    refine (N1 _).mono ?_
    rintro e w1 ⟨rfl, o1, o2, rfl⟩
    clear N1
    go_wp2_with fail
    refine (HCM.out _ _ ?_ ?_).mono ?_
    · repeat (first | with_reducible exact Gr.refl _ | with_reducible apply gr_alloc | with_reducible apply gr_drew | with_reducible apply gr_drewN)
    · simp [Arr3, go_sem]
    rintro e w2 ⟨rfl, rfl⟩
    go_wp2_with fail
    go_ret
    refine ⟨rfl, ?_⟩
    repeat (first | with_reducible exact Gr.refl _ | with_reducible apply gr_alloc | with_reducible apply gr_drew | with_reducible apply gr_drewN)
end Go.Proofs.YtobnpfcgcoooeaaGreatDoor

/- StxA -/
namespace Go.Proofs.YtobnpfcgcoooeaaGreatDoor
open Go.RowKit Go.Deep Go.Sort Go.Lib
set_option maxRecDepth 100000

theorem lexI_cons (x y : Int) (xs ys : List Int) : lexI (x :: xs) (y :: ys) = if x < y then -1 else if y < x then 1 else lexI xs ys := by
  simp only [lexI, orI, cmpI]
  by_cases h : x < y
  · simp [h]
  · by_cases h' : y < x
    · simp [h, h']
    · simp [h, h']
theorem lexI_mono : ∀ (X Y ks : List Int), X.length = Y.length → ks.length ≤ X.length → lexI X Y ≤ 0 → (0 ≤ lexI (X.take ks.length) ks → 0 ≤ lexI (Y.take ks.length) ks) ∧ (0 < lexI (X.take ks.length) ks → 0 < lexI (Y.take ks.length) ks)
  | _, _, [], _, _, _ => by simp [lexI]
  | [], _, _ :: _, _, h, _ => by simp at h
  | _ :: _, [], _ :: _, h, _, _ => by simp at h
  | x :: xs, y :: ys, z :: zs, h1, h2, h3 => by
    simp only [List.length_cons, Nat.add_right_cancel_iff, Nat.add_le_add_iff_right] at h1 h2
    have ih := lexI_mono xs ys zs h1 h2
    rw [lexI_cons] at h3
    simp only [List.length_cons, List.take_succ_cons, lexI_cons]
    by_cases a1 : x < y
    · by_cases a2 : x < z
      · simp [a2]
      · have a3 : z < y := by omega
        have a4 : ¬ y < z := by omega
        simp [a3, a4]
    · rw [if_neg a1] at h3
      by_cases a2 : y < x
      · rw [if_pos a2] at h3
        omega
      · rw [if_neg a2] at h3
        obtain rfl : x = y := by omega
        by_cases a3 : x < z
        · simp [a3]
        · by_cases a4 : z < x
          · simp [a3, a4]
          · simp only [if_neg a3, if_neg a4]
            exact ih h3
theorem lexI_eq : ∀ (X ks : List Int), X.length = ks.length → (lexI X ks = 0 ↔ X = ks)
  | [], [], _ => by simp [lexI]
  | [], _ :: _, h => by simp at h
  | _ :: _, [], h => by simp at h
  | x :: xs, y :: ys, h => by
    have ih := lexI_eq xs ys (by simpa using h)
    rw [lexI_cons]
    by_cases a1 : x < y
    · simp [a1]; omega
    · by_cases a2 : y < x
      · simp [a1, a2]; omega
      · obtain rfl : x = y := by omega
        simp [ih]
/-- A list that is first below, then at, then above: the middle is what is at. -/
theorem mid_filter {α : Type} (f : α → Int) : ∀ (l : List α), l.Pairwise (fun x y => (0 ≤ f x → 0 ≤ f y) ∧ (0 < f x → 0 < f y)) →
    (l.drop (l.countP fun x => decide (f x < 0))).take ((l.countP fun x => decide (f x ≤ 0)) - l.countP fun x => decide (f x < 0)) = l.filter fun x => decide (f x = 0)
  | [], _ => by simp
  | x :: l, h => by
    have hp := List.pairwise_cons.1 h
    have ih := mid_filter f l hp.2
    by_cases h1 : f x < 0
    · have h2 : f x ≤ 0 := by omega
      have h3 : ¬ f x = 0 := by omega
      rw [List.countP_cons_of_pos (p := fun x => decide (f x < 0)) (by simpa using h1), List.countP_cons_of_pos (p := fun x => decide (f x ≤ 0)) (by simpa using h2), List.filter_cons_of_neg (by simpa using h3)]
      rw [List.drop_succ_cons, ← ih]
      congr 1
      omega
    · have e1 : (l.countP fun x => decide (f x < 0)) = 0 := by
        rw [List.countP_eq_zero]
        intro y hy
        have := (hp.1 y hy).1 (by omega)
        simpa using this
      rw [e1] at ih
      rw [List.countP_cons_of_neg (p := fun x => decide (f x < 0)) (by simpa using h1), e1]
      by_cases h2 : f x ≤ 0
      · rw [List.countP_cons_of_pos (p := fun x => decide (f x ≤ 0)) (by simpa using h2), List.filter_cons_of_pos (by simp; omega)]
        simp only [List.drop_zero, Nat.sub_zero, List.take_succ_cons] at ih ⊢
        rw [ih]
      · have e2 : (l.countP fun x => decide (f x ≤ 0)) = 0 := by
          rw [List.countP_eq_zero]
          intro y hy
          have := (hp.1 y hy).2 (by omega)
          simp
          omega
        rw [e2] at ih
        rw [List.countP_cons_of_neg (p := fun x => decide (f x ≤ 0)) (by simpa using h2), e2, List.filter_cons_of_neg (by simp; omega)]
        simpa using ih
theorem countP_mono_le {α : Type} (f : α → Int) (l : List α) : (l.countP fun x => decide (f x < 0)) ≤ l.countP fun x => decide (f x ≤ 0) :=
  List.countP_mono_left fun x _ h => by simp at h ⊢; omega

/-- How a row stands to the keys, in an order. -/
def kcmp (o : Nat) (ks : List Int) (x : Int × Int × Int) : Int := lexI ([(rkey o x).1, (rkey o x).2.1, (rkey o x).2.2].take ks.length) ks
/-- The rows that begin with the keys. -/
def scanL (o : Nat) (ks : List Int) (l : List (Int × Int × Int)) : List (Int × Int × Int) := l.filter fun x => decide (kcmp o ks x = 0)
theorem kcmp_mono {o : Nat} {ks : List Int} (hk : ks.length ≤ 3) {x y : Int × Int × Int} (h : rcmp o x y ≤ 0) : (0 ≤ kcmp o ks x → 0 ≤ kcmp o ks y) ∧ (0 < kcmp o ks x → 0 < kcmp o ks y) := by
  rw [← lexI_rcmp] at h
  exact lexI_mono _ _ ks rfl (by simpa using hk) h
theorem kcmp_eq {o : Nat} {ks : List Int} (hk : ks.length ≤ 3) (x : Int × Int × Int) : kcmp o ks x = 0 ↔ [(rkey o x).1, (rkey o x).2.1, (rkey o x).2.2].take ks.length = ks :=
  lexI_eq _ _ (by simp; omega)
theorem scanL_mid {o : Nat} {ks : List Int} (hk : ks.length ≤ 3) {l : List (Int × Int × Int)} (h : l.Pairwise (fun x y => rcmp o x y ≤ 0)) :
    (l.drop (l.countP fun x => decide (kcmp o ks x < 0))).take ((l.countP fun x => decide (kcmp o ks x ≤ 0)) - l.countP fun x => decide (kcmp o ks x < 0)) = scanL o ks l :=
  mid_filter (kcmp o ks) l (h.imp fun hxy => kcmp_mono hk hxy)

set_option maxHeartbeats 2000000 in
theorem scanC1_any (bo br bk o b off capR n : Nat) (x : Int × Int × Int) (pk : Option Addr) (capK k : Nat) (ks : List Int) (i : Nat) (W : World) (ho : o < 6) (hi : i < n) (hkl : ks.length = k) (hk : k ≤ 3)
    (lo : bo < W.heap.size) (lr : br < W.heap.size) (lk : bk < W.heap.size) (lb : b < W.heap.size)
    (c0 : W.cell? ⟨bo, 0, none⟩ = some (.int .i64 o)) (c1 : W.cell? ⟨br, 0, none⟩ = some (.slice (some ⟨b, off, none⟩) n capR)) (c2 : W.cell? ⟨bk, 0, none⟩ = some (.slice pk k capK))
    (r0 : W.cell? ⟨b, off + i * 3, none⟩ = some (.int .i64 x.1)) (r1 : W.cell? ⟨b, off + i * 3 + 1, none⟩ = some (.int .i64 x.2.1)) (r2 : W.cell? ⟨b, off + i * 3 + 2, none⟩ = some (.int .i64 x.2.2))
    (hI : k = 0 ∨ ∃ b off, pk = some ⟨b, off, none⟩ ∧ b < W.heap.size ∧ Ints W b off ks) :
    Calls Tryz.prog 52 (#[.int .i64 i] ++ #[.pointer (some ⟨bo, 0, none⟩), .pointer (some ⟨br, 0, none⟩), .pointer (some ⟨bk, 0, none⟩)]) W fun e w' => e = .returned (.bool (decide (0 ≤ kcmp o ks x))) ∧ ∃ q os, w' = grow (W.drewN q) os := by
  have hmix : Tryz.prog.follows .mixedOrders = true := by kernel_rfl
  have hcg : ∀ n os, Calls Tryz.prog 53 #[.int .i64 o, .agg #[.int .i64 x.1, .int .i64 x.2.1, .int .i64 x.2.2], .slice pk k capK] (grow (W.drewN n) os) fun e w' => e = .returned (.int .i64 (kcmp o ks x)) ∧ ∃ q os', w' = grow ((grow (W.drewN n) os).drewN q) os' := fun n os => by
    have := compareKeys_any o x (grow (W.drewN n) os) ho pk capK k ks hkl hk (by
      rcases hI with h | ⟨b, off, h1, h2, h3⟩
      · exact .inl h
      · refine .inr ⟨b, off, h1, by simp; omega, fun j hj => ?_⟩
        exact Go.cell_grown h2 (h3 j hj) n os)
    rw [← hkl] at this
    rw [← hkl]
    exact this.mono fun _ _ h => ⟨h.1, h.2.grown⟩
  have d0 := fun n os => Go.cell_grown lo c0 n os
  have d1 := fun n os => Go.cell_grown lr c1 n os
  have d2 := fun n os => Go.cell_grown lk c2 n os
  have e0 := fun n os => Go.cell_grown lb r0 n os
  have e1 := fun n os => Go.cell_grown lb r1 n os
  have e2 := fun n os => Go.cell_grown lb r2 n os
  generalize kcmp o ks x = q at *
  clear hI hkl hk c0 c1 c2 r0 r1 r2 lo lr lk lb ho
  have hiz : (i : Int) < (n : Int) := by omega
  go_enter Tryz.func52, Tryz.ntmps52
  go_wp2_with fail
  go_quiet_grown (first | (go_at_call 53; refine Calls.grown_of (hcg _ _)))
  go_wp2_with fail
  go_ret
  exact ⟨by simp, nq, osq, rfl⟩

set_option maxHeartbeats 2000000 in
theorem scanC2_any (bo br bk o b off capR n : Nat) (x : Int × Int × Int) (pk : Option Addr) (capK k : Nat) (ks : List Int) (i : Nat) (W : World) (ho : o < 6) (hi : i < n) (hkl : ks.length = k) (hk : k ≤ 3)
    (lo : bo < W.heap.size) (lr : br < W.heap.size) (lk : bk < W.heap.size) (lb : b < W.heap.size)
    (c0 : W.cell? ⟨bo, 0, none⟩ = some (.int .i64 o)) (c1 : W.cell? ⟨br, 0, none⟩ = some (.slice (some ⟨b, off, none⟩) n capR)) (c2 : W.cell? ⟨bk, 0, none⟩ = some (.slice pk k capK))
    (r0 : W.cell? ⟨b, off + i * 3, none⟩ = some (.int .i64 x.1)) (r1 : W.cell? ⟨b, off + i * 3 + 1, none⟩ = some (.int .i64 x.2.1)) (r2 : W.cell? ⟨b, off + i * 3 + 2, none⟩ = some (.int .i64 x.2.2))
    (hI : k = 0 ∨ ∃ b off, pk = some ⟨b, off, none⟩ ∧ b < W.heap.size ∧ Ints W b off ks) :
    Calls Tryz.prog 54 (#[.int .i64 i] ++ #[.pointer (some ⟨bo, 0, none⟩), .pointer (some ⟨br, 0, none⟩), .pointer (some ⟨bk, 0, none⟩)]) W fun e w' => e = .returned (.bool (decide (0 < kcmp o ks x))) ∧ ∃ q os, w' = grow (W.drewN q) os := by
  have hmix : Tryz.prog.follows .mixedOrders = true := by kernel_rfl
  have hcg : ∀ n os, Calls Tryz.prog 53 #[.int .i64 o, .agg #[.int .i64 x.1, .int .i64 x.2.1, .int .i64 x.2.2], .slice pk k capK] (grow (W.drewN n) os) fun e w' => e = .returned (.int .i64 (kcmp o ks x)) ∧ ∃ q os', w' = grow ((grow (W.drewN n) os).drewN q) os' := fun n os => by
    have := compareKeys_any o x (grow (W.drewN n) os) ho pk capK k ks hkl hk (by
      rcases hI with h | ⟨b, off, h1, h2, h3⟩
      · exact .inl h
      · refine .inr ⟨b, off, h1, by simp; omega, fun j hj => ?_⟩
        exact Go.cell_grown h2 (h3 j hj) n os)
    rw [← hkl] at this
    rw [← hkl]
    exact this.mono fun _ _ h => ⟨h.1, h.2.grown⟩
  have d0 := fun n os => Go.cell_grown lo c0 n os
  have d1 := fun n os => Go.cell_grown lr c1 n os
  have d2 := fun n os => Go.cell_grown lk c2 n os
  have e0 := fun n os => Go.cell_grown lb r0 n os
  have e1 := fun n os => Go.cell_grown lb r1 n os
  have e2 := fun n os => Go.cell_grown lb r2 n os
  generalize kcmp o ks x = q at *
  clear hI hkl hk c0 c1 c2 r0 r1 r2 lo lr lk lb ho
  have hiz : (i : Int) < (n : Int) := by omega
  go_enter Tryz.func54, Tryz.ntmps54
  go_wp2_with fail
  go_quiet_grown (first | (go_at_call 53; refine Calls.grown_of (hcg _ _)))
  go_wp2_with fail
  go_ret
  exact ⟨by simp, nq, osq, rfl⟩
end Go.Proofs.YtobnpfcgcoooeaaGreatDoor

/- DrwA -/
namespace Go.Proofs.YtobnpfcgcoooeaaGreatDoor
open Go.RowKit Go.Deep

/-- A row of bytes that came in, of whatever length. -/
def Code (w : World) (a : Option Addr) (len : Nat) : Prop :=
  len = 0 ∨ ∃ b off, a = some ⟨b, off, none⟩ ∧ b < w.heap.size ∧ ∀ i, i < len → ∃ v, w.cell? ⟨b, off + i, none⟩ = some (.int .u8 v) ∧ 0 ≤ v ∧ v ≤ 255

/-- The cursor c lies in block g; the code is not in it. -/
structure Cur (w : World) (g : Nat) (a : Option Addr) (len cap : Nat) : Prop where
  lt : g < w.heap.size
  c0 : w.cell? ⟨g, 0, none⟩ = some (.slice a len cap)
  c1 : ∃ i : Nat, i ≤ len ∧ w.cell? ⟨g, 1, none⟩ = some (.int .i64 i)
  c2 : ∃ h : Int, w.cell? ⟨g, 2, none⟩ = some (.int .i64 h)
  f1 : w.frozen? ⟨g, 1, none⟩ = false
  f2 : w.frozen? ⟨g, 2, none⟩ = false
  code : len = 0 ∨ ∃ b off, a = some ⟨b, off, none⟩ ∧ b < w.heap.size ∧ b ≠ g ∧ ∀ i, i < len → ∃ v, w.cell? ⟨b, off + i, none⟩ = some (.int .u8 v) ∧ 0 ≤ v ∧ v ≤ 255

/-- All blocks that there were but g are as they were. -/
structure Past (g : Nat) (w w' : World) : Prop where
  os : w'.os = w.os
  tape : w'.tape = w.tape
  output : w'.output = w.output
  size : w.heap.size ≤ w'.heap.size
  block : ∀ b, b < w.heap.size → b ≠ g → w'.heap[b]? = w.heap[b]?
theorem Past.refl (g : Nat) (w : World) : Past g w w := ⟨rfl, rfl, rfl, Nat.le_refl _, fun _ _ _ => rfl⟩
theorem Past.trans {g : Nat} {w w' w'' : World} (h : Past g w w') (k : Past g w' w'') : Past g w w'' :=
  ⟨k.os.trans h.os, k.tape.trans h.tape, k.output.trans h.output, Nat.le_trans h.size k.size, fun b hb hn => (k.block b (Nat.lt_of_lt_of_le hb h.size) hn).trans (h.block b hb hn)⟩
theorem Past.of_below {g : Nat} {w w' : World} (h : Below w.heap.size w w') : Past g w w' := ⟨h.os, h.tape, h.output, h.size, fun b hb _ => h.block b hb⟩
theorem Past.set {g : Nat} {w w' : World} (h : Past g w w') (i : Nat) (v : Value) : Past g w (w'.setCell ⟨g, i, none⟩ v) :=
  ⟨h.os, h.tape, h.output, by simpa using h.size, fun b hb hn => (Below.heap_setCell _ _ _ _ hn).trans (h.block b hb hn)⟩
theorem Past.below {g B : Nat} {w w' : World} (h : Past g w w') (hB : B ≤ g) (hw : B ≤ w.heap.size) : Below B w w' :=
  ⟨h.os, h.tape, h.output, h.size, fun b hb => h.block b (by omega) (by omega)⟩
theorem Past.cell {g : Nat} {w w' : World} (h : Past g w w') {p : Addr} (hp : p.block < w.heap.size) (hn : p.block ≠ g) : w'.cell? p = w.cell? p := World.cell?_of_block (w := w) (h.block p.block hp hn)
theorem Past.frozen {g : Nat} {w w' : World} (h : Past g w w') {p : Addr} (hp : p.block < w.heap.size) (hn : p.block ≠ g) : w'.frozen? p = w.frozen? p := World.frozen?_of_block (w := w) (h.block p.block hp hn)
theorem Cur.below {w w' : World} {g : Nat} {a : Option Addr} {len cap : Nat} (h : Cur w g a len cap) (hb : Below w.heap.size w w') : Cur w' g a len cap := by
  have e : ∀ i, w'.cell? ⟨g, i, none⟩ = w.cell? ⟨g, i, none⟩ := fun i => hb.cell (p := ⟨g, i, none⟩) h.lt
  have f : ∀ i, w'.frozen? ⟨g, i, none⟩ = w.frozen? ⟨g, i, none⟩ := fun i => hb.frozen (p := ⟨g, i, none⟩) h.lt
  refine ⟨Nat.lt_of_lt_of_le h.lt hb.size, (e 0).trans h.c0, ?_, ?_, (f 1).trans h.f1, (f 2).trans h.f2, ?_⟩
  · rw [e 1]; exact h.c1
  · rw [e 2]; exact h.c2
  · rcases h.code with hc | ⟨b, off, ha, hlt, hn, hc⟩
    · exact .inl hc
    · refine .inr ⟨b, off, ha, Nat.lt_of_lt_of_le hlt hb.size, hn, fun i hi => ?_⟩
      rw [hb.cell (p := ⟨b, off + i, none⟩) hlt]
      exact hc i hi

theorem Cur.set2 {w : World} {g : Nat} {a : Option Addr} {len cap : Nat} (h : Cur w g a len cap) (v : Int) : Cur (w.setCell ⟨g, 2, none⟩ (.int .i64 v)) g a len cap := by
  obtain ⟨lt, c0, ⟨i, hi, c1⟩, ⟨h, c2⟩, f1, f2, hcode⟩ := h
  refine ⟨by simpa using lt, ?_, ⟨i, hi, ?_⟩, ⟨v, ?_⟩, ?_, ?_, ?_⟩
  · simp [go_sem, c0]
  · simp [go_sem, c1]
  · simp [go_sem, c2]
  · simp [f1]
  · simp [f2]
  · rcases hcode with hc | ⟨b, off, ha, hlt, hn, hc⟩
    · exact .inl hc
    · refine .inr ⟨b, off, ha, by simpa using hlt, hn, fun j hj => ?_⟩
      rw [World.cell?_of_block (Below.heap_setCell _ _ _ _ (by exact hn))]
      exact hc j hj
theorem Cur.set1 {w : World} {g : Nat} {a : Option Addr} {len cap : Nat} (h : Cur w g a len cap) (i : Nat) (v : Int) (hv : v = i) (hi : i ≤ len) : Cur (w.setCell ⟨g, 1, none⟩ (.int .i64 v)) g a len cap := by
  subst hv
  obtain ⟨lt, c0, ⟨i', hi', c1⟩, ⟨h, c2⟩, f1, f2, hcode⟩ := h
  refine ⟨by simpa using lt, ?_, ⟨i, hi, ?_⟩, ⟨h, ?_⟩, ?_, ?_, ?_⟩
  · simp [go_sem, c0]
  · simp [go_sem, c1]
  · simp [go_sem, c2]
  · simp [f1]
  · simp [f2]
  · rcases hcode with hc | ⟨b, off, ha, hlt, hn, hc⟩
    · exact .inl hc
    · refine .inr ⟨b, off, ha, by simpa using hlt, hn, fun j hj => ?_⟩
      rw [World.cell?_of_block (Below.heap_setCell _ _ _ _ (by exact hn))]
      exact hc j hj
theorem Past.drewN {g : Nat} {w w' : World} (h : Past g w w') (q : Nat) : Past g w (w'.drewN q) := h.trans (Past.of_below (below_drewN (Below.refl _ _) q))
theorem Cur.drewN {w : World} {g : Nat} {a : Option Addr} {len cap : Nat} (h : Cur w g a len cap) (q : Nat) : Cur (w.drewN q) g a len cap := h.below (below_drewN (Below.refl _ _) q)
theorem and255 (x : Int) : 0 ≤ bits BinOp.and IntKind.i64 x 255 ∧ bits BinOp.and IntKind.i64 x 255 ≤ 255 := by
  have h : ∃ n : Nat, n ≤ 255 ∧ bits BinOp.and IntKind.i64 x 255 = IntKind.i64.wrap n := by
    refine ⟨(BitVec.ofInt 64 x &&& BitVec.ofInt 64 255).toNat, ?_, rfl⟩
    rw [BitVec.toNat_and]
    exact Nat.le_trans Nat.and_le_right (by decide)
  obtain ⟨n, hn, e⟩ := h
  rw [e, IntKind.wrap_i64]
  omega

set_option maxHeartbeats 1000000 in
theorem l1Byte_any (g : Nat) (a : Option Addr) (len cap : Nat) (w : World) (hlen : len ≤ 9223372036854775807) (hC : Cur w g a len cap) :
    Calls Tryz.prog 64 #[.pointer (some ⟨g, 0, none⟩)] w fun e w' => ∃ x : Int, e = .returned (.int .i64 x) ∧ 0 ≤ x ∧ x ≤ 255 ∧ Past g w w' ∧ Cur w' g a len cap := by
  have HC : Hid (Cur w g a len cap) := hC
  obtain ⟨hlt, c0, ⟨i, hi, c1⟩, ⟨h, c2⟩, f1, f2, hcode⟩ := hC
  by_cases hil : i < len
  · obtain ⟨b, off, rfl, hbl, hbn, hcd⟩ := hcode.resolve_left (by omega)
    obtain ⟨v, cv, v0, v1⟩ := hcd i hil
    clear hcd hcode
    go_enter Tryz.func64, Tryz.ntmps64
    go_wp2_with fail
    go_quiet (fail)
    go_wp2_with fail
    go_quiet (fail)
    go_wp2_with fail
    go_quiet (fail)
    go_wp2
    go_ret
    exact ⟨_, rfl, (and255 _).1, (and255 _).2, (((Past.refl _ _).set _ _).drewN _).set _ _, ((HC.out.set2 _).drewN _).set1 (i + 1) _ (by omega) (by omega)⟩
  · clear hcode
    go_enter Tryz.func64, Tryz.ntmps64
    go_wp2_with fail
    go_quiet (fail)
    go_wp2_with fail
    go_quiet (fail)
    go_wp2
    go_ret
    exact ⟨_, rfl, (and255 _).1, (and255 _).2, ((((Past.refl _ _).set _ _).drewN _).drewN _), (((HC.out.set2 _).drewN _).drewN _)⟩

/-- What a draw below n answers. -/
def Drawn (g : Nat) (a : Option Addr) (len cap : Nat) (w : World) (n : Nat) (e : Ending) (w' : World) : Prop := ∃ x : Nat, e = .returned (.int .i64 x) ∧ x < n ∧ Past g w w' ∧ Cur w' g a len cap
theorem l1Below_any (g : Nat) (a : Option Addr) (len cap n : Nat) (w : World) (hlen : len ≤ 9223372036854775807) (hC : Cur w g a len cap) (h1 : 1 ≤ n) (h2 : n ≤ 256) :
    Calls Tryz.prog 36 #[.pointer (some ⟨g, 0, none⟩), .int .i64 n] w fun e w' => Drawn g a len cap w n e w' := by
  have B := fun w h => l1Byte_any g a len cap w hlen h
  have HC : Hid (Cur w g a len cap) := hC
  clear hC
  go_enter Tryz.func36, Tryz.ntmps36
  go_wp2_with fail
  refine (B _ HC.out).mono ?_
  rintro e w1 ⟨x, rfl, x0, x1, hP, hC1⟩
  clear B HC
  have HP : Hid (Past g w w1) := hP
  have HC1 : Hid (Cur w1 g a len cap) := hC1
  clear hP hC1
  go_wp2
  go_ret
  obtain ⟨y, rfl⟩ : ∃ y : Nat, x = y := ⟨x.toNat, by omega⟩
  refine ⟨y % n, ?_, Nat.mod_lt _ (by omega), HP.out, HC1.out⟩
  show Ending.returned (.int .i64 ((y : Int) % (n : Int))) = _
  rw [Int.natCast_emod]
theorem l1Once_any (g : Nat) (a : Option Addr) (len cap n : Nat) (w : World) (hlen : len ≤ 9223372036854775807) (hC : Cur w g a len cap) (h1 : 1 ≤ n) (h2 : n ≤ 256) :
    Calls Tryz.prog 35 #[.pointer (some ⟨g, 0, none⟩), .int .i64 n] w fun e w' => ∃ p : Bool, e = .returned (.bool p) ∧ Past g w w' ∧ Cur w' g a len cap := by
  have B := fun w h => l1Below_any g a len cap n w hlen h h1 h2
  have HC : Hid (Cur w g a len cap) := hC
  clear hC
  go_enter Tryz.func35, Tryz.ntmps35
  go_wp2_with fail
  refine (B _ HC.out).mono ?_
  rintro e w1 ⟨x, rfl, x1, hP, hC1⟩
  clear B HC
  have HP : Hid (Past g w w1) := hP
  have HC1 : Hid (Cur w1 g a len cap) := hC1
  clear hP hC1
  go_wp2
  go_ret
  exact ⟨_, rfl, HP.out, HC1.out⟩
/-- One of a list of numbers that lies in a block of its own. -/
theorem l1PickInt_any (g lb : Nat) (a : Option Addr) (len cap n : Nat) (L : Nat → Int) (w : World) (hlen : len ≤ 9223372036854775807) (hC : Cur w g a len cap) (h1 : 1 ≤ n) (h2 : n ≤ 256) (hlb : lb < w.heap.size) (hne : lb ≠ g)
    (hL : ∀ i, i < n → w.cell? ⟨lb, i, none⟩ = some (.int .i64 (L i))) :
    Calls Tryz.prog 67 #[.pointer (some ⟨g, 0, none⟩), .slice (some ⟨lb, 0, none⟩) n n] w fun e w' => ∃ j : Nat, j < n ∧ e = .returned (.int .i64 (L j)) ∧ Past g w w' ∧ Cur w' g a len cap := by
  have B := fun w h => l1Below_any g a len cap n w hlen h h1 h2
  have HC : Hid (Cur w g a len cap) := hC
  have HL : Hid (∀ i, i < n → w.cell? ⟨lb, i, none⟩ = some (.int .i64 (L i))) := hL
  clear hC hL
  go_enter Tryz.func67, Tryz.ntmps67
  go_wp2_with fail
  refine (B _ HC.out).mono ?_
  rintro e w1 ⟨x, rfl, x1, hP, hC1⟩
  have hx : w1.cell? ⟨lb, x, none⟩ = some (.int .i64 (L x)) := (hP.cell (p := ⟨lb, x, none⟩) hlb hne).trans (HL.out x x1)
  clear B HC HL
  have HP : Hid (Past g w w1) := hP
  have HC1 : Hid (Cur w1 g a len cap) := hC1
  clear hP hC1
  go_wp2
  go_ret
  exact ⟨x, x1, rfl, HP.out, HC1.out⟩
end Go.Proofs.YtobnpfcgcoooeaaGreatDoor

/- CalC -/
namespace Go.Proofs.YtobnpfcgcoooeaaGreatDoor
open Go.RowKit Go.Deep

/-- Six digits more, one after the other; nothing where what is there is too great ahead of one. -/
def digits : Nat → Int → Int → Int → Option Int
  | 0, n, _, _ => some n
  | k + 1, n, r, y => if 1000000000000000 < n ∨ 461168601842738790 < r then none else digits k (n * 10 + r * 10 / y) (r * 10 % y) y
end Go.Proofs.YtobnpfcgcoooeaaGreatDoor

/- CalD -/
namespace Go.Proofs.YtobnpfcgcoooeaaGreatDoor
open Go.RowKit Go.Deep

/-- A struct of two fields, of the call's own, at the head of block b. -/
def Own2 (w : World) (b : Nat) (v0 v1 : Value) : Prop :=
  b < w.heap.size ∧ w.cell? ⟨b, 0, none⟩ = some v0 ∧ w.cell? ⟨b, 1, none⟩ = some v1 ∧ w.frozen? ⟨b, 0, none⟩ = false ∧ w.frozen? ⟨b, 1, none⟩ = false
theorem Own2.below {w w' : World} {b : Nat} {v0 v1 : Value} (h : Own2 w b v0 v1) (hb : Below w.heap.size w w') : Own2 w' b v0 v1 := by
  obtain ⟨hl, h0, h1, f0, f1⟩ := h
  exact ⟨Nat.lt_of_lt_of_le hl hb.size, (hb.cell (p := ⟨b, 0, none⟩) hl).trans h0, (hb.cell (p := ⟨b, 1, none⟩) hl).trans h1, (hb.frozen (p := ⟨b, 0, none⟩) hl).trans f0, (hb.frozen (p := ⟨b, 1, none⟩) hl).trans f1⟩
theorem Own2.at (w : World) (b : Nat) (v0 v1 : Value) (t : TypeId) (e : b = w.heap.size) : Own2 (w.alloc (.cells #[v0, v1] t)) b v0 v1 := by
  subst e
  refine ⟨by simp, ?_, ?_, ?_, ?_⟩ <;> simp [go_sem]
/-- .. of four. -/
def Own4 (w : World) (b : Nat) (v0 v1 v2 v3 : Value) : Prop :=
  At4 w b v0 v1 v2 v3 ∧ w.frozen? ⟨b, 0, none⟩ = false ∧ w.frozen? ⟨b, 1, none⟩ = false ∧ w.frozen? ⟨b, 2, none⟩ = false ∧ w.frozen? ⟨b, 3, none⟩ = false
theorem Own4.below {w w' : World} {b : Nat} {v0 v1 v2 v3 : Value} (h : Own4 w b v0 v1 v2 v3) (hb : Below w.heap.size w w') : Own4 w' b v0 v1 v2 v3 := by
  obtain ⟨h4, f0, f1, f2, f3⟩ := h
  have hl := h4.1
  exact ⟨h4.below hb, (hb.frozen (p := ⟨b, 0, none⟩) hl).trans f0, (hb.frozen (p := ⟨b, 1, none⟩) hl).trans f1, (hb.frozen (p := ⟨b, 2, none⟩) hl).trans f2, (hb.frozen (p := ⟨b, 3, none⟩) hl).trans f3⟩
theorem Own4.at (w : World) (b : Nat) (v0 v1 v2 v3 : Value) (t : TypeId) (e : b = w.heap.size) : Own4 (w.alloc (.cells #[v0, v1, v2, v3] t)) b v0 v1 v2 v3 := by
  subst e
  refine ⟨At4.new w v0 v1 v2 v3 t, ?_, ?_, ?_, ?_⟩ <;> simp [go_sem]

end Go.Proofs.YtobnpfcgcoooeaaGreatDoor
