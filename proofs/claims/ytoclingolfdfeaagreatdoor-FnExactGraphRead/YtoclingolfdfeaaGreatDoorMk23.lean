/- Texts put together: LxI RdV LxN -/
import Derived.Test.YtoclingolfdfeaaGreatDoorMk20
import Derived.Test.YtoclingolfdfeaaGreatDoorMk21
import Derived.Test.YtoclingolfdfeaaGreatDoorMk22
import Derived.Test.YtoclingolfdfeaaGreatDoorMk16
import Derived.Test.YtoclingolfdfeaaGreatDoorMk08
import Derived.Lib.SliceRun
import Derived.Laws.CopyRow
import Derived.Test.YtoclingolfdfeaaGreatDoorMk17
/- LxI -/
namespace Go.Proofs.YtoclingolfdfeaaGreatDoor
open Go.RowKit Go.Deep
set_option maxRecDepth 100000

/-- A piece of a slice, wherever its end lies. -/
theorem list_slice {ops : Array Oper} {rest : List Oper} {o : Oper} {a : Act} {Q : Exit → Act → World → Prop} {w : World} (hgd : o.guard = none) (s lo hi : Operand) (ho : o.op = .slice 22 s (some lo) (some hi) none)
    (b off len cap i j : Nat) (hs : a.eval s = .slice (some ⟨b, off, none⟩) len cap) (hlo : a.eval lo = .int .i64 i) (hhi : a.eval hi = .int .i64 j) (h1 : i ≤ j) (h2 : j ≤ cap)
    (h : ∀ A : Option Addr, (A = some ⟨b, off + i, none⟩ ∨ (j = i ∧ A = some ⟨b, off, none⟩)) → wpList Tryz.prog ops Q rest (a.put o.dst (.slice A (j - i) (cap - i))) w) : wpList Tryz.prog ops Q (o :: rest) a w := by
  refine wpList_plain hgd fun K hK => ?_
  have hh : ∀ A : Option Addr, (A = some ⟨b, off + i, none⟩ ∨ (j = i ∧ A = some ⟨b, off, none⟩)) → K (a.put o.dst (.slice A (j - i) (cap - i))) w := fun A hA => hK _ _ (h A hA)
  have e1 : (i : Int) ≤ (j : Int) := by omega
  have e2 : (j : Int) ≤ (cap : Int) := by omega
  obtain ⟨i0, hi0, hzz⟩ := Option.map_eq_some_iff.1 Tryz.info5
  simp only [Prod.mk.injEq] at hzz
  obtain ⟨_, hi1, _⟩ := hzz
  have ht : Tryz.prog.underlying 22 = some (.slice (Tryz.prog.elem 22)) := by kernel_rfl
  have hel : Tryz.prog.elem 22 = 5 := by kernel_rfl
  have hr : (Instr.sliceAt 22 (.slice (some ⟨b, off, none⟩) len cap) (some (.int .i64 i)) (some (.int .i64 j)) none).run Tryz.prog w = .ok (sliced (some ⟨b, off, none⟩) i j cap 1) w := by
    rw [run_sliceAt_slice w _ _ _ _ _ ht, run_slice_lh w _ _ _ _ ht .i64 .i64 i j (by omega) e1 e2, hel]
    simp [sizeOf, typeInfo, hi0, hi1]
  unfold Oper.wp execOp
  simp only [ho, hs, hlo, hhi, hr, Option.map, Sem.run_bind, Sem.run_pure, Result.andThen_ok]
  by_cases hc : cap = i
  · have := hh (some ⟨b, off, none⟩) (.inr ⟨by omega, rfl⟩)
    simp only [sliced, if_pos hc]
    exact this
  · have := hh (some ⟨b, off + i, none⟩) (.inl rfl)
    simp only [sliced, if_neg hc, Option.map, Nat.mul_one, Addr.add_lit]
    exact this
/-- l2number, whatever the piece is. -/
theorem l2number_any (a : Option Addr) (len cap : Nat) (raw : List Int) (w : World) (hB : Bs w a len raw) : Calls Tryz.prog 123 #[.slice a len cap] w (NumbRes raw w) := by
  by_cases h0 : len = 0
  · subst h0
    have : raw = [] := List.eq_nil_of_length_eq_zero hB.1
    subst this
    exact l2number_nil a cap w
  · obtain ⟨b, off, rfl, _⟩ := hB.2.2.2.resolve_left h0
    by_cases h45 : raw[0]? = some 45
    · exact l2number_minus b off len cap raw w hB h0 h45
    · exact l2number_plain b off len cap raw w hB h0 h45
theorem tok_num {c : Int} {r : List Int} (h : (digit c || (c == 45 && digitHd r)) = true) : tokOf (c :: r) = (numOf (c :: r.take (pieceLen r))).map fun p => ⟨0, c :: r.take (pieceLen r), ⟨3, [], p.1, p.2⟩⟩ := by rw [tokOf, if_pos h]
theorem piece_raw {bs : List Int} {i E : Nat} {c : Int} (hd : bs.drop i = c :: bs.drop (i + 1)) (hE : i + 1 + pieceLen (bs.drop (i + 1)) = E) : (bs.drop i).take (E - i) = c :: (bs.drop (i + 1)).take (pieceLen (bs.drop (i + 1))) := by
  rw [hd, show E - i = pieceLen (bs.drop (i + 1)) + 1 by omega, List.take_succ_cons]
theorem piece_len {bs : List Int} {k E len : Nat} (hl : bs.length = len) (hk : k ≤ len) (hE : k + pieceLen (bs.drop k) = E) : k ≤ E ∧ E ≤ len := by
  have := pieceLen_le (bs.drop k)
  rw [List.length_drop] at this
  omega
theorem tok_name (r : List Int) : (nameOk (r.take (pieceLen r)) = true → (r.drop (pieceLen r))[0]? = some 62 → tokOf (60 :: r) = some ⟨0, 60 :: (r.take (pieceLen r) ++ [62]), ⟨0, r.take (pieceLen r), 0, 0⟩⟩) ∧ ((nameOk (r.take (pieceLen r)) = false ∨ (r.drop (pieceLen r))[0]? ≠ some 62) → tokOf (60 :: r) = some ⟨3, [60], td0⟩) := by
  refine ⟨fun h1 h2 => ?_, fun h => ?_⟩
  · rw [tokOf, if_neg (by simp [digit]), if_pos (by simp only [h1, h2]; decide)]
  · have hn : ¬ ((60 : Int) == 60 && nameOk (r.take (pieceLen r)) && (r.drop (pieceLen r))[0]? == some 62) = true := by
      intro hx
      simp only [Bool.and_eq_true, beq_iff_eq] at hx
      rcases h with h | h
      · rw [h] at hx
        cases hx.1.2
      · exact h hx.2
    rw [tokOf, if_neg (by simp [digit]), if_neg hn]
    simp [great, signB]
theorem Bs0.oneAt (w : World) (x : Int) (b : Nat) (e : b = w.heap.size) (hx : 0 ≤ x ∧ x ≤ 255) : Bs0 (w.alloc (.cells #[.int .u8 x] 5)) (some ⟨b, 0, none⟩) 1 [x] := by
  subst e
  exact Bs0.one w x hx
theorem tok_var (r : List Int) : tokOf (63 :: r) = if nameOk (r.take (pieceLen r)) = true then some ⟨1, 63 :: r.take (pieceLen r), td0⟩ else none := by
  simp [tokOf, digit, great, signB]
theorem tok_blank (r : List Int) : tokOf (95 :: 58 :: r) = (blankOf (r.take (pieceLen r))).map fun n : Nat => (⟨0, 95 :: 58 :: r.take (pieceLen r), ⟨1, [], (n : Int), 0⟩⟩ : PT) := by
  simp [tokOf, digit]
  cases blankOf (r.take (pieceLen r)) <;> rfl
theorem digits_num (n : Nat) : showL 3 (n : Int) 0 [] = digitsL n := by
  have : ¬ (n : Int) < 0 := by omega
  simp [showL, this, numL, p10]
theorem blank_num {p : List Int} : (numOf p = none → blankOf p = none) ∧ ∀ n s : Int, numOf p = some (n, s) → ((s = 0 ∧ 0 ≤ n ∧ n ≤ 999999) → blankOf p = some n.toNat) ∧ (¬ (s = 0 ∧ 0 ≤ n ∧ n ≤ 999999) → blankOf p = none) := by
  have key : ∀ k, blankOf p = some k → numOf p = some ((k : Int), 0) ∧ k ≤ 999999 := fun k hk => by
    obtain ⟨h1, h2⟩ := blankOf_some.1 hk
    refine ⟨numOf_some.2 ⟨?_, ?_⟩, h1⟩
    · simp [numOk]
      omega
    · rw [digits_num]
      exact h2
  refine ⟨fun h => ?_, fun n s h => ⟨fun hx => ?_, fun hx => ?_⟩⟩
  · cases hb : blankOf p with
    | none => rfl
    | some k =>
      rw [(key k hb).1] at h
      cases h
  · obtain ⟨h1, h2⟩ := numOf_some.1 h
    refine blankOf_some.2 ⟨by omega, ?_⟩
    rw [← digits_num, ← h2, hx.1]
    congr 1
    omega
  · cases hb : blankOf p with
    | none => rfl
    | some k =>
      obtain ⟨h1, h2⟩ := key k hb
      rw [h] at h1
      simp only [Option.some.injEq, Prod.mk.injEq] at h1
      exact absurd ⟨h1.2, by omega, by omega⟩ hx
theorem blank_fits (n : Int) (h : -1000000000000000 ≤ n ∧ n ≤ 1000000000000000) : (⟨1, none, 0, 0, n, 0⟩ : Tm).fits := ⟨by show _ ≤ n; omega, by show n ≤ _; omega, by show (_ : Int) ≤ 0; omega, by show (0 : Int) ≤ _; omega⟩
theorem num_fits {n s : Int} (h : numOk n s = true) : (⟨3, none, 0, 0, n, s⟩ : Tm).fits := by
  have := numOk_bounds h
  exact ⟨by show _ ≤ n; omega, by show n ≤ _; omega, by show _ ≤ s; omega, by show s ≤ _; omega⟩
theorem piece_of {w : World} {b off len : Nat} {bs : List Int} (h : Bs w (some ⟨b, off, none⟩) len bs) {i j : Nat} (h1 : i ≤ j) (h2 : j ≤ len) {A : Option Addr} (hA : A = some ⟨b, off + i, none⟩ ∨ (j = i ∧ A = some ⟨b, off, none⟩)) : Bs w A (j - i) ((bs.drop i).take (j - i)) := by
  rcases hA with rfl | ⟨rfl, rfl⟩
  · exact h.piece h1 h2
  · rw [Nat.sub_self, List.take_zero]
    exact ⟨rfl, by omega, by simp, .inl rfl⟩
end Go.Proofs.YtoclingolfdfeaaGreatDoor

/- RdV -/
namespace Go.Proofs.YtoclingolfdfeaaGreatDoor
open Go.RowKit Go.Deep Go.Sort Go.Lib
set_option maxRecDepth 100000

theorem ownG_at {W : World} {B g n cap : Nat} {l : List G1} (h : OwnG W B (.slice (some ⟨g, 0, none⟩) n cap) l) (i : Nat) (x : G1) (hi : l[i]? = some x) :
    W.cell? ⟨g, i * 12, none⟩ = some (.int .i64 x.t.k) ∧ W.cell? ⟨g, i * 12 + 1, none⟩ = some (.slice x.t.a x.t.len x.t.cap) ∧ W.cell? ⟨g, i * 12 + 2, none⟩ = some (.int .i64 x.t.n) ∧ W.cell? ⟨g, i * 12 + 3, none⟩ = some (.int .i64 x.t.s) ∧ W.cell? ⟨g, i * 12 + 4, none⟩ = some (.int .i64 x.u.k) ∧ W.cell? ⟨g, i * 12 + 5, none⟩ = some (.slice x.u.a x.u.len x.u.cap) ∧ W.cell? ⟨g, i * 12 + 6, none⟩ = some (.int .i64 x.u.n) ∧ W.cell? ⟨g, i * 12 + 7, none⟩ = some (.int .i64 x.u.s) ∧ W.cell? ⟨g, i * 12 + 8, none⟩ = some (.int .i64 x.v.k) ∧ W.cell? ⟨g, i * 12 + 9, none⟩ = some (.slice x.v.a x.v.len x.v.cap) ∧ W.cell? ⟨g, i * 12 + 10, none⟩ = some (.int .i64 x.v.n) ∧ W.cell? ⟨g, i * 12 + 11, none⟩ = some (.int .i64 x.v.s) := by
  obtain ⟨cur, hh, hle, hmx, hcs, htk, hn, hB, hgl⟩ := ownG_cells h
  obtain ⟨hi', rfl⟩ := List.getElem?_eq_some_iff.1 hi
  have hc : ∀ c u, c < 12 → (eG l[i])[c]? = some u → W.cell? ⟨g, i * 12 + c, none⟩ = some u := by
    intro c u hc hu
    rw [← flatG_get l i c hi' hc, ← htk, List.getElem?_take, if_pos (by omega)] at hu
    simp only [World.cell?, hh]
    simpa using hu
  exact ⟨hc 0 _ (by omega) rfl, hc 1 _ (by omega) rfl, hc 2 _ (by omega) rfl, hc 3 _ (by omega) rfl, hc 4 _ (by omega) rfl, hc 5 _ (by omega) rfl, hc 6 _ (by omega) rfl, hc 7 _ (by omega) rfl, hc 8 _ (by omega) rfl, hc 9 _ (by omega) rfl, hc 10 _ (by omega) rfl, hc 11 _ (by omega) rfl⟩
theorem ownG_grown {W : World} {B : Nat} {v : Value} {l : List G1} (h : OwnG W B v l) (n : Nat) (os : Array Obj) : OwnG (grow (W.drewN n) os) B v l := by
  refine h.below ⟨rfl, rfl, rfl, ?_, fun k hk => ?_⟩
  · rw [Go.Sort.size_grow]; exact Nat.le_add_right _ _
  · rw [Go.Sort.heap_grow_old _ _ (by exact hk)]; rfl
theorem below_grownG {W w : World} {B : Nat} (h : Below B w W) (hB : B ≤ W.heap.size) (n : Nat) (os : Array Obj) : Below B w (grow (W.drewN n) os) := by
  refine h.trans ⟨rfl, rfl, rfl, ?_, fun k hk => ?_⟩
  · rw [Go.Sort.size_grow]; exact Nat.le_add_right _ _
  · rw [Go.Sort.heap_grow_old _ _ (show k < (W.drewN n).heap.size from (show k < W.heap.size by omega))]; rfl

/-- A triple laid into the row. -/
def setG (W : World) (g i : Nat) (x : G1) : World := ((((((((((((W.setCell ⟨g, i * 12, none⟩ (.int .i64 x.t.k)).setCell ⟨g, i * 12 + 1, none⟩ (.slice x.t.a x.t.len x.t.cap)).setCell ⟨g, i * 12 + 2, none⟩ (.int .i64 x.t.n)).setCell ⟨g, i * 12 + 3, none⟩ (.int .i64 x.t.s)).setCell ⟨g, i * 12 + 4, none⟩ (.int .i64 x.u.k)).setCell ⟨g, i * 12 + 5, none⟩ (.slice x.u.a x.u.len x.u.cap)).setCell ⟨g, i * 12 + 6, none⟩ (.int .i64 x.u.n)).setCell ⟨g, i * 12 + 7, none⟩ (.int .i64 x.u.s)).setCell ⟨g, i * 12 + 8, none⟩ (.int .i64 x.v.k)).setCell ⟨g, i * 12 + 9, none⟩ (.slice x.v.a x.v.len x.v.cap)).setCell ⟨g, i * 12 + 10, none⟩ (.int .i64 x.v.n)).setCell ⟨g, i * 12 + 11, none⟩ (.int .i64 x.v.s))
theorem set_get (cur : Array Value) (i : Nat) (us : List Value) (j : Nat) (h : i + us.length ≤ cur.size) :
    ((us.zipIdx.foldl (fun c p => c.setIfInBounds (i + p.2) p.1) cur))[j]? = if i ≤ j ∧ j < i + us.length then us[j - i]? else cur[j]? := by
  have key : ∀ (us : List Value) (cur : Array Value) (k : Nat), i + k + us.length ≤ cur.size → ((us.zipIdx k).foldl (fun c p => c.setIfInBounds (i + p.2) p.1) cur)[j]? = if i + k ≤ j ∧ j < i + k + us.length then us[j - (i + k)]? else cur[j]? := by
    intro us
    induction us with
    | nil => intro cur k _; rw [if_neg (by simp)]; rfl
    | cons u us ih =>
      intro cur k hk
      simp only [List.length_cons] at hk
      rw [List.zipIdx_cons, List.foldl_cons, ih _ (k + 1) (by simp; omega)]
      by_cases h1 : j = i + k
      · subst h1
        rw [if_neg (by omega), if_pos (by simp), Nat.sub_self, Array.getElem?_setIfInBounds_self_of_lt (by omega)]
        rfl
      · by_cases h2 : i + (k + 1) ≤ j ∧ j < i + (k + 1) + us.length
        · rw [if_pos h2, if_pos (by simp only [List.length_cons]; omega)]
          obtain ⟨d, hd⟩ : ∃ d, j - (i + k) = d + 1 := ⟨j - (i + k) - 1, by omega⟩
          rw [hd, List.getElem?_cons_succ]
          congr 1
          omega
        · rw [if_neg h2, if_neg (by simp only [List.length_cons]; omega), Array.getElem?_setIfInBounds_ne (by omega)]
  have := key us cur 0 (by omega)
  simpa using this
set_option maxHeartbeats 4000000 in
theorem ownG_set {W : World} {B g n cap : Nat} {l : List G1} (h : OwnG W B (.slice (some ⟨g, 0, none⟩) n cap) l) (i : Nat) (hi : i < l.length) (x : G1) :
    OwnG (setG W g i x) B (.slice (some ⟨g, 0, none⟩) n cap) (l.set i x) := by
  obtain ⟨cur, hh, hle, hmx, hcs, htk, hn, hB, hgl⟩ := ownG_cells h
  unfold setG
  refine ownG_mk (heap_setG (heap_setG (heap_setG (heap_setG (heap_setG (heap_setG (heap_setG (heap_setG (heap_setG (heap_setG (heap_setG (heap_setG (hh))))))))))))) hle hmx (by simpa using hcs) ?_ (by simpa using hn) hB (by simpa using hgl)
  apply List.ext_getElem?
  intro j
  rw [List.getElem?_take]
  have hsg := set_get cur (i * 12) (eG x) j (by rw [eG_len]; omega)
  by_cases hj : j < n * 12
  · rw [if_pos hj]
    have hi2 : j / 12 < (l.set i x).length := by rw [List.length_set]; omega
    have e := flatG_get (l.set i x) (j / 12) (j % 12) hi2 (by omega)
    rw [show j / 12 * 12 + j % 12 = j by omega] at e
    rw [e]
    have e0 := flatG_get l (j / 12) (j % 12) (by simpa using hi2) (by omega)
    rw [show j / 12 * 12 + j % 12 = j by omega, ← htk, List.getElem?_take, if_pos hj] at e0
    simp only [Array.getElem?_toList] at e0 ⊢
    rw [eG_len] at hsg
    generalize hR : (if i * 12 ≤ j ∧ j < i * 12 + 12 then (eG x)[j - i * 12]? else cur[j]?) = R at hsg
    simp only [eG, e12, List.zipIdx_cons, List.zipIdx_nil, List.foldl_cons, List.foldl_nil, Nat.add_zero, Nat.zero_add, Nat.reduceAdd] at hsg
    refine Eq.trans hsg ?_
    clear hsg e hh hmx htk hgl hB
    rw [← hR]
    by_cases hji : j / 12 = i
    · subst hji
      rw [List.getElem_set_self, if_pos (by omega)]
      congr 1
      omega
    · rw [List.getElem_set_ne (by omega), ← e0, if_neg (by omega)]
  · rw [if_neg hj, List.getElem?_eq_none (by rw [flatG_len, List.length_set]; omega)]
theorem below_setG {W w : World} {B g : Nat} (h : Below B w W) (hB : B ≤ g) (i : Nat) (x : G1) : Below B w (setG W g i x) := by
  unfold setG
  exact (((((((((((h.setCell (p := ⟨g, i * 12, none⟩) hB _).setCell (p := ⟨g, i * 12 + 1, none⟩) hB _).setCell (p := ⟨g, i * 12 + 2, none⟩) hB _).setCell (p := ⟨g, i * 12 + 3, none⟩) hB _).setCell (p := ⟨g, i * 12 + 4, none⟩) hB _).setCell (p := ⟨g, i * 12 + 5, none⟩) hB _).setCell (p := ⟨g, i * 12 + 6, none⟩) hB _).setCell (p := ⟨g, i * 12 + 7, none⟩) hB _).setCell (p := ⟨g, i * 12 + 8, none⟩) hB _).setCell (p := ⟨g, i * 12 + 9, none⟩) hB _).setCell (p := ⟨g, i * 12 + 10, none⟩) hB _).setCell (p := ⟨g, i * 12 + 11, none⟩) hB _

theorem flatG_take (l : List G1) (k : Nat) : flatG (l.take k) = (flatG l).take (k * 12) := by
  induction l generalizing k with
  | nil => simp [flatG]
  | cons x l ih =>
    cases k with
    | zero => simp [flatG]
    | succ k =>
      rw [List.take_succ_cons]
      show eG x ++ flatG (l.take k) = (eG x ++ flatG l).take ((k + 1) * 12)
      rw [ih, List.take_append, eG_len, List.take_of_length_le (show (eG x).length ≤ (k + 1) * 12 by rw [eG_len]; omega), show (k + 1) * 12 - 12 = k * 12 by omega]
/-- clear(s[k:]) of a row of terms of the call's own: what stands ahead of it stays. -/
theorem ownG_clear {W : World} {B g n cap : Nat} {l : List G1} (h : OwnG W B (.slice (some ⟨g, 0, none⟩) n cap) l) (k : Nat) (hk : k < n) :
    ∃ W', (∀ ty, (Builtin.clear_ #[28] ty #[.slice (some ⟨g, k * 12, none⟩) (n - k) (cap - k)]).run Tryz.prog W = .ok (.tuple #[]) W') ∧ OwnG W' B (.slice (some ⟨g, 0, none⟩) k cap) (l.take k) ∧ Below B W W' := by
  obtain ⟨cur, hh, hle, hmx, hcs, htk, hn, hB, hgl⟩ := ownG_cells h
  let z : Value := .agg #[.int .i64 0, .slice none 0 0, .int .i64 0, .int .i64 0, .int .i64 0, .slice none 0 0, .int .i64 0, .int .i64 0, .int .i64 0, .slice none 0 0, .int .i64 0, .int .i64 0]
  let vs := (Builtin.zeroCells z.cells (n - k)).toList
  have hvl : vs.length = (n - k) * 12 := by simp [vs, Builtin.zeroCells, z, Value.cells]
  have hv1 : ∀ v ∈ vs, v.oneCell' = true := by
    intro v hv
    simp only [vs, Builtin.zeroCells, Array.toList_map, List.mem_map, z, Value.cells] at hv
    obtain ⟨i, _, rfl⟩ := hv
    have hc : i % 12 = 0 ∨ i % 12 = 1 ∨ i % 12 = 2 ∨ i % 12 = 3 ∨ i % 12 = 4 ∨ i % 12 = 5 ∨ i % 12 = 6 ∨ i % 12 = 7 ∨ i % 12 = 8 ∨ i % 12 = 9 ∨ i % 12 = 10 ∨ i % 12 = 11 := by omega
    rcases hc with hc | hc | hc | hc | hc | hc | hc | hc | hc | hc | hc | hc <;> simp [hc, Value.oneCell']
  have hst := run_storeCells_at (P := Tryz.prog) g (k * 12) 36 vs 0 cur W hh (by omega) hv1
  refine ⟨W.setRow g (cur.toList.take (k * 12 + 0) ++ vs ++ cur.toList.drop (k * 12 + 0 + vs.length)).toArray, fun ty => ?_, ?_, ?_⟩
  rotate_left
  · have : (W.setRow g (cur.toList.take (k * 12 + 0) ++ vs ++ cur.toList.drop (k * 12 + 0 + vs.length)).toArray).heap[g]? = some (.cells (cur.toList.take (k * 12 + 0) ++ vs ++ cur.toList.drop (k * 12 + 0 + vs.length)).toArray 36 (0, 0)) := by
      unfold World.setRow
      simp [Array.getElem?_modify, hh]
    refine ownG_mk this (by omega) hmx ?_ ?_ (by rw [List.length_take]; omega) hB (by simpa [World.setRow] using hgl)
    · simp only [List.size_toArray, List.length_append, List.length_take, List.length_drop, Array.length_toList, hvl]
      omega
    · rw [List.toList_toArray, List.append_assoc, Nat.add_zero, List.take_append_of_le_length (by rw [List.length_take, Array.length_toList]; omega), List.take_take, Nat.min_self, flatG_take, ← htk, List.take_take, Nat.min_eq_left (by omega)]
  · refine ⟨rfl, rfl, rfl, by simp [World.setRow], fun b hb => ?_⟩
    unfold World.setRow
    rw [Array.getElem?_modify, if_neg (by omega)]
  · obtain ⟨m, hm⟩ : ∃ m, n - k = m + 1 := ⟨n - k - 1, by omega⟩
    have hz : ∀ w, (zeroValue 36).run Tryz.prog w = .ok z w := fun w => by kernel_rfl
    have hvs : vs = (Builtin.zeroCells z.cells (m + 1)).toList := by rw [← hm]
    rw [hvs] at hst ⊢
    rw [hm]
    simp [Builtin.clear_, run_underlying Tryz.underlying28, hz, hst]

theorem G1.lies.gr {x : G1} {w w' : World} (h : x.lies w) (hg : Gr w w') : x.lies w' := ⟨h.1.gr hg, h.2.1.gr hg, h.2.2.gr hg⟩
set_option maxHeartbeats 1000000 in
theorem isSame_g1 (x y : G1) (w : World) (hx : x.good) (hy : y.good) (h : x.lies w) (h' : y.lies w) :
    Calls Tryz.prog 44 #[.agg (eG x).toArray, .agg (eG y).toArray] w fun e w' => e = .returned (.bool (decide (cmpD x.td3 y.td3 = 0))) ∧ Gr w w' := by
  have C := fun o1 o2 => compareTriples_g1 x y ((w.alloc o1).alloc o2) hx hy (h.gr (gr_alloc (gr_a o1) o2)) (h'.gr (gr_alloc (gr_a o1) o2))
  clear hx hy h h'
  generalize cmpD x.td3 y.td3 = r at *
  unfold eG e12 at *
  go_enter Tryz.func44, Tryz.ntmps44
  go_wp2_with fail
  refine (C _ _).mono ?_
  rintro e w1 ⟨rfl, G⟩
  have HG : Hid (Gr w w1) := gr_trans (gr_alloc (gr_a _) _) G
  clear C G
  by_cases hr : r = 0
  · subst hr
    go_wp2_with fail
    go_ret
    exact ⟨rfl, HG.out⟩
  · have hb : (r == 0) = false := beq_eq_false_iff_ne.2 hr
    go_wp2_with fail
    go_ret
    exact ⟨by simp [hr], HG.out⟩
def fine3 (x : T3) : Prop := x.1.good ∧ x.2.1.good ∧ x.2.2.good
theorem ordP_cmpD : OrdP fine3 cmpD := ⟨ord_cmpD, fun x y hx hy h => by
  unfold cmpD orI at h
  split at h
  · rename_i h1
    split at h
    · rename_i h2
      have e1 := ordP_cmp.2 _ _ hx.1 hy.1 h1
      have e2 := ordP_cmp.2 _ _ hx.2.1 hy.2.1 h2
      have e3 := ordP_cmp.2 _ _ hx.2.2 hy.2.2 h
      exact Prod.ext e1 (Prod.ext e2 e3)
    · contradiction
  · contradiction⟩

/-- What is kept of the first m of triples that ascend. -/
structure CmpG (l0 : List G1) (m : Nat) (p : List G1) : Prop where
  asc : (p.map G1.td3).Pairwise (fun x y => cmpD x y < 0)
  mem : ∀ t, t ∈ p.map G1.td3 ↔ t ∈ (l0.take m).map G1.td3
  sub : ∀ y ∈ p, y ∈ l0
  len : p.length ≤ m
  last : ∀ x, l0[m - 1]? = some x → ∀ y ∈ p, cmpD y.td3 x.td3 ≤ 0
theorem CmpG.same {l0 : List G1} {m : Nat} {p : List G1} (h : CmpG l0 m p) (hg : ∀ y ∈ l0, fine3 y.td3) (hm : 1 ≤ m) {x x' : G1} (hx : l0[m]? = some x) (hx' : l0[m - 1]? = some x') (e : cmpD x.td3 x'.td3 = 0) : CmpG l0 (m + 1) p := by
  have et : x.td3 = x'.td3 := ordP_cmpD.2 x.td3 x'.td3 (hg x (List.mem_of_getElem? hx)) (hg x' (List.mem_of_getElem? hx')) e
  refine ⟨h.asc, fun t => ?_, h.sub, by have := h.len; omega, fun y hy z hz => ?_⟩
  · rw [h.mem, List.take_add_one, hx, List.map_append, List.mem_append]
    simp only [Option.toList_some, List.map_cons, List.map_nil, List.mem_cons, List.not_mem_nil, or_false]
    constructor
    · exact .inl
    · rintro (h | h)
      · exact h
      · rw [h, et]
        refine List.mem_map_of_mem (f := G1.td3) (List.mem_of_getElem? (i := m - 1) ?_)
        rw [List.getElem?_take, if_pos (by omega), hx']
  · rw [Nat.add_sub_cancel, hx] at hy
    cases hy
    rw [et]
    exact h.last x' hx' z hz
theorem CmpG.more {l0 : List G1} {m : Nat} {p : List G1} (h : CmpG l0 m p) {x x' : G1} (hx : l0[m]? = some x) (hx' : l0[m - 1]? = some x') (hle : cmpD x'.td3 x.td3 ≤ 0) (e : ¬ cmpD x.td3 x'.td3 = 0) : CmpG l0 (m + 1) (p ++ [x]) := by
  have hlt : ∀ y ∈ p, cmpD y.td3 x.td3 < 0 := fun y hy => by
    have h1 := h.last x' hx' y hy
    have h2 := ord_cmpD.trans _ _ _ h1 hle
    have a1 := ord_cmpD.anti x.td3 x'.td3
    have a2 := ord_cmpD.anti x.td3 y.td3
    apply Classical.byContradiction
    intro h3
    have := ord_cmpD.trans x.td3 y.td3 x'.td3 (by omega) h1
    omega
  refine ⟨?_, fun t => ?_, fun y hy => ?_, by have := h.len; simp; omega, fun y hy z hz => ?_⟩
  · rw [List.map_append, List.pairwise_append]
    refine ⟨h.asc, by simp, fun a ha b hb => ?_⟩
    simp only [List.map_cons, List.map_nil, List.mem_cons, List.not_mem_nil, or_false] at hb
    subst hb
    obtain ⟨y, hy, rfl⟩ := List.mem_map.1 ha
    exact hlt y hy
  · rw [List.map_append, List.mem_append, h.mem, List.take_add_one, hx, List.map_append, List.mem_append]
    simp
  · rcases List.mem_append.1 hy with hy | hy
    · exact h.sub y hy
    · simp only [List.mem_cons, List.not_mem_nil, or_false] at hy
      subst hy
      exact List.mem_of_getElem? hx
  · rw [Nat.add_sub_cancel, hx] at hy
    cases hy
    rcases List.mem_append.1 hz with hz | hz
    · exact Int.le_of_lt (hlt z hz)
    · simp only [List.mem_cons, List.not_mem_nil, or_false] at hz
      subst hz
      have := ord_cmpD.self z.td3
      omega
theorem CmpG.one {l0 : List G1} {x : G1} (hx : l0[0]? = some x) : CmpG l0 1 (l0.take 1) := by
  have e : l0.take 1 = [x] := by
    cases l0 with
    | nil => cases hx
    | cons y l => simp at hx; subst hx; rfl
  rw [e]
  refine ⟨by simp, fun t => by rw [e], fun y hy => ?_, by simp, fun y hy z hz => ?_⟩
  · simp only [List.mem_cons, List.not_mem_nil, or_false] at hy
    subst hy
    exact List.mem_of_getElem? hx
  · rw [Nat.sub_self, hx] at hy
    cases hy
    simp only [List.mem_cons, List.not_mem_nil, or_false] at hz
    subst hz
    have := ord_cmpD.self z.td3
    omega
end Go.Proofs.YtoclingolfdfeaaGreatDoor

/- LxN -/
namespace Go.Proofs.YtoclingolfdfeaaGreatDoor
open Go.RowKit Go.Deep
set_option maxRecDepth 100000

/-- What l2ownTerm answers. -/
def OwnTA (t : Tm) (b : List Int) (w : World) (e : Ending) (w' : World) : Prop :=
  ∃ g c, e = .returned (.agg #[.int .i64 t.k, .slice (some ⟨g, 0, none⟩) t.len c, .int .i64 t.n, .int .i64 t.s]) ∧ Tz w' w.heap.size (some ⟨g, 0, none⟩) t.len c b ∧ Below w.heap.size w w'
set_option maxHeartbeats 4000000 in
theorem l2ownTerm_z (t : Tm) (b : List Int) (w : World) (hB : Bs w t.a t.len b) (hl : t.len ≤ 100000) :
    Calls Tryz.prog 82 #[.agg #[.int .i64 t.k, .slice t.a t.len t.cap, .int .i64 t.n, .int .i64 t.s]] w (OwnTA t b w) := by
  obtain ⟨k, a, len, cap, n, s⟩ := t
  have hB : Bs w a len b := hB
  have hl : len ≤ 100000 := hl
  show Calls Tryz.prog 82 #[.agg #[.int .i64 k, .slice a len cap, .int .i64 n, .int .i64 s]] w _
  have HW3 : Hid (Below w.heap.size w (((w.alloc (.cells #[.int .i64 k, .slice a len cap, .int .i64 n, .int .i64 s] 24)).alloc (.cells #[.int .i64 0, .slice none 0 0, .int .i64 0, .int .i64 0] 24)).alloc (.cells #[] 5))) := bl_alloc (bl_alloc (bl_a _) _) _
  have HTX : Hid (Tz (((w.alloc (.cells #[.int .i64 k, .slice a len cap, .int .i64 n, .int .i64 s] 24)).alloc (.cells #[.int .i64 0, .slice none 0 0, .int .i64 0, .int .i64 0] 24)).alloc (.cells #[] 5)) (w.heap.size + 1 + 1) (some ⟨w.heap.size + 1 + 1, 0, none⟩) 0 0 []) := Tz.new0at _ _ (by simp)
  have HSX : Hid (Src Tryz.prog 1 22 (.slice a len cap) len (b.map (Value.int .u8)) (((w.alloc (.cells #[.int .i64 k, .slice a len cap, .int .i64 n, .int .i64 s] 24)).alloc (.cells #[.int .i64 0, .slice none 0 0, .int .i64 0, .int .i64 0] 24)).alloc (.cells #[] 5))) := src_bs (hB.below HW3.out)
  have HYX : Hid (Byt ([] ++ b)) := by
    show Byt _
    rw [List.nil_append]
    exact byt_of_bs hB
  have hBX : w.heap.size + 1 + 1 ≤ (((w.alloc (.cells #[.int .i64 k, .slice a len cap, .int .i64 n, .int .i64 s] 24)).alloc (.cells #[.int .i64 0, .slice none 0 0, .int .i64 0, .int .i64 0] 24)).alloc (.cells #[] 5)).heap.size := by simp
  have HA : Hid (Bx (((w.alloc (.cells #[.int .i64 k, .slice a len cap, .int .i64 n, .int .i64 s] 24)).alloc (.cells #[.int .i64 0, .slice none 0 0, .int .i64 0, .int .i64 0] 24)).alloc (.cells #[] 5)) w.heap.size [.int .i64 k, .slice a len cap, .int .i64 n, .int .i64 s]) := ((Bx.new w _ _ 24 rfl).below (bl_a _)).below (bl_a _)
  have HR : Hid (Bx (((w.alloc (.cells #[.int .i64 k, .slice a len cap, .int .i64 n, .int .i64 s] 24)).alloc (.cells #[.int .i64 0, .slice none 0 0, .int .i64 0, .int .i64 0] 24)).alloc (.cells #[] 5)) (w.heap.size + 1) [.int .i64 0, .slice none 0 0, .int .i64 0, .int .i64 0]) := (Bx.new (w.alloc (.cells #[.int .i64 k, .slice a len cap, .int .i64 n, .int .i64 s] 24)) _ _ 24 (by simp)).below (bl_a _)
  clear hB
  go_enter Tryz.func82, Tryz.ntmps82
  go_wp2_with (refine list_app8z rfl (.tmp 3) (.tmp 5) 22 rfl (w.heap.size + 1 + 1) 0 0 (some ⟨w.heap.size + 1 + 1, 0, none⟩) [] rfl HTX (.slice a len cap) len b rfl (fun h => by cases h) HSX HYX len (Nat.zero_add _) b (List.nil_append _) (by omega) hBX ?_; intro g4 c4 w4 HT4 HD4; have HA4 : Hid (Bx w4 w.heap.size [.int .i64 k, .slice a len cap, .int .i64 n, .int .i64 s]) := HA.out.belowB HD4.out (by omega); have HR4 : Hid (Bx w4 (w.heap.size + 1) [.int .i64 0, .slice none 0 0, .int .i64 0, .int .i64 0]) := HR.out.belowB HD4.out (by omega); have q0 := HA4.out.c 0 _ rfl; have q1 := HA4.out.c 1 _ rfl; have q2 := HA4.out.c 2 _ rfl; have q3 := HA4.out.c 3 _ rfl; have qf1 := HA4.out.f 1 (by simp); have r0 := HR4.out.c 0 _ rfl; have r1 := HR4.out.c 1 _ rfl; have r2 := HR4.out.c 2 _ rfl; have r3 := HR4.out.c 3 _ rfl; have rf0 := HR4.out.f 0 (by simp); have rf1 := HR4.out.f 1 (by simp); have rf2 := HR4.out.f 2 (by simp); have rf3 := HR4.out.f 3 (by simp))
  refine bodyPost_ret (v := .agg #[.int .i64 k, .slice (some ⟨g4, 0, none⟩) len c4, .int .i64 n, .int .i64 s]) (by simp [results, Tryz.results82, go_sem, *]) rfl ⟨g4, c4, rfl, ?_, ?_⟩
  · have h5 := HT4.out.past ((Past.refl w.heap.size w4).set 1 (.slice (some ⟨g4, 0, none⟩) len c4)) (by omega)
    exact (h5.past (((((Past.refl (w.heap.size + 1) _).set 0 _).set 1 _).set 2 _).set 3 _) (by omega)).mono (by omega)
  · have h5 : Below w.heap.size w w4 := HW3.out.trans (HD4.out.mono (by omega))
    exact bl_set (bl_set (bl_set (bl_set (bl_set h5 (Nat.le_refl _) _) (by show w.heap.size ≤ w.heap.size + 1; omega) _) (by show w.heap.size ≤ w.heap.size + 1; omega) _) (by show w.heap.size ≤ w.heap.size + 1; omega) _) (by show w.heap.size ≤ w.heap.size + 1; omega) _
end Go.Proofs.YtoclingolfdfeaaGreatDoor
