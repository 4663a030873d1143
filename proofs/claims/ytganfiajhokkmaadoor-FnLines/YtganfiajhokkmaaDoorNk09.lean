/- Texts put together: GtxA TbF TbG TbH TbQ TbI TbJ -/
import Derived.Test.YtganfiajhokkmaaDoorNk08
import Derived.Test.YtganfiajhokkmaaDoorNk07
import Derived.Test.YtganfiajhokkmaaDoorNk04
import Derived.Test.YtganfiajhokkmaaDoorNk01
import Derived.Deep.RegionHeld3
import Derived.Deep.RegionWith
import Derived.Lib.AppendStr
/- GtxA -/
namespace Go.Proofs.YtganfiajhokkmaaDoor
open Go.RowKit Go.Deep
set_option maxRecDepth 100000

/-- What a term shows as, by its parts. -/
def Tm.show (t : Tm) (b : List Int) : List Int := showL t.k t.n t.s b
theorem Tm.show_len {t : Tm} {b : List Int} (h : termOk t.k b t.n t.s = true) : 1 ≤ (t.show b).length ∧ (t.show b).length ≤ 64 := showL_len h
/-- A row of bytes of the call's own, or none as yet. -/
def Own8 (w : World) (B : Nat) (v : Value) (n : Nat) (bs : List Int) : Prop := w.ownsRow B 5 1 v n (bs.map (Value.int .u8)) ∧ ∀ g, v.ownBlock = some g → B ≤ g ∧ g < w.heap.size
theorem Own8.nil (w : World) (B : Nat) : Own8 w B (.slice none 0 0) 0 [] := ⟨World.ownsRow_nil _ _ _ _, fun g h => by cases h⟩
theorem Own8.below {w w' : World} {B n : Nat} {v : Value} {bs : List Int} (h : Own8 w B v n bs) (hb : Below w.heap.size w w') : Own8 w' B v n bs := by
  obtain ⟨⟨h1, h2⟩, hl⟩ := h
  refine ⟨⟨h1, ?_⟩, fun g hg => ⟨(hl g hg).1, Nat.lt_of_lt_of_le (hl g hg).2 hb.size⟩⟩
  rcases h2 with h2 | ⟨g', cap', cur, hv, hB, hh, r⟩
  · exact .inl h2
  · refine .inr ⟨g', cap', cur, hv, hB, ?_, r⟩
    have := (hl g' (by rw [hv]; rfl)).2
    rw [hb.block g' this]
    exact hh
theorem Row8.own8 {w : World} {B g n cap : Nat} {bs : List Int} (h : Row8 w B g n cap bs) : Own8 w B (.slice (some ⟨g, 0, none⟩) n cap) n bs := by
  refine ⟨h.1, fun g' hg => ?_⟩
  have : g = g' := by simpa [Value.ownBlock] using hg
  subst this
  exact ⟨h.ge, h.2⟩
theorem Own8.len {w : World} {B n : Nat} {v : Value} {bs : List Int} (h : Own8 w B v n bs) : bs.length = n := by simpa using h.1.1
/-- A row that is told. -/
theorem Own8.nw {w : World} {B n : Nat} {v : Value} {bs : List Int} (h : Own8 w B v n bs) (hb : Byt bs) (hl : n ≤ 1048576) : ∃ a cap, v = .slice a n cap ∧ Nw w B a n bs := by
  rcases h.1.2 with ⟨hv, h0⟩ | ⟨g, cap, cur, hv, hB, hh⟩
  · subst h0
    have hz := h.len
    exact ⟨none, 0, hv, .inl ⟨rfl, rfl, List.eq_nil_of_length_eq_zero hz⟩⟩
  · subst hv
    have hr : Row8 w B g n cap bs := ⟨h.1, (h.2 g rfl).2⟩
    exact ⟨_, cap, rfl, hr.nw hb hl⟩

/-- append of a constant text's bytes. -/
theorem app8s {ops : Array Oper} {rest : List Oper} {o : Oper} {a : Act} {Q : Exit → Act → World → Prop} {w : World} (hgd : o.guard = none) (s x : Operand)
    (ho : o.op = .call { callee := .builtin .append, args := #[s, x], argTypes := #[22, 9] })
    (B : Nat) (v : Value) (n : Nat) (us : List Int) (hs : a.eval s = v) (HO : Hid (Own8 w B v n us))
    (st : ByteArray) (hx : a.eval x = .string st) (hm : 0 < st.size) (N : Nat) (hN : n + st.size = N) (zs : List Int) (hz : us ++ numsOf st = zs) (hle : N ≤ 1000000000) (hB : B ≤ w.heap.size)
    (h : ∀ g cap w', Hid (Row8 w' B g N cap zs) → Hid (Below B w w') → wpList Tryd.prog ops Q rest (a.put o.dst (.slice (some ⟨g, 0, none⟩) N cap)) w') :
    wpList Tryd.prog ops Q (o :: rest) a w := by
  obtain ⟨i0, hi0, hzz⟩ := Option.map_eq_some_iff.1 Tryd.info5
  simp only [Prod.mk.injEq] at hzz
  obtain ⟨hi2, hi1, hi3⟩ := hzz
  subst hN hz
  refine Lib.wpList_append_own_string _ hgd s x 22 9 ho B 5 i0 Tryd.underlying22 Tryd.underlying9 hi0 hi2 hi1 hi3 v n (us.map (Value.int .u8)) hs HO.out.1 st hx (by unfold maxLen; omega) (by omega) hB ?_
  intro v' w' hown hgr _
  obtain ⟨g, cap, rfl, hBg, hlt⟩ := hown.form (by omega)
  have es : Lib.strCells st = (numsOf st).map (Value.int .u8) := by simp [Lib.strCells, numsOf]
  rw [es] at hown
  refine h g cap w' (Row8.grown hown rfl hlt) ?_
  rcases HO.out.1.2 with ⟨hv, _⟩ | ⟨g0, c0, cur, hv, hb, _⟩
  · subst hv
    exact below_nil hgr hB
  · subst hv
    exact grown_below (g := g0) hgr hb hB
end Go.Proofs.YtganfiajhokkmaaDoor

/- TbF -/
namespace Go.Proofs.YtganfiajhokkmaaDoor
open Go.RowKit Go.Deep
set_option maxRecDepth 100000

theorem hidQ {P : Prop} (h : P) : Hid P := h
end Go.Proofs.YtganfiajhokkmaaDoor

/- TbG -/
namespace Go.Proofs.YtganfiajhokkmaaDoor
open Go.RowKit Go.Deep
set_option maxRecDepth 100000

/-- What a cell shows as. -/
def cellTx (x : CB) : List Int := if x.has = true then x.t.t.show x.t.b ++ [32] else [45, 32]
/-- The variables' line, the first i of them. -/
def lineV (var : Nat → SL) : Nat → List Int
  | 0 => []
  | i + 1 => lineV var i ++ 63 :: ((var i).b ++ [32])
/-- A row's line, the first i cells. -/
def lineC (cel : Nat → CB) : Nat → List Int
  | 0 => []
  | i + 1 => lineC cel i ++ cellTx (cel i)
/-- The first i rows. -/
def rowsTx (row : Nat → SO) : Nat → List Int
  | 0 => []
  | i + 1 => rowsTx row i ++ (lineC (row i).cel (row i).n ++ [10])
/-- What is there ahead of row i. -/
def upTo (t : TL) (i : Nat) : List Int := lineV t.var t.vn ++ [10] ++ rowsTx t.row i
def tabTx (t : TL) : List Int := upTo t t.rn
theorem name_len {b : List Int} (h : nameOk b = true) : 1 ≤ b.length ∧ b.length ≤ 12 := by
  simp [nameOk] at h
  omega
theorem cellTx_len {x : CB} (h : cellOk x) : (cellTx x).length ≤ 65 := by
  unfold cellTx
  split
  · rename_i hh
    have h2 := (Tm.show_len (t := x.t.t) (b := x.t.b) (h.1 hh)).2
    simp
    omega
  · simp
theorem lineV_len {var : Nat → SL} (n : Nat) (h : ∀ i, i < n → varOk var i) : (lineV var n).length ≤ n * 14 := by
  induction n with
  | zero => simp [lineV]
  | succ n ih =>
    have h1 := ih (fun i hi => h i (by omega))
    have h2 := name_len (h n (by omega)).1
    simp only [lineV, List.length_append, List.length_cons, List.length_nil]
    omega
theorem lineC_len {cel : Nat → CB} (n : Nat) (h : ∀ i, i < n → cellOk (cel i)) : (lineC cel n).length ≤ n * 65 := by
  induction n with
  | zero => simp [lineC]
  | succ n ih =>
    have h1 := ih (fun i hi => h i (by omega))
    have h2 := cellTx_len (h n (by omega))
    simp only [lineC, List.length_append]
    omega
theorem rowsTx_len {row : Nat → SO} {m : Nat} (hm : m ≤ 8) (n : Nat) (h : ∀ i, i < n → solOk (row i) m) : (rowsTx row n).length ≤ n * 521 := by
  induction n with
  | zero => simp [rowsTx]
  | succ n ih =>
    have h1 := ih (fun i hi => h i (by omega))
    have h3 := h n (by omega)
    have h2 := lineC_len (row n).n h3.2
    have h4 := h3.1
    have h5 : (row n).n * 65 ≤ 520 := by rw [h4]; omega
    simp only [rowsTx, List.length_append, List.length_cons, List.length_nil]
    omega
theorem upTo_len {t : TL} (h : tabOk t) (k : Nat) (hk : k ≤ t.rn) : (upTo t k).length ≤ 113 + k * 521 := by
  have h1 := lineV_len t.vn h.1.2
  have h2 := h.1.1
  have h3 := rowsTx_len h2 k (fun i hi => h.2.2 i (by omega))
  unfold upTo
  simp only [List.length_append, List.length_cons, List.length_nil]
  omega
theorem lineV_byt {var : Nat → SL} (n : Nat) (h : ∀ i, i < n → Byt (var i).b) : Byt (lineV var n) := by
  induction n with
  | zero => exact Byt.nil
  | succ n ih => exact (ih fun i hi => h i (by omega)).app (Byt.cons (by omega) ((h n (by omega)).app (Byt.cons (by omega) Byt.nil)))
theorem cellTx_byt {x : CB} (h : Byt x.t.b) : Byt (cellTx x) := by
  unfold cellTx
  split
  · exact (showL_byt h).app (Byt.cons (by omega) Byt.nil)
  · exact Byt.cons (by omega) (Byt.cons (by omega) Byt.nil)
theorem lineC_byt {cel : Nat → CB} (n : Nat) (h : ∀ i, i < n → Byt (cel i).t.b) : Byt (lineC cel n) := by
  induction n with
  | zero => exact Byt.nil
  | succ n ih => exact (ih fun i hi => h i (by omega)).app (cellTx_byt (h n (by omega)))
theorem rowsTx_byt {row : Nat → SO} (n : Nat) (h : ∀ i, i < n → ∀ j, j < (row i).n → Byt ((row i).cel j).t.b) : Byt (rowsTx row n) := by
  induction n with
  | zero => exact Byt.nil
  | succ n ih => exact (ih fun i hi => h i (by omega)).app ((lineC_byt _ (h n (by omega))).app (Byt.cons (by omega) Byt.nil))
theorem tabTx_byt {t : TL} {w : World} (h : t.lies 0 w) : Byt (tabTx t) :=
  ((lineV_byt t.vn fun i hi => (h.2.1 i hi).1.byt).app (Byt.cons (by omega) Byt.nil)).app (rowsTx_byt t.rn fun i hi j hj => ((h.2.2.2.2.1 i hi).2.1 j hj).1.1.byt)
end Go.Proofs.YtganfiajhokkmaaDoor

/- TbH -/
namespace Go.Proofs.YtganfiajhokkmaaDoor
open Go.RowKit Go.Deep
set_option maxRecDepth 100000

/-- What TableText answers. -/
def TabAns (t : TL) (w : World) (e : Ending) (w' : World) : Prop := ∃ bs, ((tabOk t ∧ bs = tabTx t) ∨ (¬ tabOk t ∧ bs = [])) ∧ TxRes w bs e w'
theorem TabAns.no {t : TL} {w w' : World} (h : ¬ tabOk t) (hb : Below w.heap.size w w') : TabAns t w (.returned (.slice none 0 0)) w' := ⟨[], .inr ⟨h, rfl⟩, none, 0, rfl, Nw.nil _ _, hb⟩
end Go.Proofs.YtganfiajhokkmaaDoor

/- TbQ -/
namespace Go.Proofs.YtganfiajhokkmaaDoor
open Go.RowKit Go.Deep
set_option maxRecDepth 100000

/-- No byte below 32 is in it. -/
def Prn (l : List Int) : Prop := ∀ x ∈ l, 32 ≤ x
theorem Prn.nil : Prn [] := fun x hx => by cases hx
theorem Prn.cons {x : Int} {l : List Int} (h : 32 ≤ x) (k : Prn l) : Prn (x :: l) := fun y hy => by
  rcases List.mem_cons.1 hy with rfl | hy
  · exact h
  · exact k y hy
theorem Prn.app {l m : List Int} (h : Prn l) (k : Prn m) : Prn (l ++ m) := fun y hy => by
  rcases List.mem_append.1 hy with hy | hy
  · exact h y hy
  · exact k y hy
theorem Prn.none {l : List Int} (h : Prn l) : l.count 10 = 0 := by
  refine List.count_eq_zero.2 fun hm => ?_
  have := h 10 hm
  omega
theorem prn_name {b : List Int} (h : nameOk b = true) : Prn b := by
  intro x hx
  simp only [nameOk, Bool.and_eq_true, List.all_eq_true] at h
  have := h.2 x hx
  simp only [letter, digit, Bool.or_eq_true, Bool.and_eq_true, decide_eq_true_eq] at this
  omega
theorem prn_text {b : List Int} (h : textOk b = true) : Prn b := by
  intro x hx
  simp only [textOk, Bool.and_eq_true, List.all_eq_true] at h
  have := h.2 x hx
  simp only [plainB, Bool.and_eq_true, decide_eq_true_eq] at this
  omega
theorem prn_digits (n : Nat) : Prn (digitsL n) := by
  induction n using Nat.strongRecOn with
  | ind n ih =>
    by_cases h : n < 10
    · rw [digitsL_small h]
      exact Prn.cons (by omega) Prn.nil
    · rw [digitsL_step h]
      exact (ih (n / 10) (by omega)).app (Prn.cons (by omega) Prn.nil)
theorem prn_esc {bs : List Int} (h : Prn bs) : Prn (esc bs) := by
  intro x hx
  unfold esc at hx
  obtain ⟨b, hb, hx⟩ := List.mem_flatMap.1 hx
  have := h b hb
  split at hx
  · simp at hx
    rcases hx with rfl | rfl
    · omega
    · exact this
  · simp at hx
    subst hx
    exact this
theorem prn_num (n : Int) (s : Nat) : Prn (numL n s) := by
  unfold numL
  refine (prn_digits _).app ?_
  split
  · exact Prn.nil
  · refine Prn.cons (by omega) (Prn.app (fun x hx => ?_) (prn_digits _))
    have := (List.mem_replicate.1 hx).2
    omega
theorem prn_show {k n s : Int} {bs : List Int} (h : termOk k bs n s = true) : Prn (showL k n s bs) := by
  unfold termOk at h
  unfold showL
  by_cases h0 : k = 0
  · rw [if_pos h0] at h ⊢
    simp only [Bool.and_eq_true] at h
    exact Prn.cons (by omega) ((prn_name h.1.1).app (Prn.cons (by omega) Prn.nil))
  rw [if_neg h0] at h ⊢
  by_cases h1 : k = 1
  · rw [if_pos h1]
    exact Prn.cons (by omega) (Prn.cons (by omega) (prn_digits _))
  rw [if_neg h1] at h ⊢
  by_cases h2 : k = 2
  · rw [if_pos h2] at h ⊢
    simp only [Bool.and_eq_true] at h
    exact Prn.cons (by omega) ((prn_esc (prn_text h.1.1)).app (Prn.cons (by omega) Prn.nil))
  rw [if_neg h2]
  split
  · exact Prn.cons (by omega) (prn_num _ _)
  · exact prn_num _ _
theorem prn_cell {x : CB} (h : cellOk x) : Prn (cellTx x) := by
  unfold cellTx
  split
  · rename_i hh
    exact (prn_show (h.1 hh)).app (Prn.cons (by omega) Prn.nil)
  · exact Prn.cons (by omega) (Prn.cons (by omega) Prn.nil)
theorem prn_lineV {var : Nat → SL} (n : Nat) (h : ∀ i, i < n → varOk var i) : Prn (lineV var n) := by
  induction n with
  | zero => exact Prn.nil
  | succ n ih => exact (ih (fun i hi => h i (by omega))).app (Prn.cons (by omega) ((prn_name (h n (by omega)).1).app (Prn.cons (by omega) Prn.nil)))
theorem prn_lineC {cel : Nat → CB} (n : Nat) (h : ∀ i, i < n → cellOk (cel i)) : Prn (lineC cel n) := by
  induction n with
  | zero => exact Prn.nil
  | succ n ih => exact (ih (fun i hi => h i (by omega))).app (prn_cell (h n (by omega)))
theorem rows_count {row : Nat → SO} {m : Nat} (n : Nat) (h : ∀ i, i < n → solOk (row i) m) : (rowsTx row n).count 10 = n := by
  induction n with
  | zero => rfl
  | succ n ih =>
    have h1 := ih (fun i hi => h i (by omega))
    have h2 := (prn_lineC _ (h n (by omega)).2).none
    simp only [rowsTx, List.count_append]
    rw [h1, h2]
    simp
/-- A table's text has a line more than rows. -/
theorem tab_count {t : TL} (h : tabOk t) : (tabTx t).count 10 = t.rn + 1 := by
  unfold tabTx upTo
  simp only [List.count_append]
  rw [(prn_lineV _ h.1.2).none, rows_count _ h.2.2]
  simp
  omega
theorem tab_some (t : TL) : tabTx t ≠ [] := by
  unfold tabTx upTo
  simp
/-- The empty table may be. -/
theorem tab_empty {t : TL} (h : t.vn = 0) (k : t.rn = 0) : tabOk t := ⟨⟨by omega, fun i hi => absurd hi (by omega)⟩, by omega, fun i hi => absurd hi (by omega)⟩
theorem tab_empty_text {t : TL} (h : t.vn = 0) (k : t.rn = 0) : tabTx t = [10] := by
  unfold tabTx upTo
  rw [h, k]
  rfl
end Go.Proofs.YtganfiajhokkmaaDoor

/- TbI -/
namespace Go.Proofs.YtganfiajhokkmaaDoor
open Go.RowKit Go.Deep
set_option maxRecDepth 100000

theorem cellOkP_any (x : CB) (w : World) (h : x.lies 0 w) : Calls Tryd.prog 37 #[.agg #[.bool x.has, .int .i64 x.t.t.k, .slice x.t.t.a x.t.t.len x.t.t.cap, .int .i64 x.t.t.n, .int .i64 x.t.t.s]] w (Tells (cellOk x) w) := by
  have HT : Hid (∀ W, Below w.heap.size w W → Calls Tryd.prog 38 #[.agg #[.int .i64 x.t.t.k, .slice x.t.t.a x.t.t.len x.t.t.cap, .int .i64 x.t.t.n, .int .i64 x.t.t.s]] W (Tells (x.t.td.ok = true) W)) := fun W hb => (implTermOk_any x.t.t.k x.t.t.n x.t.t.s x.t.t.a x.t.t.len x.t.t.cap x.t.b W (h.1.upper (Upper.of_below hb)).1 h.2.1 h.2.2.1 h.2.2.2.1 h.2.2.2.2).mono fun e w' ⟨h1, h2⟩ => ⟨_, h1, Iff.rfl, h2⟩
  have HZ : Hid (∀ W, Below w.heap.size w W → Calls Tryd.prog 49 #[.agg #[.int .i64 x.t.t.k, .slice x.t.t.a x.t.t.len x.t.t.cap, .int .i64 x.t.t.n, .int .i64 x.t.t.s]] W (Tells (zeroT x.t.td) W)) := fun W hb => isZeroT_any x.t W (h.1.upper (Upper.of_below hb))
  clear h
  obtain ⟨P, hP⟩ : ∃ P, P = cellOk x := ⟨_, rfl⟩
  have HP : Hid (P ↔ ((x.has = true → x.t.td.ok = true) ∧ (x.has = false → zeroT x.t.td))) := (show (P ↔ _) by rw [hP]; exact Iff.rfl)
  rw [← hP]
  clear hP
  cases hh : x.has with
  | true =>
    have HP2 : Hid (P ↔ x.t.td.ok = true) := ⟨fun h => (HP.out.1 h).1 hh, fun h => HP.out.2 ⟨fun _ => h, fun h2 => (by rw [hh] at h2; cases h2)⟩⟩
    clear hh HP
    go_enter Tryd.func37, Tryd.ntmps37
    go_wp2_with fail
    refine (HT.out _ (bl_a _)).mono ?_
    rintro e w1 ⟨q1, rfl, hq1, hb1⟩
    have HB : Hid (Below w.heap.size w w1) := bl_trans (bl_a _) hb1
    have HQ : Hid (q1 = true ↔ P) := (show (q1 = true ↔ P) from hq1.trans HP2.out.symm)
    clear hq1 hb1
    go_wp2_with fail
    go_ret
    exact Tells.of HQ.out HB.out
  | false =>
    have HP2 : Hid (P ↔ zeroT x.t.td) := ⟨fun h => (HP.out.1 h).2 hh, fun h => HP.out.2 ⟨fun h2 => (by rw [hh] at h2; cases h2), fun _ => h⟩⟩
    clear hh HP
    go_enter Tryd.func37, Tryd.ntmps37
    go_wp2_with fail
    refine (HZ.out _ (bl_a _)).mono ?_
    rintro e w1 ⟨q1, rfl, hq1, hb1⟩
    have HB : Hid (Below w.heap.size w w1) := bl_trans (bl_a _) hb1
    have HQ : Hid (q1 = true ↔ P) := (show (q1 = true ↔ P) from hq1.trans HP2.out.symm)
    clear hq1 hb1
    go_wp2_with fail
    go_ret
    exact Tells.of HQ.out HB.out
theorem noCell_any (x : CB) (w : World) (h : x.lies 0 w) : Calls Tryd.prog 36 #[.agg #[.bool x.has, .int .i64 x.t.t.k, .slice x.t.t.a x.t.t.len x.t.t.cap, .int .i64 x.t.t.n, .int .i64 x.t.t.s]] w (Tells (¬ cellOk x) w) := by
  have HP : Hid (∀ W, Below w.heap.size w W → Calls Tryd.prog 37 #[.agg #[.bool x.has, .int .i64 x.t.t.k, .slice x.t.t.a x.t.t.len x.t.t.cap, .int .i64 x.t.t.n, .int .i64 x.t.t.s]] W (Tells (cellOk x) W)) := fun W hb => cellOkP_any x W (h.upper (Upper.of_below hb))
  clear h
  go_enter Tryd.func36, Tryd.ntmps36
  go_wp2_with fail
  refine (HP.out _ (bl_a _)).mono ?_
  rintro e w1 ⟨q1, rfl, hq1, hb1⟩
  have HB : Hid (Below w.heap.size w w1) := bl_trans (bl_a _) hb1
  have HE : Hid ((!q1) = true ↔ ¬ cellOk x) := (show ((!q1) = true ↔ _) by
    rw [← hq1]
    cases q1 <;> simp)
  clear hq1 hb1 HP
  go_wp2_with fail
  go_ret
  exact Tells.of HE.out HB.out
set_option maxHeartbeats 4000000 in
theorem indexCell_any (a : Option Addr) (n cap : Nat) (f : Nat → CB)  (w : World) (hn : n ≤ 1048576) (hR : KRow 0 w 5 a n (fun i => (f i).cells)) (hk : ∀ i, i < n → (f i).lies 0 w)  :
    Calls Tryd.prog 48 #[.slice a n cap, .func (.func 36) #[] #[]] w (IdxAns (∀ i, i < n → cellOk (f i)) w) := by
  have HNP : Hid (∀ i, i < n → ∀ W, Below w.heap.size w W → Calls Tryd.prog 36 #[.agg #[.bool (f i).has, .int .i64 (f i).t.t.k, .slice (f i).t.t.a (f i).t.t.len (f i).t.t.cap, .int .i64 (f i).t.t.n, .int .i64 (f i).t.t.s]] W (Tells (¬ cellOk (f i)) W)) := fun i hi W hb => noCell_any (f i) W ((hk i hi).upper (Upper.of_below hb))
  by_cases hn1 : n = 0
  · subst hn1
    clear hR hk 
    go_enter Tryd.func48, Tryd.ntmps48
    go_wp2_with fail
    go_loopw [8] (fun i wr => i = .int .i64 0 ∧ Hid (Below w.heap.size w wr)) (fun _ _ => 0)
    case atStart => exact ⟨rfl, Below.refl _ _⟩
    case round =>
      obtain ⟨rfl, HB⟩ := hrel
      go_wp2_with fail
      go_ret
      exact IdxAns.of ⟨fun h => absurd h (by decide), fun h => absurd (fun i hi => absurd hi (Nat.not_lt_zero _)) h⟩ HB.out
  obtain ⟨b, off, rfl, _, hbk, hc⟩ := hR.resolve_left hn1
  have HCK : Hid (∀ i, i < n → ∀ c u, ((f i).cells)[c]? = some u → w.cell? ⟨b, off + i * 5 + c, none⟩ = some u) := hc
  clear hc hR hk hn1 
  go_enter Tryd.func48, Tryd.ntmps48
  go_wp2_with fail
  go_loopw [8] (fun i wr => ∃ k : Nat, k ≤ n ∧ i = .int .i64 k ∧ Hid (∀ j, j < k → cellOk (f j)) ∧ Hid (Below w.heap.size w wr)) (fun i _ => n - (intOf i).toNat)
  case atStart => exact ⟨0, Nat.zero_le _, rfl, fun j hj => absurd hj (Nat.not_lt_zero _), Below.refl _ _⟩
  case round =>
    obtain ⟨k, hk, rfl, HOK, HB⟩ := hrel
    by_cases hlk : k < n
    rotate_left
    · obtain rfl : k = n := by omega
      have hlkz : ¬ (k : Int) < (k : Int) := by omega
      go_wp2_with fail
      go_ret
      exact IdxAns.of ⟨fun h => absurd h (by decide), fun h => absurd HOK.out h⟩ HB.out
    have hlkz : (k : Int) < (n : Int) := by omega
    have hcx : wr.rangeAt b (off + k * 5) [.bool (f k).has, .int .i64 (f k).t.t.k, .slice (f k).t.t.a (f k).t.t.len (f k).t.t.cap, .int .i64 (f k).t.t.n, .int .i64 (f k).t.t.s] := fun c u hu => (HB.out.cell (p := ⟨b, off + k * 5 + c, none⟩) hbk).trans (HCK.out k hlk c u hu)
    go_wp2_with (with_reducible refine wpl_at ?_; refine wpList_load_mid rfl 41 _ rfl _ _ rfl [.bool (f k).has, .int .i64 (f k).t.t.k, .slice (f k).t.t.a (f k).t.t.len (f k).t.t.cap, .int .i64 (f k).t.t.n, .int .i64 (f k).t.t.s] _ hcx Tryd.underlying41 rfl (by kernel_rfl) ?_; try simp only [Act.put, List.setIfInBounds_toArray, List.set_cons_zero, List.set_cons_succ])
    refine (HNP.out k hlk wr HB.out).mono ?_
    rintro e w1 ⟨q1, rfl, hq1, hb1⟩
    have HB1 : Hid (Below w.heap.size w w1) := bl_trans HB.out hb1
    clear hb1 hcx HB
    cases q1 with
    | true =>
      have HNO : Hid (¬ cellOk (f k)) := hq1.1 rfl
      clear hq1
      go_wp2_with fail
      go_ret
      exact IdxAns.of ⟨fun _ h => HNO.out (h k hlk), fun _ => by omega⟩ HB1.out
    | false =>
      have HYE : Hid (cellOk (f k)) := (show cellOk (f k) from Classical.byContradiction fun hh => by have h := hq1.2 hh; cases h)
      clear hq1
      go_wp2_with fail
      go_roundw
      case rel =>
        refine ⟨k + 1, by omega, by go_num, fun j hj => ?_, HB1⟩
        by_cases e : j = k
        · subst e
          exact HYE.out
        · exact HOK.out j (by omega)
      case measure => simp [intOf]; omega
theorem containsCell_any (a : Option Addr) (n cap : Nat) (f : Nat → CB)  (w : World) (hn : n ≤ 1048576) (hR : KRow 0 w 5 a n (fun i => (f i).cells)) (hk : ∀ i, i < n → (f i).lies 0 w)  :
    Calls Tryd.prog 35 #[.slice a n cap, .func (.func 36) #[] #[]] w (Tells (¬ ∀ i, i < n → cellOk (f i)) w) := by
  have IX := indexCell_any a n cap f  w hn hR hk 
  obtain ⟨P, hP⟩ : ∃ P : Prop, P = (∀ i, i < n → cellOk (f i)) := ⟨_, rfl⟩
  rw [← hP] at IX ⊢
  clear hP hR hk hn 
  go_enter Tryd.func35, Tryd.ntmps35
  go_wp2_with fail
  refine IX.mono ?_
  rintro e w1 ⟨v, rfl, hv, hb⟩
  have HV : Hid (0 ≤ v ↔ ¬ P) := hv
  have HB : Hid (Below w.heap.size w w1) := hb
  clear IX hv hb
  go_wp2_with fail
  go_ret
  refine Tells.of ?_ HB.out
  rw [← HV.out]
  simp
set_option maxHeartbeats 1000000 in
theorem isOver_any (s : SO) (va : Option Addr) (vn vc : Nat) (w : World) (h : s.lies 0 w) : Calls Tryd.prog 22 #[.agg #[.slice s.a s.n s.cap], .slice va vn vc] w (Tells (solOk s vn) w) := by
  have CN : Hid (∀ W, Below w.heap.size w W → Calls Tryd.prog 35 #[.slice s.a s.n s.cap, .func (.func 36) #[] #[]] W (Tells (¬ ∀ i, i < s.n → cellOk (s.cel i)) W)) := fun W hb => containsCell_any s.a s.n s.cap s.cel W h.2.2 (h.1.upper (Upper.of_below hb)) (fun i hi => (h.2.1 i hi).upper (Upper.of_below hb))
  have hn := h.2.2
  obtain ⟨P, hP⟩ : ∃ P, P = solOk s vn := ⟨_, rfl⟩
  have HP : Hid (P ↔ (s.n = vn ∧ ∀ i, i < s.n → cellOk (s.cel i))) := (show (P ↔ _) by rw [hP]; exact Iff.rfl)
  rw [← hP]
  clear hP h
  by_cases hsn : s.n = vn
  rotate_left
  · have hne : ((s.n : Int) == (vn : Int)) = false := by simp; omega
    have HNO : Hid (¬ P) := fun hh => hsn (HP.out.1 hh).1
    clear hsn
    go_enter Tryd.func22, Tryd.ntmps22
    go_wp2_with fail
    go_ret
    exact Tells.no HNO.out (bl_a _)
  have hne : ((s.n : Int) == (vn : Int)) = true := by simp; omega
  have HSN : Hid (s.n = vn) := hsn
  clear hsn
  go_enter Tryd.func22, Tryd.ntmps22
  go_wp2_with fail
  refine (CN.out _ (bl_a _)).mono ?_
  rintro e w1 ⟨q1, rfl, hq1, hb1⟩
  have HB : Hid (Below w.heap.size w w1) := bl_trans (bl_a _) hb1
  have HE : Hid ((!q1) = true ↔ P) := (show ((!q1) = true ↔ P) by
    rw [HP.out]
    cases q1 with
    | true => exact ⟨fun h => (by cases h), fun h => absurd h.2 (hq1.1 rfl)⟩
    | false => exact ⟨fun _ => ⟨HSN.out, Classical.byContradiction fun h => (by have := hq1.2 h; cases this)⟩, fun _ => rfl⟩)
  clear hq1 hb1 CN
  go_wp2_with fail
  go_ret
  exact Tells.of HE.out HB.out
theorem noSol_any (s : SO) (c vn vc : Nat) (va : Option Addr) (w : World) (h : s.lies 0 w) (hcl : c < w.heap.size) (hc : w.cell? ⟨c, 0, none⟩ = some (.slice va vn vc)) : Calls Tryd.prog 21 #[.agg #[.slice s.a s.n s.cap], .pointer (some ⟨c, 0, none⟩)] w (Tells (¬ solOk s vn) w) := by
  have HP : Hid (∀ W, Below w.heap.size w W → Calls Tryd.prog 22 #[.agg #[.slice s.a s.n s.cap], .slice va vn vc] W (Tells (solOk s vn) W)) := fun W hb => isOver_any s va vn vc W (h.upper (Upper.of_below hb))
  have hc1 := fun o => ((bl_a (w := w) o).cell (p := ⟨c, 0, none⟩) hcl).trans hc
  clear h hc
  go_enter Tryd.func21, Tryd.ntmps21
  go_wp2_with fail
  refine (HP.out _ (bl_a _)).mono ?_
  rintro e w1 ⟨q1, rfl, hq1, hb1⟩
  have HB : Hid (Below w.heap.size w w1) := bl_trans (bl_a _) hb1
  have HE : Hid ((!q1) = true ↔ ¬ solOk s vn) := (show ((!q1) = true ↔ _) by
    rw [← hq1]
    cases q1 <;> simp)
  clear hq1 hb1 HP hc1
  go_wp2_with fail
  go_ret
  exact Tells.of HE.out HB.out
set_option maxHeartbeats 4000000 in
theorem indexSol_any (a : Option Addr) (n cap : Nat) (f : Nat → SO) (c vn vc : Nat) (va : Option Addr) (w : World) (hn : n ≤ 1048576) (hR : KRow 0 w 1 a n (fun i => (f i).cells)) (hk : ∀ i, i < n → (f i).lies 0 w) (hcl : c < w.heap.size) (hcc : w.cell? ⟨c, 0, none⟩ = some (.slice va vn vc)) :
    Calls Tryd.prog 34 #[.slice a n cap, .func (.func 21) #[] #[.pointer (some ⟨c, 0, none⟩)]] w (IdxAns (∀ i, i < n → solOk (f i) vn) w) := by
  have HNP : Hid (∀ i, i < n → ∀ W, Below w.heap.size w W → Calls Tryd.prog 21 #[.agg #[.slice (f i).a (f i).n (f i).cap], .pointer (some ⟨c, 0, none⟩)] W (Tells (¬ solOk (f i) vn) W)) := fun i hi W hb => noSol_any (f i) c vn vc va W ((hk i hi).upper (Upper.of_below hb)) (Nat.lt_of_lt_of_le hcl hb.size) ((hb.cell (p := ⟨c, 0, none⟩) hcl).trans hcc)
  by_cases hn1 : n = 0
  · subst hn1
    clear hR hk hcl hcc
    go_enter Tryd.func34, Tryd.ntmps34
    go_wp2_with fail
    go_loopw [8] (fun i wr => i = .int .i64 0 ∧ Hid (Below w.heap.size w wr)) (fun _ _ => 0)
    case atStart => exact ⟨rfl, Below.refl _ _⟩
    case round =>
      obtain ⟨rfl, HB⟩ := hrel
      go_wp2_with fail
      go_ret
      exact IdxAns.of ⟨fun h => absurd h (by decide), fun h => absurd (fun i hi => absurd hi (Nat.not_lt_zero _)) h⟩ HB.out
  obtain ⟨b, off, rfl, _, hbk, hc⟩ := hR.resolve_left hn1
  have HCK : Hid (∀ i, i < n → ∀ c u, ((f i).cells)[c]? = some u → w.cell? ⟨b, off + i + c, none⟩ = some u) := fun i hi c u hu => (by have h := hc i hi c u hu; rwa [Nat.mul_one] at h)
  clear hc hR hk hn1 hcl hcc
  go_enter Tryd.func34, Tryd.ntmps34
  go_wp2_with fail
  go_loopw [8] (fun i wr => ∃ k : Nat, k ≤ n ∧ i = .int .i64 k ∧ Hid (∀ j, j < k → solOk (f j) vn) ∧ Hid (Below w.heap.size w wr)) (fun i _ => n - (intOf i).toNat)
  case atStart => exact ⟨0, Nat.zero_le _, rfl, fun j hj => absurd hj (Nat.not_lt_zero _), Below.refl _ _⟩
  case round =>
    obtain ⟨k, hk, rfl, HOK, HB⟩ := hrel
    by_cases hlk : k < n
    rotate_left
    · obtain rfl : k = n := by omega
      have hlkz : ¬ (k : Int) < (k : Int) := by omega
      go_wp2_with fail
      go_ret
      exact IdxAns.of ⟨fun h => absurd h (by decide), fun h => absurd HOK.out h⟩ HB.out
    have hlkz : (k : Int) < (n : Int) := by omega
    have hcx : wr.rangeAt b (off + k) [.slice (f k).a (f k).n (f k).cap] := fun c u hu => (HB.out.cell (p := ⟨b, off + k + c, none⟩) hbk).trans (HCK.out k hlk c u hu)
    go_wp2_with (with_reducible refine wpl_at ?_; refine wpList_load_mid rfl 36 _ rfl _ _ rfl [.slice (f k).a (f k).n (f k).cap] _ hcx Tryd.underlying36 rfl (by kernel_rfl) ?_; try simp only [Act.put, List.setIfInBounds_toArray, List.set_cons_zero, List.set_cons_succ])
    refine (HNP.out k hlk wr HB.out).mono ?_
    rintro e w1 ⟨q1, rfl, hq1, hb1⟩
    have HB1 : Hid (Below w.heap.size w w1) := bl_trans HB.out hb1
    clear hb1 hcx HB
    cases q1 with
    | true =>
      have HNO : Hid (¬ solOk (f k) vn) := hq1.1 rfl
      clear hq1
      go_wp2_with fail
      go_ret
      exact IdxAns.of ⟨fun _ h => HNO.out (h k hlk), fun _ => by omega⟩ HB1.out
    | false =>
      have HYE : Hid (solOk (f k) vn) := (show solOk (f k) vn from Classical.byContradiction fun hh => by have h := hq1.2 hh; cases h)
      clear hq1
      go_wp2_with fail
      go_roundw
      case rel =>
        refine ⟨k + 1, by omega, by go_num, fun j hj => ?_, HB1⟩
        by_cases e : j = k
        · subst e
          exact HYE.out
        · exact HOK.out j (by omega)
      case measure => simp [intOf]; omega
theorem containsSol_any (a : Option Addr) (n cap : Nat) (f : Nat → SO) (c vn vc : Nat) (va : Option Addr) (w : World) (hn : n ≤ 1048576) (hR : KRow 0 w 1 a n (fun i => (f i).cells)) (hk : ∀ i, i < n → (f i).lies 0 w) (hcl : c < w.heap.size) (hcc : w.cell? ⟨c, 0, none⟩ = some (.slice va vn vc)) :
    Calls Tryd.prog 20 #[.slice a n cap, .func (.func 21) #[] #[.pointer (some ⟨c, 0, none⟩)]] w (Tells (¬ ∀ i, i < n → solOk (f i) vn) w) := by
  have IX := indexSol_any a n cap f c vn vc va w hn hR hk hcl hcc
  obtain ⟨P, hP⟩ : ∃ P : Prop, P = (∀ i, i < n → solOk (f i) vn) := ⟨_, rfl⟩
  rw [← hP] at IX ⊢
  clear hP hR hk hn hcl hcc
  go_enter Tryd.func20, Tryd.ntmps20
  go_wp2_with fail
  refine IX.mono ?_
  rintro e w1 ⟨v, rfl, hv, hb⟩
  have HV : Hid (0 ≤ v ↔ ¬ P) := hv
  have HB : Hid (Below w.heap.size w w1) := hb
  clear IX hv hb
  go_wp2_with fail
  go_ret
  refine Tells.of ?_ HB.out
  rw [← HV.out]
  simp
set_option maxHeartbeats 1000000 in
theorem rowsOk_any (a : Option Addr) (n cap : Nat) (f : Nat → SO) (vn vc : Nat) (va : Option Addr) (w : World) (hn : n ≤ 1048576) (hR : KRow 0 w 1 a n (fun i => (f i).cells)) (hk : ∀ i, i < n → (f i).lies 0 w) :
    Calls Tryd.prog 7 #[.slice a n cap, .slice va vn vc] w (Tells (n ≤ 300 ∧ ∀ i, i < n → solOk (f i) vn) w) := by
  have CN : Hid (∀ o, (w.alloc o).cell? ⟨w.heap.size, 0, none⟩ = some (.slice va vn vc) → Calls Tryd.prog 20 #[.slice a n cap, .func (.func 21) #[] #[.pointer (some ⟨w.heap.size, 0, none⟩)]] (w.alloc o) (Tells (¬ ∀ i, i < n → solOk (f i) vn) (w.alloc o))) := fun o ho => containsSol_any a n cap f w.heap.size vn vc va (w.alloc o) hn (hR.upper (Upper.of_below (bl_a o))) (fun i hi => (hk i hi).upper (Upper.of_below (bl_a o))) (by simp) ho
  obtain ⟨P, hP⟩ : ∃ P : Prop, P = (∀ i, i < n → solOk (f i) vn) := ⟨_, rfl⟩
  rw [← hP] at CN ⊢
  clear hP hR hk hn
  by_cases hl : n ≤ 300
  · have hlz : (n : Int) ≤ 300 := by omega
    have HL : Hid (n ≤ 300) := hl
    clear hl
    go_enter Tryd.func7, Tryd.ntmps7
    go_wp2_with fail
    refine (CN.out _ (by simp [go_sem])).mono ?_
    rintro e w1 ⟨q1, rfl, hq1, hb1⟩
    have HB : Hid (Below w.heap.size w w1) := bl_trans (bl_a _) hb1
    have HE : Hid ((!q1) = true ↔ (n ≤ 300 ∧ P)) := (show ((!q1) = true ↔ _) by
      cases q1 with
      | true => exact ⟨fun h => (by cases h), fun h => absurd h.2 (hq1.1 rfl)⟩
      | false => exact ⟨fun _ => ⟨HL.out, Classical.byContradiction fun h => (by have := hq1.2 h; cases this)⟩, fun _ => rfl⟩)
    clear hq1 hb1 CN
    go_wp2_with fail
    go_ret
    exact Tells.of HE.out HB.out
  · have hlz : ¬ (n : Int) ≤ 300 := by omega
    have HNO : Hid (¬ (n ≤ 300 ∧ P)) := fun hh => hl hh.1
    clear hl
    go_enter Tryd.func7, Tryd.ntmps7
    go_wp2_with fail
    go_ret
    exact Tells.no HNO.out (bl_a _)
end Go.Proofs.YtganfiajhokkmaaDoor

/- TbJ -/
namespace Go.Proofs.YtganfiajhokkmaaDoor
open Go.RowKit Go.Deep
set_option maxRecDepth 100000

theorem vq_fresh {w0 w : World} (hb : Below w0.heap.size w0 w) (t : TypeId) : VQ w0 (w.alloc (.cells #[.slice none 0 0] t)) w.heap.size w.heap.size (.slice none 0 0) [] :=
  ⟨by simp [go_sem], by simp [go_sem], by simp, VL.nil _ _ _, fun e => (by cases e), hb.size, hb.size, hb.trans ((bl_a _).mono hb.size), by simp⟩
theorem inVB {var : Nat → SL} {k : Nat} {b : List Int} {L : List SL} (h : L.map SL.b = ((List.range k).map fun i => (var i).b)) : InL b L ↔ ∃ j, j < k ∧ (var j).b = b := by
  unfold InL
  rw [h]
  simp only [List.mem_map, List.mem_range]
theorem addVB {var : Nat → SL} {k : Nat} {L : List SL} (h : L.map SL.b = ((List.range k).map fun i => (var i).b)) (hv : varOk var k) : addV (L.map SL.b) (var k).b = ((List.range (k + 1)).map fun i => (var i).b) := by
  have h1 : (var k).b ≠ [] := name_pos hv.1
  have h2 : ¬ (var k).b ∈ L.map SL.b := fun hh => by
    obtain ⟨j, hj, e⟩ := (inVB h).1 hh
    exact hv.2 j hj e
  unfold addV
  rw [if_neg (by rintro (h3 | h3); exact h1 h3; exact h2 h3), h, List.range_succ, List.map_append]
  rfl
set_option maxHeartbeats 4000000 in
theorem varsOkP_any (a : Option Addr) (n cap : Nat) (var : Nat → SL) (w : World) (hR : KRow 0 w 1 a n (fun i => (var i).cells)) (hl : ∀ i, i < n → (var i).lies 0 w) (hn : n ≤ 1048576) :
    Calls Tryd.prog 6 #[.slice a n cap] w (Tells (varsOkL n var) w) := by
  by_cases h8 : n ≤ 8
  rotate_left
  · have h8z : (n : Int) > 8 := by omega
    clear hR hl
    go_enter Tryd.func6, Tryd.ntmps6
    go_wp2
    go_ret
    exact Tells.no (fun hh => h8 hh.1) (Below.refl _ _)
  have h8z : ¬ (n : Int) > 8 := by omega
  have HQ0 : Hid (VQ w (w.alloc (.cells #[.slice none 0 0] 50)) w.heap.size w.heap.size (.slice none 0 0) []) := vq_fresh (Below.refl _ _) _
  by_cases hn0 : n = 0
  · subst hn0
    have HY : Hid (varsOkL 0 var) := ⟨by omega, fun i hi => absurd hi (Nat.not_lt_zero _)⟩
    clear hR hl hn h8 h8z
    go_enter Tryd.func6, Tryd.ntmps6
    go_wp2
    go_loopw [11] (fun i wr => i = .int .i64 0 ∧ Hid (Below w.heap.size w wr)) (fun _ _ => 0)
    case atStart => exact ⟨rfl, bl_a _⟩
    case round =>
      obtain ⟨rfl, HB⟩ := hrel
      go_wp2_with fail
      go_ret
      exact Tells.yes HY.out HB.out
  obtain ⟨b, off, rfl, _, hlt, hc⟩ := hR.resolve_left hn0
  have HC : Hid (∀ i, i < n → w.cell? ⟨b, off + i, none⟩ = some (.slice (var i).a (var i).len (var i).cap)) := fun i hi => (by have h := hc i hi 0 _ rfl; rwa [Nat.mul_one] at h)
  have HL : Hid (∀ i, i < n → (var i).lies 0 w) := hl
  clear hR hc hl
  go_enter Tryd.func6, Tryd.ntmps6
  go_wp2_with fail
  go_loopw [11] (fun i wr => ∃ (k : Nat) (v : Value) (L : List SL), k ≤ n ∧ i = .int .i64 k ∧ Hid (VQ w wr w.heap.size w.heap.size v L) ∧ Hid (L.map SL.b = ((List.range k).map fun i => (var i).b)) ∧ Hid (∀ j, j < k → varOk var j)) (fun i _ => n - (intOf i).toNat)
  case atStart => exact ⟨0, _, [], Nat.zero_le _, rfl, HQ0, rfl, fun j hj => absurd hj (Nat.not_lt_zero _)⟩
  case round =>
    clear HQ0
    obtain ⟨k, v, L, hk, rfl, HQ, HLV, HOK⟩ := hrel
    have HB : Hid (Below w.heap.size w wr) := HQ.out.bl
    by_cases hlk : k < n
    rotate_left
    · obtain rfl : k = n := by omega
      have hlkz : ¬ (k : Int) < (k : Int) := by omega
      go_wp2_with fail
      go_ret
      exact Tells.yes ⟨h8, HOK.out⟩ HB.out
    have hlkz : (k : Int) < (n : Int) := by omega
    have y0 : wr.cell? ⟨b, off + k, none⟩ = some (.slice (var k).a (var k).len (var k).cap) := (HB.out.cell (p := ⟨b, off + k, none⟩) hlt).trans (HC.out k hlk)
    have IN := isName_any (var k).a (var k).len (var k).cap (var k).b wr (BsF.upper (HL.out k hlk) (Upper.of_below HB.out)).1
    have hLl : L.length ≤ 8 := by
      have h1 := congrArg List.length HLV.out
      simp at h1
      omega
    cases hnm : nameOk (var k).b with
    | false =>
      rw [hnm] at IN
      have HNO : Hid (¬ varsOkL n var) := fun hh => by have h := (hh.2 k hlk).1; rw [hnm] at h; cases h
      clear hnm
      go_wp2_with fail
      refine IN.mono ?_
      rintro e w2 ⟨rfl, h2⟩
      subst w2
      clear IN y0
      go_wp2_with fail
      go_ret
      exact Tells.no HNO.out HB.out
    | true =>
      rw [hnm] at IN
      have HNM : Hid (nameOk (var k).b = true) := hnm
      clear hnm
      have x0 := HQ.out.cell
      obtain ⟨av, cv, hvv, _⟩ := HQ.out.vl.form
      have HHA := hidQ (has_any v L (var k) w.heap.size w wr HQ.out.vl HQ.out.bl (HL.out k hlk) (by omega))
      have HAD : Hid (∀ W, Below wr.heap.size wr W → Calls Tryd.prog 19 #[.pointer (some ⟨w.heap.size, 0, none⟩), .slice (var k).a (var k).len (var k).cap] W (AddQ w w.heap.size w.heap.size v (addV (L.map SL.b) (var k).b) W)) := fun W hb => add_any v L (var k) w.heap.size w.heap.size w W (HQ.out.below hb) (HL.out k hlk) (by omega)
      have HQL : Hid (VQ w wr w.heap.size w.heap.size v L) := HQ
      subst hvv
      go_wp2_with fail
      refine IN.mono ?_
      rintro e w2 ⟨rfl, h2⟩
      subst w2
      clear IN y0
      go_wp2_with fail
      refine HHA.out.mono ?_
      rintro e w3 ⟨q3, rfl, hq3, hb3⟩
      have HB3 : Hid (Below w.heap.size w w3) := bl_trans HB.out hb3
      have HQ3 : Hid (q3 = true ↔ ∃ j, j < k ∧ (var j).b = (var k).b) := (show (q3 = true ↔ _) from hq3.trans (inVB HLV.out))
      have HAD3 := hidQ (HAD.out w3 hb3)
      clear hb3 hq3 x0 HHA HAD
      cases q3 with
      | true =>
        have HNO : Hid (¬ varsOkL n var) := fun hh => by obtain ⟨j, hj, e⟩ := HQ3.out.1 rfl; exact (hh.2 k hlk).2 j hj e
        clear HQ3
        go_wp2_with fail
        go_ret
        exact Tells.no HNO.out HB3.out
      | false =>
        have HVK : Hid (varOk var k) := ⟨HNM.out, fun j hj e => (by have h := HQ3.out.2 ⟨j, hj, e⟩; cases h)⟩
        clear HQ3
        go_wp2_with fail
        refine HAD3.out.mono ?_
        rintro e w4 ⟨v4, L4, rfl, hV4, hR4, hK4⟩
        have HV4 : Hid (VQ w w4 w.heap.size w.heap.size v4 L4) := hV4
        have HR4 : Hid (L4.map SL.b = ((List.range (k + 1)).map fun i => (var i).b)) := (show _ = _ from hR4.trans (addVB HLV.out HVK.out))
        clear hV4 hR4 hK4 HAD3
        go_wp2_with fail
        go_roundw
        case rel =>
          refine ⟨k + 1, v4, L4, by omega, by go_num, HV4, HR4, fun j hj => ?_⟩
          by_cases e : j = k
          · subst e
            exact HVK.out
          · exact HOK.out j (by omega)
        case measure => simp [intOf]; omega
end Go.Proofs.YtganfiajhokkmaaDoor
