/- Texts put together: StrA TokF MrkA OwnA -/
import Derived.Test.YtdcaicoomldmgaaGreatDoorMk04
import Derived.Test.YtdcaicoomldmgaaGreatDoorMk03
import Derived.ChangeOld
import Derived.Lib.SmallJoins
import Derived.Test.YtdcaicoomldmgaaGreatDoorMk02
/- StrA -/
namespace Go.Proofs.YtdcaicoomldmgaaGreatDoor
open Go.RowKit Go.Deep

/-- A comparison whose zero is sameness, on what P tells. -/
structure OrdP {α : Type} (P : α → Prop) (c : α → α → Int) : Prop where
  o : Ord3 c
  z : ∀ x y, P x → P y → c x y = 0 → x = y

/-- Two lists that ascend strictly and hold the same are the same. -/
theorem asc_unique {α : Type} {P : α → Prop} {c : α → α → Int} (h : OrdP P c) : ∀ (xs ys : List α), (∀ x ∈ xs, P x) → (∀ y ∈ ys, P y) → xs.Pairwise (fun x y => c x y < 0) → ys.Pairwise (fun x y => c x y < 0) → (∀ x, x ∈ xs ↔ x ∈ ys) → xs = ys
  | [], [], _, _, _, _, _ => rfl
  | [], y :: ys, _, _, _, _, hm => by have := (hm y).2 (by simp); simp at this
  | x :: xs, [], _, _, _, _, hm => by have := (hm x).1 (by simp); simp at this
  | x :: xs, y :: ys, hx, hy, ax, ay, hm => by
    have ax' := List.pairwise_cons.1 ax
    have ay' := List.pairwise_cons.1 ay
    have e : x = y := by
      have h1 := (hm x).1 (by simp)
      have h2 := (hm y).2 (by simp)
      rcases List.mem_cons.1 h1 with h1 | h1
      · exact h1
      · rcases List.mem_cons.1 h2 with h2 | h2
        · exact h2.symm
        · have a := ay'.1 x h1
          have b := ax'.1 y h2
          have := h.o.anti x y
          omega
    subst e
    have hself := h.o.self x
    congr 1
    refine asc_unique h xs ys (fun z hz => hx z (by simp [hz])) (fun z hz => hy z (by simp [hz])) ax'.2 ay'.2 fun z => ⟨fun hz => ?_, fun hz => ?_⟩
    · have := (hm z).1 (by simp [hz])
      rcases List.mem_cons.1 this with rfl | this
      · have := ax'.1 z hz; omega
      · exact this
    · have := (hm z).2 (by simp [hz])
      rcases List.mem_cons.1 this with rfl | this
      · have := ay'.1 z hz; omega
      · exact this

/-- Two lists that do not descend and are permutations of one another are the same. -/
theorem sort_unique {α : Type} {P : α → Prop} {c : α → α → Int} (h : OrdP P c) (xs ys : List α) (hx : ∀ x ∈ xs, P x) (hp : xs.Perm ys) (ax : xs.Pairwise (fun x y => c x y ≤ 0)) (ay : ys.Pairwise (fun x y => c x y ≤ 0)) : xs = ys := by
  refine List.Perm.eq_of_pairwise (le := fun x y => c x y ≤ 0) ?_ ax ay hp
  intro x y hx1 hy1 h1 h2
  have := h.o.anti x y
  exact h.z x y (hx x hx1) (hx y (hp.mem_iff.2 hy1)) (by omega)

theorem Ord3.le_lt {α : Type} {c : α → α → Int} (h : Ord3 c) {x y z : α} (h1 : c x y ≤ 0) (h2 : c y z < 0) : c x z < 0 := by
  have h3 := h.trans x y z h1 (by omega)
  by_cases e : c x z = 0
  · have a1 := h.anti x z
    have a2 := h.anti y z
    have := h.trans z x y (by omega) h1
    omega
  · omega
theorem Ord3.lt_le {α : Type} {c : α → α → Int} (h : Ord3 c) {x y z : α} (h1 : c x y < 0) (h2 : c y z ≤ 0) : c x z < 0 := by
  have h3 := h.trans x y z (by omega) h2
  by_cases e : c x z = 0
  · have a1 := h.anti x z
    have a2 := h.anti x y
    have := h.trans y z x h2 (by omega)
    omega
  · omega
theorem Ord3.lt_trans {α : Type} {c : α → α → Int} (h : Ord3 c) {x y z : α} (h1 : c x y < 0) (h2 : c y z < 0) : c x z < 0 := h.lt_le h1 (by omega)

/-- A term that may be, of bytes. -/
def TD.good (x : TD) : Prop := x.ok = true ∧ Byt x.bs
theorem TD.cT_good {x y : TD} (hx : x.good) (hy : y.good) : x.cT y = x.cmp y := by
  unfold TD.cT cmpT
  rw [hx.1, hy.1]
  rfl
theorem ordP_cmp : OrdP TD.good TD.cmp := ⟨ord_cmp, fun x y hx hy h => TD.same hx.2.get hy.2.get hx.1 (by rw [TD.cT_good hx hy]; exact h)⟩

/-- The place at which a new one goes: all ahead of it are less, it is not more than the next. -/
theorem put_asc {l : List TD} {t : TD} {i : Nat} (hl : l.Pairwise (fun x y => x.cmp y < 0)) (hi : i ≤ l.length) (h1 : ∀ j (h : j < i), (l[j]'(by omega)).cmp t < 0) (h2 : ∀ h : i < l.length, t.cmp l[i] < 0) :
    (l.take i ++ t :: l.drop i).Pairwise (fun x y => x.cmp y < 0) := by
  have hap : (l.take i ++ l.drop i).Pairwise (fun x y => x.cmp y < 0) := by rw [List.take_append_drop]; exact hl
  obtain ⟨ha, hb, hab⟩ := List.pairwise_append.1 hap
  have hd : ∀ y ∈ l.drop i, t.cmp y < 0 := by
    intro y hy
    by_cases hlt : i < l.length
    · rw [List.drop_eq_getElem_cons hlt] at hy hb
      rcases List.mem_cons.1 hy with rfl | hy
      · exact h2 hlt
      · exact ord_cmp.lt_trans (h2 hlt) ((List.pairwise_cons.1 hb).1 y hy)
    · rw [List.drop_eq_nil_of_le (by omega)] at hy
      cases hy
  have ht : ∀ x ∈ l.take i, x.cmp t < 0 := by
    intro x hx
    obtain ⟨j, hj, rfl⟩ := List.getElem_of_mem hx
    have hj' : j < i := by simp at hj; omega
    rw [List.getElem_take]
    exact h1 j hj'
  refine List.pairwise_append.2 ⟨ha, List.pairwise_cons.2 ⟨hd, hb⟩, fun x hx y hy => ?_⟩
  rcases List.mem_cons.1 hy with rfl | hy
  · exact ht x hx
  · exact hab x hx y hy
theorem put_mem {α : Type} {l : List α} {t : α} {i : Nat} (x : α) : x ∈ (l.take i ++ t :: l.drop i) ↔ x = t ∨ x ∈ l := by
  have : x ∈ l ↔ x ∈ l.take i ∨ x ∈ l.drop i := by
    rw [← List.mem_append, List.take_append_drop]
  rw [this]
  simp only [List.mem_append, List.mem_cons]
  constructor
  · rintro (h | h | h) <;> simp [h]
  · rintro (h | h | h) <;> simp [h]

/-- Just the terms of ts, ascending. -/
structure TermsOf (ts l : List TD) : Prop where
  asc : l.Pairwise (fun x y => x.cmp y < 0)
  mem : ∀ x, x ∈ l ↔ x ∈ ts
theorem TermsOf.unique {ts l l' : List TD} (hg : ∀ x ∈ ts, x.good) (h : TermsOf ts l) (h' : TermsOf ts l') : l = l' :=
  asc_unique ordP_cmp l l' (fun x hx => hg x ((h.mem x).1 hx)) (fun x hx => hg x ((h'.mem x).1 hx)) h.asc h'.asc fun x => (h.mem x).trans (h'.mem x).symm

/-- A row's numbers in an order, the first one first. -/
def rkey (o : Nat) (r : Int × Int × Int) : Int × Int × Int :=
  if o = 0 then r else if o = 1 then (r.1, r.2.2, r.2.1) else if o = 2 then (r.2.1, r.1, r.2.2) else if o = 3 then (r.2.1, r.2.2, r.1) else if o = 4 then (r.2.2, r.1, r.2.1) else (r.2.2, r.2.1, r.1)
def rcmp (o : Nat) (x y : Int × Int × Int) : Int := orI (cmpI (rkey o x).1 (rkey o y).1) (orI (cmpI (rkey o x).2.1 (rkey o y).2.1) (cmpI (rkey o x).2.2 (rkey o y).2.2))
theorem ord_rcmp (o : Nat) : Ord3 (rcmp o) := Ord3.lex (Ord3.key fun x => (rkey o x).1) (Ord3.lex (Ord3.key fun x => (rkey o x).2.1) (Ord3.key fun x => (rkey o x).2.2))
theorem rkey_inj {o : Nat} {x y : Int × Int × Int} (h : rkey o x = rkey o y) : x = y := by
  obtain ⟨a, b, c⟩ := x
  obtain ⟨a', b', c'⟩ := y
  unfold rkey at h
  split at h
  · exact h
  split at h
  · simp at h; simp [h]
  split at h
  · simp at h; simp [h]
  split at h
  · simp at h; simp [h]
  split at h
  · simp at h; simp [h]
  · simp at h; simp [h]
theorem ordP_rcmp (o : Nat) : OrdP (fun _ => True) (rcmp o) := by
  refine ⟨ord_rcmp o, fun x y _ _ h => rkey_inj (o := o) ?_⟩
  unfold rcmp at h
  obtain ⟨h1, h2⟩ := orI_zero h
  obtain ⟨h2, h3⟩ := orI_zero h2
  exact Prod.ext (cmpI_zero h1) (Prod.ext (cmpI_zero h2) (cmpI_zero h3))

/-- The rows rs in an order. -/
structure RowsOf (o : Nat) (rs l : List (Int × Int × Int)) : Prop where
  perm : l.Perm rs
  asc : l.Pairwise (fun x y => rcmp o x y ≤ 0)
theorem RowsOf.unique {o : Nat} {rs l l' : List (Int × Int × Int)} (h : RowsOf o rs l) (h' : RowsOf o rs l') : l = l' :=
  sort_unique (ordP_rcmp o) l l' (fun _ _ => trivial) (h.perm.trans h'.perm.symm) h.asc h'.asc
/-- A row goes to its place. -/
theorem put_rows {o : Nat} {l : List (Int × Int × Int)} {t : Int × Int × Int} {i : Nat} (hl : l.Pairwise (fun x y => rcmp o x y ≤ 0)) (hi : i ≤ l.length) (h1 : ∀ h : 0 < i, rcmp o (l[i - 1]'(by omega)) t ≤ 0) (h2 : ∀ j (h : j < l.length), i ≤ j → rcmp o t l[j] ≤ 0) :
    (l.take i ++ t :: l.drop i).Pairwise (fun x y => rcmp o x y ≤ 0) := by
  have hap : (l.take i ++ l.drop i).Pairwise (fun x y => rcmp o x y ≤ 0) := by rw [List.take_append_drop]; exact hl
  obtain ⟨ha, hb, hab⟩ := List.pairwise_append.1 hap
  have ht : ∀ x ∈ l.take i, rcmp o x t ≤ 0 := by
    intro x hx
    obtain ⟨j, hj, rfl⟩ := List.getElem_of_mem hx
    have hj' : j < i := by simp at hj; omega
    rw [List.getElem_take]
    have hlast := h1 (by omega)
    by_cases e : j = i - 1
    · subst e; exact hlast
    · have := List.pairwise_iff_getElem.1 hl j (i - 1) (by omega) (by omega) (by omega)
      exact (ord_rcmp o).trans _ _ _ this hlast
  have hd : ∀ y ∈ l.drop i, rcmp o t y ≤ 0 := by
    intro y hy
    obtain ⟨j, hj, rfl⟩ := List.getElem_of_mem hy
    rw [List.getElem_drop]
    exact h2 _ _ (by omega)
  refine List.pairwise_append.2 ⟨ha, List.pairwise_cons.2 ⟨hd, hb⟩, fun x hx y hy => ?_⟩
  rcases List.mem_cons.1 hy with rfl | hy
  · exact ht x hx
  · exact hab x hx y hy
theorem put_perm {α : Type} {l : List α} {t : α} {i : Nat} : (l.take i ++ t :: l.drop i).Perm (l ++ [t]) := by
  have h1 : (l.take i ++ t :: l.drop i).Perm (t :: (l.take i ++ l.drop i)) := List.perm_middle
  rw [List.take_append_drop] at h1
  exact h1.trans (List.perm_append_singleton t l).symm

/-- A term's number among those that ascend; 0: it has none. -/
def idOf (l : List TD) (t : TD) : Nat := (l.findIdx? (fun x => decide (x.cmp t = 0))).elim 0 (· + 1)
end Go.Proofs.YtdcaicoomldmgaaGreatDoor

/- TokF -/
namespace Go.Proofs.YtdcaicoomldmgaaGreatDoor
open Go.ChangeShapes Go.WideShapes Go.ChangeAt Go.RowKit Go.Joins

theorem own : ownKnob Tryz.prog.godebug = none := by kernel_rfl
theorem laidOut : laidOutB Tryz.prog = true := by kernel_rfl
theorem Tryz.cells47 : Tryz.prog.cellsOf 47 = 4 := by kernel_rfl
theorem Tryz.cells5 : Tryz.prog.cellsOf 5 = 1 := by kernel_rfl

theorem cell_lt {w : World} {a : Addr} {v : Value} (h : w.cell? a = some v) : a.block < w.heap.size := by
  apply Classical.byContradiction
  intro hn
  have e : w.heap[a.block]? = none := by simp; omega
  simp [World.cell?, e] at h

theorem Bs.of_cells {W : World} {x : Addr} {l c : Nat} {zs : List Int} (hl : l ≤ c) (hz : zs.length = c) (h20 : l ≤ 1048576)
    (hcell : ∀ i, i < zs.length → W.cell? (x.add i) = some (.int .u8 (zs.getD i 0))) (hwz : ∀ n ∈ zs, (Lit.int .u8 n).wf = true) : Bs W (some x) l (zs.take l) := by
  refine ⟨by simp; omega, h20, fun i => ?_, ?_⟩
  · by_cases hi : i < (zs.take l).length
    · have hm : (zs.take l)[i] ∈ zs := List.mem_of_mem_take (List.getElem_mem hi)
      have := bounds_u8 (hwz _ hm)
      rw [List.getElem?_eq_getElem hi]
      exact this
    · rw [List.getElem?_eq_none (by omega)]
      simp
  · by_cases h0 : l = 0
    · exact .inl h0
    · right
      obtain ⟨b, off, spot⟩ := x
      have hc0 := hcell 0 (by omega)
      have hspot : spot = none := by simpa [Addr.add] using World.cell?_spot hc0
      subst hspot
      refine ⟨b, off, rfl, by simpa [Addr.add] using cell_lt hc0, fun i hi => ?_⟩
      have h := hcell i (by omega)
      have ea : (⟨b, off, none⟩ : Addr).add i = ⟨b, off + i, none⟩ := by
        by_cases h0 : i = 0 <;> simp [Addr.add, h0]
      rw [ea] at h
      rw [h, List.getElem?_take, if_pos hi, List.getD_eq_getElem?_getD]

set_option maxRecDepth 100000 in
/-- A term that came in, opened: its kind, its text as a row of bytes, its number. -/
theorem open_term {H : Type} {enc : TypeId × Value → H} {W : World} {b0 : Nat} {v : Value} {d : DataW H} {p : List MemPlace}
    (hv : Value.okWide Tryz.prog W .any b0 47 v) (h : DataW.Trod enc Tryz.prog W 0 (fun _ => true) true 47 v d p) :
    ∃ (k n s : Int) (a : Option Addr) (len cap : Nat) (bs : List Int), v = .agg #[.int .i64 k, .slice a len cap, .int .i64 n, .int .i64 s] ∧ (Lit.int .i64 k).wf = true ∧ (Lit.int .i64 n).wf = true ∧ (Lit.int .i64 s).wf = true ∧
      len ≤ 9223372036854775807 ∧ (len ≤ 1048576 → Bs W a len bs) := by
  have hlt : ∀ x ∈ p, x.block < W.heap.size := by obtain ⟨m, hm⟩ := h; exact DataW.trod_lt m _ _ _ hm
  obtain ⟨c0, c1, c2, c3, y0, y1, y2, y3, m, rfl, rfl, rfl, hy0, hy1, hy2, hy3⟩ := open_agg4 Tryz.underlying47 (by kernel_rfl) Tryz.cells47 hv h
  obtain ⟨k, e0, rfl, wk⟩ := DataW.trod_int Tryz.underlying3 hy0
  obtain ⟨n, e2, rfl, wn⟩ := DataW.trod_int Tryz.underlying3 hy2
  obtain ⟨s, e3, rfl, ws⟩ := DataW.trod_int Tryz.underlying3 hy3
  simp at e0 e2 e3
  subst e0 e2 e3
  rcases open_ints Tryz.underlying45 Tryz.underlying5 Tryz.cells5 hy1 with ⟨hcs, rfl⟩ | ⟨x, l, c, zs, hcs, _, hl, hm, hz, rfl, hcell, hwz⟩
  · simp at hcs
    subst hcs
    exact ⟨k, n, s, none, 0, 0, [], rfl, wk, wn, ws, by omega, fun _ => ⟨rfl, by omega, by simp, .inl rfl⟩⟩
  · simp at hcs
    subst hcs
    simp only [if_true] at hz
    refine ⟨k, n, s, some x, l, c, zs.take l, rfl, wk, wn, ws, by unfold maxLen at hm; omega, fun h20 => ?_⟩
    exact Bs.of_cells hl hz h20 hcell hwz

end Go.Proofs.YtdcaicoomldmgaaGreatDoor

/- MrkA -/
namespace Go.Proofs.YtdcaicoomldmgaaGreatDoor
open Go.RowKit Go.Deep

/-- All blocks but g are as they were. -/
structure But (g : Nat) (w w' : World) : Prop where
  os : w'.os = w.os
  tape : w'.tape = w.tape
  output : w'.output = w.output
  size : w'.heap.size = w.heap.size
  block : ∀ b, b ≠ g → w'.heap[b]? = w.heap[b]?
theorem But.refl (g : Nat) (w : World) : But g w w := ⟨rfl, rfl, rfl, rfl, fun _ _ => rfl⟩
theorem But.set {g : Nat} {w w' : World} (h : But g w w') (i : Nat) (v : Value) : But g w (w'.setCell ⟨g, i, none⟩ v) :=
  ⟨h.os, h.tape, h.output, by simpa using h.size, fun b hb => (Below.heap_setCell _ _ _ _ hb).trans (h.block b hb)⟩
theorem But.cell {g : Nat} {w w' : World} (h : But g w w') {p : Addr} (hp : p.block ≠ g) : w'.cell? p = w.cell? p := World.cell?_of_block (w := w) (h.block p.block hp)
theorem But.frozen {g : Nat} {w w' : World} (h : But g w w') {p : Addr} (hp : p.block ≠ g) : w'.frozen? p = w.frozen? p := World.frozen?_of_block (w := w) (h.block p.block hp)
theorem But.below {g B : Nat} {w w' : World} (h : But g w w') (hg : B ≤ g) : Below B w w' :=
  ⟨h.os, h.tape, h.output, by rw [h.size]; exact Nat.le_refl _, fun b hb => h.block b (by omega)⟩

theorem set_same {w : World} {g i : Nat} {u v : Value} (h : w.cell? ⟨g, i, none⟩ = some u) : (w.setCell ⟨g, i, none⟩ v).cell? ⟨g, i, none⟩ = some v := by
  simp [go_sem, h]
theorem set_other {w : World} {g i j : Nat} {v : Value} (h : i ≠ j) : (w.setCell ⟨g, j, none⟩ v).cell? ⟨g, i, none⟩ = w.cell? ⟨g, i, none⟩ := by
  simp [go_sem]

theorem markByteS_own (g len cap : Nat) (k : Int) (w : World) (hk : 0 ≤ k) (hk2 : k ≤ 4194304) (hlen : len ≤ 1048576)
    (hc : ∀ i, i < len → ∃ v, w.cell? ⟨g, i, none⟩ = some (.int .u8 v)) (hf : ∀ i, i < len → w.frozen? ⟨g, i, none⟩ = false) :
    Calls Tryz.prog 89 #[.slice (some ⟨g, 0, none⟩) len cap, .int .i64 k] w fun e w' =>
      e = .returned (.int .i64 (k + len)) ∧ But g w w' ∧ (∀ i, i < len → w'.cell? ⟨g, i, none⟩ = some (.int .u8 ((k + (i : Nat)) % 256))) ∧ (∀ i, i < len → w'.frozen? ⟨g, i, none⟩ = false) := by
  go_enter Tryz.func89, Tryz.ntmps89
  go_wp2_with fail
  go_loopw [1, 5] (fun a b wr => ∃ j : Nat, j ≤ len ∧ a = .int .i64 (k + j) ∧ b = .int .i64 j ∧ But g w wr ∧ (∀ i : Nat, i < j → wr.cell? ⟨g, i, none⟩ = some (.int .u8 ((k + i) % 256))) ∧ (∀ i, i < len → ∃ v, wr.cell? ⟨g, i, none⟩ = some (.int .u8 v)) ∧ (∀ i, i < len → wr.frozen? ⟨g, i, none⟩ = false))
    (fun _ b _ => len - (intOf b).toNat)
  case atStart => exact ⟨0, Nat.zero_le _, by simp, rfl, But.refl _ _, fun i hi => by omega, hc, hf⟩
  case round =>
    obtain ⟨j, hj, rfl, rfl, hbut, hm1, hc1, hf1⟩ := hrel
    have HM : Hid (∀ i : Nat, i < j → wr.cell? ⟨g, i, none⟩ = some (.int .u8 ((k + i) % 256))) := hm1
    have HC : Hid (∀ i, i < len → ∃ v, wr.cell? ⟨g, i, none⟩ = some (.int .u8 v)) := hc1
    have HF : Hid (∀ i, i < len → wr.frozen? ⟨g, i, none⟩ = false) := hf1
    clear hc hf hc1 hf1 hm1
    by_cases hlt : j < len
    · obtain ⟨v, hv⟩ := HC.out j hlt
      have hfv := HF.out j hlt
      go_wp2
      go_roundw
      case rel =>
        refine ⟨j + 1, by omega, by go_num, by go_num, hbut.set _ _, fun i hi => ?_, fun i hi => ?_, fun i hi => ?_⟩
        · by_cases e : i = j
          · subst e
            exact set_same hv
          · rw [set_other (by omega)]
            exact HM.out i (by omega)
        · by_cases e : i = j
          · subst e
            exact ⟨_, set_same hv⟩
          · obtain ⟨u, hu⟩ := HC.out i hi
            exact ⟨u, by rw [set_other (by omega)]; exact hu⟩
        · rw [World.frozen?_setCell]
          exact HF.out i hi
      case measure => simp [intOf]; omega
    · obtain rfl : j = len := by omega
      have HM' := HM
      clear HM
      go_wp2
      go_ret
      exact ⟨rfl, hbut, HM'.out, HF.out⟩

/-- toTerm, with the world written out: the text lies in a new block of its own. -/
theorem toTerm_own (k n s : Int) (a : Option Addr) (len cap : Nat) (bs : List Int) (w : World) (hB : Bs w a len bs) :
    Calls Tryz.prog 20 #[.agg #[.int .i64 k, .slice a len cap, .int .i64 n, .int .i64 s]] w fun e w' =>
      e = .returned (.agg #[.int .i64 k, .slice (some ⟨w.heap.size + 1 + 1 + 1, 0, none⟩) len len, .int .i64 n, .int .i64 s]) ∧ ∃ o1 o2 o3, w' = (((w.alloc o1).alloc o2).alloc o3).alloc (.cells (cellsOf bs) 5) := by
  have hB3 : ∀ o1 o2 o3, Bs (((w.alloc o1).alloc o2).alloc o3) a len bs := fun o1 o2 o3 => hB.below (bl_alloc (bl_alloc (bl_alloc (Below.refl _ _) _) _) _)
  clear hB
  go_enter Tryz.func20, Tryz.ntmps20
  go_wp2_with (go_at_call 57; refine (toByteS_any a len cap bs _ (hB3 _ _ _)).mono ?_; rintro e w1 ⟨rfl, rfl⟩)
  simp [bodyPost, results, Tryz.results20, go_sem]
  exact ⟨_, _, _, rfl⟩

end Go.Proofs.YtdcaicoomldmgaaGreatDoor

/- OwnA -/
namespace Go.Proofs.YtdcaicoomldmgaaGreatDoor
open Go.RowKit Go.Deep

/-- A text of the call's own in block g: what it holds, and that it may be written. -/
def OwnT (w : World) (g len : Nat) (bs : List Int) : Prop :=
  Bs w (some ⟨g, 0, none⟩) len bs ∧ g < w.heap.size ∧ (∀ i, i < len → ∃ v, w.cell? ⟨g, i, none⟩ = some (.int .u8 v)) ∧ (∀ i, i < len → w.frozen? ⟨g, i, none⟩ = false)
theorem OwnT.below {w w' : World} {g len : Nat} {bs : List Int} (h : OwnT w g len bs) (hb : Below w.heap.size w w') : OwnT w' g len bs := by
  obtain ⟨h1, h2, h3, h4⟩ := h
  refine ⟨h1.below hb, Nat.lt_of_lt_of_le h2 hb.size, fun i hi => ?_, fun i hi => (hb.frozen (p := ⟨g, i, none⟩) h2).trans (h4 i hi)⟩
  obtain ⟨v, hv⟩ := h3 i hi
  exact ⟨v, (hb.cell (p := ⟨g, i, none⟩) h2).trans hv⟩
theorem Bs.but {w w' : World} {g b len : Nat} {bs : List Int} (h : Bs w (some ⟨b, 0, none⟩) len bs) (hb : But g w w') (hne : b ≠ g) : Bs w' (some ⟨b, 0, none⟩) len bs := by
  obtain ⟨h1, h2, h3, h4⟩ := h
  refine ⟨h1, h2, h3, ?_⟩
  rcases h4 with h4 | ⟨b', off, ha, hlt, hc⟩
  · exact .inl h4
  · cases ha
    exact .inr ⟨b, 0, rfl, by rw [hb.size]; exact hlt, fun i hi => (hb.cell (p := ⟨b, 0 + i, none⟩) hne).trans (hc i hi)⟩
theorem OwnT.but {w w' : World} {g b len : Nat} {bs : List Int} (h : OwnT w b len bs) (hb : But g w w') (hne : b ≠ g) : OwnT w' b len bs := by
  obtain ⟨h1, h2, h3, h4⟩ := h
  refine ⟨h1.but hb hne, by rw [hb.size]; exact h2, fun i hi => ?_, fun i hi => (hb.frozen (p := ⟨b, i, none⟩) hne).trans (h4 i hi)⟩
  obtain ⟨v, hv⟩ := h3 i hi
  exact ⟨v, (hb.cell (p := ⟨b, i, none⟩) hne).trans hv⟩
theorem At4.but {w w' : World} {g b : Nat} {v0 v1 v2 v3 : Value} (h : At4 w b v0 v1 v2 v3) (hb : But g w w') (hne : b ≠ g) : At4 w' b v0 v1 v2 v3 := by
  obtain ⟨hl, h0, h1, h2, h3⟩ := h
  exact ⟨by rw [hb.size]; exact hl, (hb.cell (p := ⟨b, 0, none⟩) hne).trans h0, (hb.cell (p := ⟨b, 1, none⟩) hne).trans h1, (hb.cell (p := ⟨b, 2, none⟩) hne).trans h2, (hb.cell (p := ⟨b, 3, none⟩) hne).trans h3⟩
/-- toTerm: the text lies in a new block of its own; the world written out. -/
theorem toTerm_out (k n s : Int) (a : Option Addr) (len cap : Nat) (bs : List Int) (w : World) (hB : Bs w a len bs) :
    Calls Tryz.prog 20 #[.agg #[.int .i64 k, .slice a len cap, .int .i64 n, .int .i64 s]] w fun e w' =>
      e = .returned (.agg #[.int .i64 k, .slice (some ⟨w.heap.size + 1 + 1 + 1, 0, none⟩) len len, .int .i64 n, .int .i64 s]) ∧ ∃ o1 o2 o3, OwnT w' (w.heap.size + 1 + 1 + 1) len bs ∧ w' = (((w.alloc o1).alloc o2).alloc o3).alloc (.cells (cellsOf bs) 5) := by
  refine (toTerm_own k n s a len cap bs w hB).mono ?_
  obtain ⟨hl, h2, h3, _⟩ := hB
  rintro e w' ⟨rfl, o1, o2, o3, rfl⟩
  refine ⟨rfl, o1, o2, o3, ⟨?_, by simp, fun i hi => ?_, fun i hi => ?_⟩, rfl⟩
  · have := Bs.made (((w.alloc o1).alloc o2).alloc o3) bs len hl h2 h3
    simpa using this
  · have hi' : i < bs.length := by omega
    exact ⟨bs[i], by simp [go_sem, cellsOf, hi']⟩
  · have hi' : i < bs.length := by omega
    simp [go_sem, cellsOf]
/-- .. the world hidden. -/
theorem toTerm_new (k n s : Int) (a : Option Addr) (len cap : Nat) (bs : List Int) (w : World) (hB : Bs w a len bs) :
    Calls Tryz.prog 20 #[.agg #[.int .i64 k, .slice a len cap, .int .i64 n, .int .i64 s]] w fun e w' =>
      ∃ g, e = .returned (.agg #[.int .i64 k, .slice (some ⟨g, 0, none⟩) len len, .int .i64 n, .int .i64 s]) ∧ OwnT w' g len bs ∧ w.heap.size ≤ g ∧ Below w.heap.size w w' := by
  refine (toTerm_out k n s a len cap bs w hB).mono ?_
  rintro e w' ⟨rfl, o1, o2, o3, hO, rfl⟩
  exact ⟨_, rfl, hO, by omega, bl_alloc (bl_alloc (bl_alloc (bl_a _) _) _) _⟩
end Go.Proofs.YtdcaicoomldmgaaGreatDoor
