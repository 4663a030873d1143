/- Texts put together: DvStwC DvStwD DvStwE -/
import Derived.Test.YtdcaicoomldmgaaGreatDoorMkWa
import Derived.Test.YtdcaicoomldmgaaGreatDoorMk38
import Derived.Test.YtdcaicoomldmgaaGreatDoorMk42
/- DvStwC -/
namespace Go.Proofs.YtdcaicoomldmgaaGreatDoor
open Go.RowKit Go.Deep
set_option maxRecDepth 100000

theorem ownsRow_upper {w w' : World} {B : Nat} {T : TypeId} {c : Nat} {v : Value} {n : Nat} {l : List Value} (h : w.ownsRow B T c v n l) {H : Nat} (hl : ∀ g, v.ownBlock = some g → g < H) (hu : ∀ b, B ≤ b → b < H → w'.heap[b]? = w.heap[b]?) : w'.ownsRow B T c v n l := by
  obtain ⟨h1, h2⟩ := h
  refine ⟨h1, ?_⟩
  rcases h2 with h2 | ⟨g', cap', cur, hv, hB, hh, r⟩
  · exact .inl h2
  · refine .inr ⟨g', cap', cur, hv, hB, ?_, r⟩
    rw [hu g' hB (hl g' (by rw [hv]; rfl))]
    exact hh
theorem ownsRow_base {w : World} {B B' : Nat} {T : TypeId} {c : Nat} {v : Value} {n : Nat} {l : List Value} (h : w.ownsRow B' T c v n l) (hB : B ≤ B') : w.ownsRow B T c v n l := by
  obtain ⟨h1, h2⟩ := h
  refine ⟨h1, ?_⟩
  rcases h2 with h2 | ⟨g', cap', cur, hv, hb, r⟩
  · exact .inl h2
  · exact .inr ⟨g', cap', cur, hv, Nat.le_trans hB hb, r⟩
/-- A row of the call's own has its cells, which may be written. -/
theorem ownsRow_cells {w : World} {B : Nat} {T : TypeId} {c g n cap : Nat} {l : List Value} (h : w.ownsRow B T c (.slice (some ⟨g, 0, none⟩) n cap) n l) : (∀ j u, l[j]? = some u → w.cell? ⟨g, j, none⟩ = some u) ∧ ∀ j, w.frozen? ⟨g, j, none⟩ = false := by
  obtain ⟨h1, h2⟩ := h
  rcases h2 with ⟨h2, _⟩ | ⟨g', cap', cur, hv, hB, hh, _, _, hsz, htk⟩
  · cases h2
  · cases hv
    refine ⟨fun j u hu => ?_, fun j => by simp [World.frozen?, hh]⟩
    have hj := (List.getElem?_eq_some_iff.1 hu).1
    rw [← htk, List.getElem?_take, if_pos (by rw [h1] at hj; exact hj)] at hu
    simp only [World.cell?, hh]
    simpa using hu

/-- A text of the call's own stays, where its block does. -/
theorem OwnY.upperH {w w' : World} {B H : Nat} {a : Option Addr} {len cap : Nat} {bs : List Int} (h : OwnY w B a len cap bs) (hl : ∀ p, a = some p → p.block < H) (hu : ∀ b, B ≤ b → b < H → w'.heap[b]? = w.heap[b]?) (hs : w.heap.size ≤ w'.heap.size) : OwnY w' B a len cap bs := by
  obtain ⟨h1, h3, ⟨b1, b2, b3, b4⟩⟩ := h
  refine ⟨ownsRow_upper (H := H) h1 (fun g hg => ?_) hu, fun ad ha => ⟨(h3 ad ha).1, Nat.lt_of_lt_of_le (h3 ad ha).2 hs⟩, ⟨b1, b2, b3, ?_⟩⟩
  · cases a with
    | none => cases hg
    | some p => have := hl p rfl; cases hg; exact this
  · rcases b4 with b4 | ⟨b, off, rfl, hbl, hcc⟩
    · exact .inl b4
    · refine .inr ⟨b, off, rfl, Nat.lt_of_lt_of_le hbl hs, fun i hi => ?_⟩
      rw [World.cell?_of_block (w := w) (a := ⟨b, off + i, none⟩) (hu b (h3 _ rfl).1 (hl _ rfl))]
      exact hcc i hi

/-- A store that a call has made: each list in a block of its own, from C on, below H. -/
structure OS (w : World) (C H : Nat) (vT vR : Value) (r : List TB) (rbs : List RB) : Prop where
  ot : OwnTR w C vT r
  oy : ∀ y ∈ r, OwnY w C y.t.a y.t.len y.t.cap y.b
  pw : r.Pairwise (fun x y => ∀ p q, x.t.a = some p → y.t.a = some q → p.block < q.block)
  ty : ∀ y ∈ r, ∀ p, y.t.a = some p → vT.ownBlock ≠ some p.block
  ov : OwnV w C vR (rbs.map RB.v)
  rr : ∀ x ∈ rbs, OwnRR w C x.v x.l
  rd : ∀ x ∈ rbs, ∀ g, x.v.ownBlock = some g → vR.ownBlock ≠ some g
  rp : rbs.Pairwise (fun x y => ∀ p q, x.v.ownBlock = some p → y.v.ownBlock = some q → p < q)
  tv : ∀ g, vR.ownBlock = some g → vT.ownBlock ≠ some g ∧ ∀ y ∈ r, ∀ p, y.t.a = some p → p.block ≠ g
  tr : ∀ x ∈ rbs, ∀ g, x.v.ownBlock = some g → vT.ownBlock ≠ some g ∧ ∀ y ∈ r, ∀ p, y.t.a = some p → p.block ≠ g
  gd : ∀ y ∈ r, y.good
  nr : r.length ≤ 180
  ns : rbs.length ≤ 6
  nl : ∀ x ∈ rbs, x.l.length ≤ 60
  h1 : ∀ g, vT.ownBlock = some g → g < H
  h2 : ∀ y ∈ r, ∀ p, y.t.a = some p → p.block < H
  h3 : ∀ g, vR.ownBlock = some g → g < H
  h4 : ∀ x ∈ rbs, ∀ g, x.v.ownBlock = some g → g < H
  hh : C ≤ H ∧ H ≤ w.heap.size
theorem OS.upper {w w' : World} {C H : Nat} {vT vR : Value} {r : List TB} {rbs : List RB} (h : OS w C H vT vR r rbs) (hs : w.heap.size ≤ w'.heap.size) (hu : ∀ b, C ≤ b → b < H → w'.heap[b]? = w.heap[b]?) : OS w' C H vT vR r rbs := by
  refine ⟨⟨ownsRow_upper h.ot.1 h.h1 hu, fun g hg => ⟨(h.ot.2 g hg).1, Nat.lt_of_lt_of_le (h.ot.2 g hg).2 hs⟩⟩, fun y hy => (h.oy y hy).upperH (h.h2 y hy) hu hs, h.pw, h.ty,
    ⟨ownsRow_upper h.ov.1 h.h3 hu, fun g hg => ⟨(h.ov.2 g hg).1, Nat.lt_of_lt_of_le (h.ov.2 g hg).2 hs⟩⟩,
    fun x hx => ⟨ownsRow_upper (h.rr x hx).1 (h.h4 x hx) hu, fun g hg => ⟨((h.rr x hx).2 g hg).1, Nat.lt_of_lt_of_le ((h.rr x hx).2 g hg).2 hs⟩⟩, h.rd, h.rp, h.tv, h.tr, h.gd, h.nr, h.ns, h.nl, h.h1, h.h2, h.h3, h.h4, h.hh.1, Nat.le_trans h.hh.2 hs⟩
theorem OS.below {w w' : World} {C H : Nat} {vT vR : Value} {r : List TB} {rbs : List RB} (h : OS w C H vT vR r rbs) (hb : Below w.heap.size w w') : OS w' C H vT vR r rbs := h.upper hb.size (fun b _ hb' => hb.block b (Nat.lt_of_lt_of_le hb' h.hh.2))
theorem OS.nil {w : World} {C : Nat} (hC : C ≤ w.heap.size) : OS w C w.heap.size (.slice none 0 0) (.slice none 0 0) [] [] := by
  refine ⟨OwnTR.nil _ _, ?_, .nil, ?_, OwnV.nil _ _, ?_, ?_, .nil, ?_, ?_, ?_, by simp, by simp, ?_, ?_, ?_, ?_, ?_, hC, Nat.le_refl _⟩
  all_goals first | (intro y hy; cases hy) | (intro g hg; cases hg)

theorem OS.arg {w : World} {C H : Nat} {vT vR : Value} {r : List TB} {rbs : List RB} (h : OS w C H vT vR r rbs) : ∃ aT capT aR capR, vT = .slice aT r.length capT ∧ vR = .slice aR rbs.length capR ∧ SArg w aT r aR rbs := by
  obtain ⟨aT, capT, hvT, hT, _⟩ := h.ot.form
  have hh : SHold w rbs := fun x hx => by
    obtain ⟨a, cap, hv, hr, _⟩ := (h.rr x hx).form
    have := h.nl x hx
    simp only [RB.v, Value.slice.injEq] at hv
    exact ⟨by rw [hv.1]; exact hr, by omega⟩
  have hn := h.nr
  have hs := h.ns
  have hfit : ∀ y ∈ r, y.t.fits := fun y hy => fits_of_ok (TB.ok (h.gd y hy))
  rcases h.ov.1.2 with ⟨rfl, h0⟩ | ⟨g, cap, cur, hv, hB, hc, hle, _, hsz, htk⟩
  · have h0 : rbs = [] := by simpa using h0
    subst h0
    exact ⟨aT, capT, none, 0, hvT, rfl, hT, fun y hy => (h.oy y hy).2.2, hfit, by omega, .inl rfl, hh, by simp⟩
  · refine ⟨aT, capT, some ⟨g, 0, none⟩, cap, hvT, by simpa using hv, hT, fun y hy => (h.oy y hy).2.2, hfit, by omega, .inr ⟨g, 0, rfl, (h.ov.2 g (by rw [hv]; rfl)).2, fun i x hx => ?_⟩, hh, by omega⟩
    have hown := h.ov.1
    rw [hv] at hown
    rw [Nat.zero_add]
    exact (ownsRow_cells hown).1 i _ (by rw [List.getElem?_map, hx]; rfl)

/-- Of a list: where its i-th text lies, and how long it is. -/
def tA (r : List TB) (i : Nat) : Option Addr := match r[i]? with | some x => x.t.a | none => none
def tL (r : List TB) (i : Nat) : Nat := match r[i]? with | some x => x.t.len | none => 0
def tC (r : List TB) (i : Nat) : Nat := match r[i]? with | some x => x.t.cap | none => 0
def rA (l : List RB) (i : Nat) : Option Addr := match l[i]? with | some x => x.a | none => none
def rL (l : List RB) (i : Nat) : Nat := match l[i]? with | some x => x.l.length | none => 0
def rC (l : List RB) (i : Nat) : Nat := match l[i]? with | some x => x.cap | none => 0
theorem tAt {r : List TB} {i : Nat} (hi : i < r.length) : ∃ x, r[i]? = some x ∧ x ∈ r ∧ tA r i = x.t.a ∧ tL r i = x.t.len ∧ tC r i = x.t.cap := by
  have e : r[i]? = some r[i] := List.getElem?_eq_getElem hi
  exact ⟨_, e, List.getElem_mem hi, by simp [tA, e], by simp [tL, e], by simp [tC, e]⟩
theorem rAt {r : List RB} {i : Nat} (hi : i < r.length) : ∃ x, r[i]? = some x ∧ x ∈ r ∧ rA r i = x.a ∧ rL r i = x.l.length ∧ rC r i = x.cap := by
  have e : r[i]? = some r[i] := List.getElem?_eq_getElem hi
  exact ⟨_, e, List.getElem_mem hi, by simp [rA, e], by simp [rL, e], by simp [rC, e]⟩
theorem pair_ne {α : Type} {R : α → α → Prop} {l : List α} (h : l.Pairwise R) {i j : Nat} {x y : α} (hx : l[i]? = some x) (hy : l[j]? = some y) (ij : i < j) : R x y := by
  obtain ⟨h1, rfl⟩ := List.getElem?_eq_some_iff.1 hx
  obtain ⟨h2, rfl⟩ := List.getElem?_eq_some_iff.1 hy
  exact List.pairwise_iff_getElem.1 h i j h1 h2 ij

theorem termOk_len {k n s : Int} {bs : List Int} (h : termOk k bs n s = true) : bs.length ≤ 30 := by
  unfold termOk nameOk textOk at h
  split at h
  · simp at h; first | omega | simp_all
  · split at h
    · simp at h; first | omega | simp_all
    · split at h
      · simp at h; first | omega | simp_all
      · split at h
        · simp at h; first | omega | simp_all
        · cases h

theorem OwnY.tx {w : World} {C : Nat} {a : Option Addr} {len cap : Nat} {bs : List Int} (h : OwnY w C a len cap bs) : TxW w a len := by
  obtain ⟨h1, h2, h3⟩ := h
  refine ⟨h3.2.1, ?_⟩
  rcases h1.2 with ⟨hv, h0⟩ | ⟨g, c, cur, hv, hB, hh, _⟩
  · exact .inl h0
  · have ea : a = some ⟨g, 0, none⟩ := by simp only [Value.slice.injEq] at hv; exact hv.1
    subst ea
    refine .inr ⟨g, rfl, (h2 _ rfl).2, fun i hi => ?_⟩
    obtain ⟨hc, hf⟩ := ownsRow_cells h1
    have hl : bs.length = len := h3.1
    have e : (bs.map (Value.int .u8))[i]? = some (.int .u8 bs[i]) := by rw [List.getElem?_map, List.getElem?_eq_getElem (by omega)]; rfl
    exact ⟨⟨_, hc i _ e⟩, hf i⟩

theorem OS.mt {w : World} {C H g cap : Nat} {vR : Value} {r : List TB} {rbs : List RB} (h : OS w C H (.slice (some ⟨g, 0, none⟩) r.length cap) vR r rbs) : MT w g r.length (tA r) (tL r) (tC r) := by
  refine ⟨fun j hj => ?_, fun j _ => ownT_fr h.ot j, fun i hi => ?_, fun i hi => ?_, fun i hi => ?_, fun i j hi hj ij p hp hl => ?_⟩
  · have hi : j / 4 < r.length := by omega
    obtain ⟨x, hx, _⟩ := tAt hi
    obtain ⟨c0, c1, c2, c3⟩ := ownT_at h.ot (j / 4) x hx
    have hj4 : j = j / 4 * 4 + j % 4 := by omega
    have hlt : j % 4 < 4 := Nat.mod_lt _ (by omega)
    generalize j / 4 * 4 = o at *
    generalize j % 4 = c at *
    subst hj4
    rcases (by omega : c = 0 ∨ c = 1 ∨ c = 2 ∨ c = 3) with rfl | rfl | rfl | rfl
    · exact ⟨_, c0⟩
    · exact ⟨_, c1⟩
    · exact ⟨_, c2⟩
    · exact ⟨_, c3⟩
  · obtain ⟨x, hx, _, e1, e2, e3⟩ := tAt hi
    rw [e1, e2, e3]
    exact (ownT_at h.ot i x hx).2.1
  · obtain ⟨x, _, hm, e1, e2, _⟩ := tAt hi
    rw [e1, e2]
    exact (h.oy x hm).tx
  · obtain ⟨x, _, hm, e1, e2, _⟩ := tAt hi
    rw [e1, e2]
    exact .inr fun p hp e => h.ty x hm p hp (by rw [e]; rfl)
  · obtain ⟨x, hx, _, e1, e2, _⟩ := tAt hi
    obtain ⟨y, hy, _, e3, _⟩ := tAt hj
    rw [e1, e2]
    rw [e3] at hp
    refine .inr fun q hq e => ?_
    rcases Nat.lt_or_gt_of_ne ij with c | c
    · have := pair_ne h.pw hx hy c q p hq hp; omega
    · have := pair_ne h.pw hy hx c p q hp hq; omega

theorem OwnRR.rw {w : World} {C : Nat} {x : RB} (h : OwnRR w C x.v x.l) (hl : x.l.length ≤ 60) : RwW w x.a x.l.length := by
  refine ⟨by omega, ?_⟩
  have h1 := h.1
  rcases h.1.2 with ⟨hv, h0⟩ | ⟨g, c, cur, hv, hB, hh, _⟩
  · exact .inl h0
  · have ea : x.a = some ⟨g, 0, none⟩ := by simp only [RB.v, Value.slice.injEq] at hv; exact hv.1
    rw [hv] at h1
    obtain ⟨hc, hf⟩ := ownsRow_cells h1
    refine .inr ⟨g, ea, (h.2 g (by rw [hv]; rfl)).2, fun j hj => ?_, fun j _ => hf j⟩
    have hj' : j < (flat3 x.l).length := by rw [flat3_len]; exact hj
    exact ⟨_, hc j _ (List.getElem?_eq_getElem hj')⟩
theorem RB.own {x : RB} {p : Addr} (h : x.a = some p) : x.v.ownBlock = some p.block := by simp [RB.v, h, Value.ownBlock]

theorem OS.ms {w : World} {C H g cap : Nat} {vT : Value} {r : List TB} {rbs : List RB} (h : OS w C H vT (.slice (some ⟨g, 0, none⟩) rbs.length cap) r rbs) : MS w g rbs.length (rA rbs) (rL rbs) (rC rbs) := by
  refine ⟨fun i hi => ?_, fun i hi => ?_, fun i hi => ?_, fun i j hi hj ij p hp hl => ?_⟩
  · obtain ⟨x, hx, _, e1, e2, e3⟩ := rAt hi
    rw [e1, e2, e3]
    have hown := h.ov.1
    simp only [List.length_map] at hown
    exact (ownsRow_cells hown).1 i _ (by rw [List.getElem?_map, hx]; rfl)
  · obtain ⟨x, hx, hm, e1, e2, e3⟩ := rAt hi
    rw [e1, e2]
    exact (h.rr x hm).rw (h.nl x hm)
  · obtain ⟨x, _, hm, e1, e2, _⟩ := rAt hi
    rw [e1, e2]
    exact .inr fun p hp e => h.rd x hm p.block (RB.own hp) (by rw [e]; rfl)
  · obtain ⟨x, hx, _, e1, e2, _⟩ := rAt hi
    obtain ⟨y, hy, _, e3, _⟩ := rAt hj
    rw [e1, e2]
    rw [e3] at hp
    refine .inr fun q hq e => ?_
    rcases Nat.lt_or_gt_of_ne ij with c | c
    · have := pair_ne h.rp hx hy c _ _ (RB.own hq) (RB.own hp); omega
    · have := pair_ne h.rp hy hx c _ _ (RB.own hp) (RB.own hq); omega

theorem posT_bound {L : Nat → Nat} {k : Int} (i : Nat) (hL : ∀ j, j < i → L j ≤ 30) : posT L k i ≤ k + 33 * (i : Int) := by
  induction i with
  | zero => simp [posT]
  | succ i ih =>
    have := ih (fun j hj => hL j (by omega))
    have := hL i (by omega)
    simp only [posT]
    omega
theorem posR_bound {L : Nat → Nat} {k : Int} (i : Nat) (hL : ∀ j, j < i → L j ≤ 60) : posR L k i ≤ k + 180 * (i : Int) := by
  induction i with
  | zero => simp [posR]
  | succ i ih =>
    have := ih (fun j hj => hL j (by omega))
    have := hL i (by omega)
    simp only [posR]
    omega
theorem OS.tlen {w : World} {C H : Nat} {vT vR : Value} {r : List TB} {rbs : List RB} (h : OS w C H vT vR r rbs) (i : Nat) (hi : i < r.length) : tL r i ≤ 30 := by
  obtain ⟨x, _, hm, _, e2, _⟩ := tAt hi
  have h1 := termOk_len (TB.ok (h.gd x hm))
  have h2 : x.b.length = x.t.len := (h.oy x hm).2.2.1
  omega
theorem OS.rlen {w : World} {C H : Nat} {vT vR : Value} {r : List TB} {rbs : List RB} (h : OS w C H vT vR r rbs) (i : Nat) (hi : i < rbs.length) : rL rbs i ≤ 60 := by
  obtain ⟨x, _, hm, _, e2, _⟩ := rAt hi
  rw [e2]
  exact h.nl x hm
end Go.Proofs.YtdcaicoomldmgaaGreatDoor

/- DvStwD -/
namespace Go.Proofs.YtdcaicoomldmgaaGreatDoor
open Go.RowKit Go.Deep
set_option maxRecDepth 100000

/-- The blocks of a store's terms; of its rows. -/
def ST (vT : Value) (r : List TB) (b : Nat) : Prop := vT.ownBlock = some b ∨ ∃ y ∈ r, ∃ p, y.t.a = some p ∧ p.block = b
def SR (rbs : List RB) (b : Nat) : Prop := ∃ x ∈ rbs, x.v.ownBlock = some b
/-- Its terms are marked; its rows are marked from k on. -/
def MHT (w : World) (a : Option Addr) (r : List TB) : Prop := r.length = 0 ∨ ∃ g, a = some ⟨g, 0, none⟩ ∧ g < w.heap.size ∧ ∀ i, i < r.length → MdT w g (tA r) (tL r) (tC r) (posT (tL r) 1 i) i
def MHR (w : World) (a : Option Addr) (rbs : List RB) (k : Int) : Prop := rbs.length = 0 ∨ ∃ g, a = some ⟨g, 0, none⟩ ∧ g < w.heap.size ∧ (∀ i, i < rbs.length → w.cell? ⟨g, i, none⟩ = some (.slice (rA rbs i) (rL rbs i) (rC rbs i))) ∧ ∀ i, i < rbs.length → MdR w (rA rbs i) (rL rbs i) (posR (rL rbs) k i)
theorem MHT.below {w w' : World} {a : Option Addr} {r : List TB} (h : MHT w a r) (hb : Below w.heap.size w w') : MHT w' a r := by
  rcases h with h | ⟨g, ha, hg, hm⟩
  · exact .inl h
  · exact .inr ⟨g, ha, Nat.lt_of_lt_of_le hg hb.size, fun i hi => (hm i hi).below hg hb⟩
theorem MHR.below {w w' : World} {a : Option Addr} {rbs : List RB} {k : Int} (h : MHR w a rbs k) (hb : Below w.heap.size w w') : MHR w' a rbs k := by
  rcases h with h | ⟨g, ha, hg, hc, hm⟩
  · exact .inl h
  · exact .inr ⟨g, ha, Nat.lt_of_lt_of_le hg hb.size, fun i hi => (hb.cell (p := ⟨g, i, none⟩) hg).trans (hc i hi), fun i hi => (hm i hi).below hb⟩

theorem MarkedW.only {S : Nat → Prop} {w w' : World} {a : Option Addr} {len : Nat} {k : Int} (h : MarkedW w a len k) (ho : Only S w w') (hS : ∀ p, a = some p → ¬ S p.block) : MarkedW w' a len k := by
  rcases h with h | ⟨g, ha, hg, hc⟩
  · exact .inl h
  · exact .inr ⟨g, ha, by rw [ho.size]; exact hg, fun i hi => (ho.cell (p := ⟨g, i, none⟩) (hS ⟨g, 0, none⟩ ha)).trans (hc i hi)⟩
theorem MdT.only {S : Nat → Prop} {w w' : World} {g : Nat} {X : Nat → Option Addr} {L Cp : Nat → Nat} {q : Int} {i : Nat} (h : MdT w g X L Cp q i) (ho : Only S w w') (hg : ¬ S g) (hS : ∀ p, X i = some p → ¬ S p.block) : MdT w' g X L Cp q i := by
  have e : ∀ i, w'.cell? ⟨g, i, none⟩ = w.cell? ⟨g, i, none⟩ := fun i => ho.cell (p := ⟨g, i, none⟩) hg
  exact ⟨(e _).trans h.c0, (e _).trans h.c1, h.t.only ho hS, (e _).trans h.c2, (e _).trans h.c3⟩
theorem RwW.only {S : Nat → Prop} {w w' : World} {a : Option Addr} {n : Nat} (h : RwW w a n) (ho : Only S w w') (hS : ∀ p, a = some p → ¬ S p.block) : RwW w' a n := by
  refine ⟨h.1, ?_⟩
  rcases h.2 with h0 | ⟨g, ha, hl, hx, hw⟩
  · exact .inl h0
  · have hne := hS _ ha
    exact .inr ⟨g, ha, by rw [ho.size]; exact hl, fun i hi => by rw [ho.cell (p := ⟨g, i, none⟩) hne]; exact hx i hi, fun i hi => by rw [ho.frozen (p := ⟨g, i, none⟩) hne]; exact hw i hi⟩
theorem MS.only {S : Nat → Prop} {w w' : World} {g n : Nat} {X : Nat → Option Addr} {L Cp : Nat → Nat} (h : MS w g n X L Cp) (ho : Only S w w') (hg : ¬ S g) (hS : ∀ i, i < n → ∀ p, X i = some p → ¬ S p.block) : MS w' g n X L Cp :=
  ⟨fun i hi => (ho.cell (p := ⟨g, i, none⟩) hg).trans (h.sl i hi), fun i hi => (h.rw i hi).only ho (hS i hi), h.off, h.dis⟩

theorem OS.markT {w : World} {C H : Nat} {vT vR : Value} {r : List TB} {rbs : List RB} (h : OS w C H vT vR r rbs) : ∃ aT capT, vT = .slice aT r.length capT ∧
    Calls Tryz.prog 46 #[.slice aT r.length capT, .int .i64 1] w fun e w' => e = .returned (.int .i64 (posT (tL r) 1 r.length)) ∧ MHT w' aT r ∧ Only (ST vT r) w w' := by
  have hn := h.nr
  rcases h.ot.1.2 with ⟨rfl, h0⟩ | ⟨g, cap, cur, hv, hB, hc, hle, _, hsz, htk⟩
  · refine ⟨none, 0, by rw [h0], ?_⟩
    rw [h0]
    refine (markTermS_zero none 0 1 w).mono ?_
    rintro e w' ⟨rfl, rfl⟩
    exact ⟨rfl, .inl h0, Only.refl _ _⟩
  · refine ⟨_, cap, hv, ?_⟩
    have hg := (h.ot.2 g (by rw [hv]; rfl)).2
    rw [hv] at h
    have hm := h.mt
    have hp : ∀ i, i ≤ r.length → posT (tL r) 1 i ≤ 4194000 := fun i hi => by
      have := posT_bound (L := tL r) (k := 1) i (fun j hj => h.tlen j (by omega))
      omega
    refine (markTermS_any g r.length cap _ _ _ 1 w (by omega) (by omega) hp hm).mono ?_
    rintro e w' ⟨rfl, hd, ho⟩
    refine ⟨rfl, .inr ⟨g, rfl, by rw [ho.size]; exact hg, hd⟩, ho.imp fun b hb => ?_⟩
    rcases hb with rfl | ⟨i, hi, _, p, hp, rfl⟩
    · exact .inl (by rw [hv]; rfl)
    · obtain ⟨x, _, hx, e1, _⟩ := tAt hi
      exact .inr ⟨x, hx, p, by rw [← e1]; exact hp, rfl⟩

theorem OS.markR {w w1 : World} {C H : Nat} {vT vR : Value} {r : List TB} {rbs : List RB} (h : OS w C H vT vR r rbs) (ho : Only (ST vT r) w w1) (k : Int) (hk : 0 ≤ k) (hk2 : k ≤ 100000) : ∃ aR capR, vR = .slice aR rbs.length capR ∧
    Calls Tryz.prog 47 #[.slice aR rbs.length capR, .int .i64 k] w1 fun e w' => e = .returned (.int .i64 (posR (rL rbs) k rbs.length)) ∧ MHR w' aR rbs k ∧ Only (SR rbs) w1 w' := by
  have hn := h.ns
  rcases h.ov.1.2 with ⟨rfl, h0⟩ | ⟨g, cap, cur, hv, hB, hc, hle, _, hsz, htk⟩
  · rw [List.length_map] at h0
    refine ⟨none, 0, by rw [h0], ?_⟩
    rw [h0]
    refine (markRowSS_zero none 0 k w1).mono ?_
    rintro e w' ⟨rfl, rfl⟩
    exact ⟨rfl, .inl h0, Only.refl _ _⟩
  · rw [List.length_map] at hv
    refine ⟨_, cap, hv, ?_⟩
    have hg := (h.ov.2 g (by rw [hv]; rfl)).2
    rw [hv] at h
    have hm := h.ms.only ho (fun e => by
        rcases e with e | ⟨y, hy, p, hp, e⟩
        · exact (h.tv g rfl).1 e
        · exact (h.tv g rfl).2 y hy p hp e)
      (fun i hi p hp e => by
        obtain ⟨x, _, hx, e1, _⟩ := rAt hi
        rw [e1] at hp
        rcases e with e | ⟨y, hy, q, hq, e⟩
        · exact (h.tr x hx p.block (RB.own hp)).1 e
        · exact (h.tr x hx p.block (RB.own hp)).2 y hy q hq e)
    have hp : ∀ i, i ≤ rbs.length → posR (rL rbs) k i ≤ 4194000 := fun i hi => by
      have := posR_bound (L := rL rbs) (k := k) i (fun j hj => h.rlen j (by omega))
      omega
    refine (markRowSS_any g rbs.length cap _ _ _ k w1 (by omega) (by omega) hp hm).mono ?_
    rintro e w' ⟨rfl, hd, hs, ho'⟩
    refine ⟨rfl, .inr ⟨g, rfl, by rw [ho'.size, ho.size]; exact hg, hs.sl, hd⟩, ho'.imp fun b hb => ?_⟩
    obtain ⟨i, hi, _, p, hp, rfl⟩ := hb
    obtain ⟨x, _, hx, e1, _⟩ := rAt hi
    exact ⟨x, hx, RB.own (by rw [← e1]; exact hp)⟩

theorem MHT.only {w w' : World} {C H : Nat} {vR : Value} {a : Option Addr} {cap : Nat} {W : World} {r : List TB} {rbs : List RB} (h : MHT w a r) (hO : OS W C H (.slice a r.length cap) vR r rbs) (ho : Only (SR rbs) w w') : MHT w' a r := by
  rcases h with h | ⟨g, rfl, hg, hm⟩
  · exact .inl h
  · refine .inr ⟨g, rfl, by rw [ho.size]; exact hg, fun i hi => (hm i hi).only ho ?_ (fun p hp e => ?_)⟩
    · rintro ⟨x, hx, e⟩
      exact (hO.tr x hx g e).1 rfl
    · obtain ⟨y, _, hy, e1, _⟩ := tAt hi
      rw [e1] at hp
      obtain ⟨x, hx, e⟩ := e
      exact (hO.tr x hx _ e).2 y hy p hp rfl

theorem Only.mid {S : Nat → Prop} {B C : Nat} {w w' : World} (h : Only S w w') (hS : ∀ b, S b → B ≤ b ∧ b < C) : Mid B C w w' :=
  ⟨h.os, h.tape, h.output, h.size, fun b hb => h.block b (fun e => by have := hS b e; omega)⟩
theorem Mid.trans {B C : Nat} {w w1 w2 : World} (h : Mid B C w w1) (k : Mid B C w1 w2) : Mid B C w w2 :=
  ⟨k.os.trans h.os, k.tape.trans h.tape, k.output.trans h.output, k.size.trans h.size, fun b hb => (k.block b hb).trans (h.block b hb)⟩

/-- How many marks there are. -/
def marksOf (r : List TB) (rbs : List RB) : Int := posR (rL rbs) (posT (tL r) 1 r.length) rbs.length
theorem marks_pos (r : List TB) (rbs : List RB) : 1 ≤ marksOf r rbs := Int.le_trans (posT_le (tL r) 1 r.length) (posR_le _ _ _)

set_option maxHeartbeats 2000000 in
theorem markStore_any {C H : Nat} {vT vR : Value} {r : List TB} {rbs : List RB} (w : World) (h : OS w C H vT vR r rbs) :
    ∃ aT capT aR capR, vT = .slice aT r.length capT ∧ vR = .slice aR rbs.length capR ∧ Calls Tryz.prog 14 #[.agg #[.slice aT r.length capT, .slice aR rbs.length capR], .int .i64 1] w fun e w' =>
      e = .returned (.int .i64 (marksOf r rbs)) ∧ MHT w' aT r ∧ MHR w' aR rbs (posT (tL r) 1 r.length) ∧ ∃ o, Mid C H (w.alloc o) w' := by
  obtain ⟨aT, capT, aR, capR, rfl, rfl, _⟩ := h.arg
  refine ⟨aT, capT, aR, capR, rfl, rfl, ?_⟩
  obtain ⟨n, hn⟩ : ∃ n, n = r.length := ⟨_, rfl⟩
  obtain ⟨m, hm⟩ : ∃ m, m = rbs.length := ⟨_, rfl⟩
  have hq0 := posT_le (tL r) 1 r.length
  have hq1 : posT (tL r) 1 r.length ≤ 100000 := by
    have := posT_bound (L := tL r) (k := 1) r.length (fun j hj => h.tlen j hj)
    have := h.nr
    omega
  have HO : Hid (∀ o, OS (w.alloc o) C H (.slice aT r.length capT) (.slice aR rbs.length capR) r rbs) := fun o => h.below (bl_a o)
  have HT : Hid (∀ o, Calls Tryz.prog 46 #[.slice aT r.length capT, .int .i64 1] (w.alloc o) fun e w' => e = .returned (.int .i64 (posT (tL r) 1 r.length)) ∧ MHT w' aT r ∧ Only (ST (.slice aT r.length capT) r) (w.alloc o) w') := fun o => by
    obtain ⟨a', c', e, hc⟩ := (HO.out o).markT
    simp only [Value.slice.injEq] at e
    obtain ⟨rfl, _, rfl⟩ := e
    exact hc
  have HR : Hid (∀ o w1, Only (ST (.slice aT r.length capT) r) (w.alloc o) w1 → Calls Tryz.prog 47 #[.slice aR rbs.length capR, .int .i64 (posT (tL r) 1 r.length)] w1 fun e w' => e = .returned (.int .i64 (marksOf r rbs)) ∧ MHR w' aR rbs (posT (tL r) 1 r.length) ∧ Only (SR rbs) w1 w') := fun o w1 ho => by
    obtain ⟨a', c', e, hc⟩ := (HO.out o).markR ho (posT (tL r) 1 r.length) (by omega) hq1
    simp only [Value.slice.injEq] at e
    obtain ⟨rfl, _, rfl⟩ := e
    exact hc
  have HST : Hid (∀ b, ST (.slice aT r.length capT) r b → C ≤ b ∧ b < H) := fun b hb => by
    rcases hb with hb | ⟨y, hy, p, hp, rfl⟩
    · exact ⟨(h.ot.2 b hb).1, h.h1 b hb⟩
    · exact ⟨((h.oy y hy).2.1 p hp).1, h.h2 y hy p hp⟩
  have HSR : Hid (∀ b, SR rbs b → C ≤ b ∧ b < H) := fun b ⟨x, hx, e⟩ => ⟨((h.rr x hx).2 b e).1, h.h4 x hx b e⟩
  have hHw := h.hh.2
  have HFIN : Hid (∀ o w1 w2, MHT w1 aT r → Only (SR rbs) w1 w2 → MHT w2 aT r) := fun o w1 w2 h1 h2 => h1.only (HO.out o) h2
  obtain ⟨q, hq⟩ : ∃ q, q = posT (tL r) 1 r.length := ⟨_, rfl⟩
  rw [← hq] at HT HR hq0 hq1 ⊢
  rw [← hn] at HT HR HST HO ⊢
  rw [← hm] at HR HO ⊢
  clear h hn hm hq
  go_enter Tryz.func14, Tryz.ntmps14
  go_wp2_with fail
  refine (HT.out _).mono ?_
  rintro e w1 ⟨rfl, hm1, ho1⟩
  have HM1 : Hid (MHT w1 aT r) := hm1
  have HO1 : Hid (Only (ST (.slice aT n capT) r) (w.alloc (.cells #[.slice aT n capT, .slice aR m capR] 29)) w1) := ho1
  have c1 : w1.cell? ⟨w.heap.size, 1, none⟩ = some (.slice aR m capR) := (ho1.cell (p := ⟨w.heap.size, 1, none⟩) (fun e => by have := (HST.out _ e).2; have e2 : (w.heap.size : Nat) < H := this; omega)).trans (by simp [go_sem])
  have c0 : w.heap.size < w1.heap.size := by rw [ho1.size]; simp
  have hR := HR.out _ w1 ho1
  clear hm1 ho1
  go_wp2_with fail
  refine hR.mono ?_
  rintro e w2 ⟨rfl, hm2, ho2⟩
  have HM2 : Hid (MHR w2 aR rbs q) := hm2
  have HO2 : Hid (Only (SR rbs) w1 w2) := ho2
  clear hm2 ho2 hR
  go_wp2_with fail
  go_ret
  exact ⟨rfl, HFIN.out (.cells #[] 0) w1 w2 HM1.out HO2.out, HM2.out, _, (HO1.out.mid HST.out).trans (HO2.out.mid HSR.out)⟩

set_option maxHeartbeats 2000000 in
theorem heldStore_any (aT aR : Option Addr) (capT capR : Nat) (r : List TB) (rbs : List RB) (w : World) (hT : MHT w aT r) (hR : MHR w aR rbs (posT (tL r) 1 r.length)) (hn : r.length ≤ 180) (hm : rbs.length ≤ 6) (hl : ∀ i, i < r.length → tL r i ≤ 30) (hl2 : ∀ i, i < rbs.length → rL rbs i ≤ 60) :
    Calls Tryz.prog 15 #[.agg #[.slice aT r.length capT, .slice aR rbs.length capR], .int .i64 1] w fun e w' => e = .returned (.int .i64 (marksOf r rbs)) ∧ Below w.heap.size w w' := by
  have hq0 := posT_le (tL r) 1 r.length
  have hq1 : posT (tL r) 1 r.length ≤ 100000 := by
    have := posT_bound (L := tL r) (k := 1) r.length (fun j hj => hl j hj)
    omega
  have hM0 := marks_pos r rbs
  have HT : Hid (∀ W, Below w.heap.size w W → Calls Tryz.prog 48 #[.slice aT r.length capT, .int .i64 1] W fun e w' => e = .returned (.int .i64 (posT (tL r) 1 r.length)) ∧ w' = W) := fun W hb => by
    rcases hT.below hb with h0 | ⟨g, rfl, hg, hd⟩
    · rw [h0]
      exact heldTermS_zero aT capT 1 W
    · exact heldTermS_any g r.length capT _ _ _ 1 W (by omega) (by omega) (fun i hi => by
        have := posT_bound (L := tL r) (k := 1) i (fun j hj => hl j (by omega))
        omega) (fun i hi => by have := hl i hi; omega) hd
  have HR : Hid (∀ W, Below w.heap.size w W → Calls Tryz.prog 49 #[.slice aR rbs.length capR, .int .i64 (posT (tL r) 1 r.length)] W fun e w' => e = .returned (.int .i64 (marksOf r rbs)) ∧ w' = W) := fun W hb => by
    rcases hR.below hb with h0 | ⟨g, rfl, hg, hc, hd⟩
    · have e : marksOf r rbs = posT (tL r) 1 r.length := by unfold marksOf; rw [h0]; rfl
      rw [h0, e]
      exact heldRowSS_zero aR capR _ W
    · exact heldRowSS_any g rbs.length capR _ _ _ _ W (by omega) (by omega) (fun i hi => by
        have := posR_bound (L := rL rbs) (k := posT (tL r) 1 r.length) i (fun j hj => hl2 j (by omega))
        omega) (fun i hi => by have := hl2 i hi; omega) hc hd
  generalize marksOf r rbs = M at *
  generalize posT (tL r) 1 r.length = q at *
  generalize r.length = n at *
  generalize rbs.length = m at *
  clear hT hR hl hl2
  go_enter Tryz.func15, Tryz.ntmps15
  go_wp2_with fail
  refine (HT.out _ (bl_a _)).mono ?_
  rintro e w1 ⟨rfl, rfl⟩
  go_wp2_with fail
  refine (HR.out _ (bl_a _)).mono ?_
  rintro e w2 ⟨rfl, rfl⟩
  go_wp2_with fail
  go_ret
  exact ⟨rfl, bl_a _⟩
end Go.Proofs.YtdcaicoomldmgaaGreatDoor

/- DvStwE -/
namespace Go.Proofs.YtdcaicoomldmgaaGreatDoor
open Go.RowKit Go.Deep
set_option maxRecDepth 100000

/-- What a graph's store is: its terms, and its rows in six orders. -/
def Ans (p : Bool) (n : Nat) (T U V : Nat → Tm) (bt bu bv : Nat → List Int) (D : List TD) (E : List (List (Int × Int × Int))) : Prop :=
  (p = false ∧ D = [] ∧ E = []) ∨ (p = true ∧ TermsOf (allT T U V bt bu bv n) D ∧ E.length = 6 ∧ ∀ i l, E[i]? = some l → RowsOf i (gRows D T U V bt bu bv n) l)
theorem Ans.unique {p : Bool} {n : Nat} {T U V : Nat → Tm} {bt bu bv : Nat → List Int} {D D' : List TD} {E E' : List (List (Int × Int × Int))} (hg : p = true → ∀ x ∈ allT T U V bt bu bv n, x.good) (h : Ans p n T U V bt bu bv D E) (h' : Ans p n T U V bt bu bv D' E') : D = D' ∧ E = E' := by
  rcases h with ⟨hp, rfl, rfl⟩ | ⟨hp, hT, hl, hr⟩
  · rcases h' with ⟨_, rfl, rfl⟩ | ⟨hp', _⟩
    · exact ⟨rfl, rfl⟩
    · rw [hp] at hp'
      cases hp'
  · rcases h' with ⟨hp', _⟩ | ⟨_, hT', hl', hr'⟩
    · rw [hp] at hp'
      cases hp'
    · have e : D = D' := hT.unique (hg hp) hT'
      subst e
      refine ⟨rfl, List.ext_getElem? fun i => ?_⟩
      by_cases hi : i < 6
      · have e1 : E[i]? = some E[i] := List.getElem?_eq_getElem (by omega)
        have e2 : E'[i]? = some E'[i] := List.getElem?_eq_getElem (by omega)
        rw [e1, e2, (hr i _ e1).unique (hr' i _ e2)]
      · rw [List.getElem?_eq_none (by omega), List.getElem?_eq_none (by omega)]

theorem Orders.lists {w : World} {B : Nat} {v : Value} {rows : List (Int × Int × Int)} {k : Nat} {vs : List Value} (h : Orders w B v rows k vs) : ∃ rbs : List RB, rbs.map RB.v = vs ∧ ∀ i x, rbs[i]? = some x → OwnRR w B x.v x.l ∧ RowsOf i rows x.l := by
  have hh : ∀ i, ∃ x : RB, i < k → vs[i]? = some x.v ∧ OwnRR w B x.v x.l ∧ RowsOf i rows x.l := by
    intro i
    by_cases hi : i < k
    · obtain ⟨y, hy⟩ : ∃ y, vs[i]? = some y := ⟨_, List.getElem?_eq_getElem (by rw [h.len]; exact hi)⟩
      obtain ⟨l, h1, h2, h3⟩ := h.row i y hy
      obtain ⟨a, c, rfl, _⟩ := h1.form
      exact ⟨⟨a, c, l⟩, fun _ => ⟨hy, h1, ⟨h2, h3⟩⟩⟩
    · exact ⟨⟨none, 0, []⟩, fun h => absurd h hi⟩
  obtain ⟨F, hF⟩ := Classical.axiomOfChoice hh
  refine ⟨(List.range k).map F, List.ext_getElem? fun i => ?_, fun i x hx => ?_⟩
  · by_cases hi : i < k
    · rw [(hF i hi).1, List.getElem?_map, List.getElem?_map, List.getElem?_range hi]
      rfl
    · rw [List.getElem?_eq_none (by simp; omega), List.getElem?_eq_none (by rw [h.len]; omega)]
  · rw [List.getElem?_map] at hx
    obtain ⟨j, hj, rfl⟩ := Option.map_eq_some_iff.1 hx
    obtain ⟨h1, h2⟩ := List.getElem?_eq_some_iff.1 hj
    simp at h1 h2
    subst h2
    exact (hF _ h1).2

/-- What the program's StoreOf answers. -/
def ImAns (w : World) (n : Nat) (T U V : Nat → Tm) (bt bu bv : Nat → List Int) (e : Ending) (w' : World) : Prop :=
  ∃ aT capT aR capR r rbs, e = .returned (.tuple #[.agg #[.slice aT r.length capT, .slice aR rbs.length capR], .bool (graphOk n T U V bt bu bv)]) ∧ OS w' w.heap.size w'.heap.size (.slice aT r.length capT) (.slice aR rbs.length capR) r rbs ∧ Ans (graphOk n T U V bt bu bv) n T U V bt bu bv (r.map TB.td) (rbs.map RB.l) ∧ Below w.heap.size w w'

theorem implStoreOf_any (a : Option Addr) (n cap : Nat) (T U V : Nat → Tm) (bt bu bv : Nat → List Int) (w : World) (hn : n ≤ 1048576) (hf : AllFit n T U V) (hR : Rows w a n T U V) (h1 : Texts w n T bt) (h2 : Texts w n U bu) (h3 : Texts w n V bv) (ht : Tab w) :
    Calls Tryz.prog 10 #[.agg #[.slice a n cap]] w (ImAns w n T U V bt bu bv) := by
  cases hok : graphOk n T U V bt bu bv
  · refine (implStoreOf_no a n cap T U V bt bu bv w hn hf hR h1 h2 h3 hok).mono ?_
    rintro e w' ⟨rfl, hb⟩
    exact ⟨none, 0, none, 0, [], [], by rw [hok]; rfl, OS.nil hb.size, .inl ⟨hok, rfl, rfl⟩, hb⟩
  · obtain ⟨hn60, hgg⟩ := graph_good hok h1 h2 h3
    refine (implStoreOf_yes a n cap T U V bt bu bv w hf hR h1 h2 h3 hok ht).mono ?_
    rintro e w' ⟨vT, vR, r, vs, B', B2, rfl, hOT, hTM, hrl, hb, hOY, hPW, hTB, hTB2, ⟨hB', hB2⟩, hTB3, hOR⟩
    obtain ⟨rbs, hmap, hrb⟩ := hOR.lists
    have hl6 : rbs.length = 6 := by
      have e1 := congrArg List.length hmap
      have e2 := hOR.len
      simp at e1
      omega
    have hmem : ∀ x ∈ rbs, OwnRR w' B2 x.v x.l ∧ x.l.length ≤ 60 ∧ x.v ∈ vs := fun x hx => by
      obtain ⟨i, hi, rfl⟩ := List.getElem_of_mem hx
      have hr := hrb i _ (List.getElem?_eq_getElem hi)
      refine ⟨hr.1, ?_, ?_⟩
      · rw [hr.2.perm.length_eq, gRows_len]
        exact hn60
      · rw [← hmap]
        exact List.mem_map_of_mem hx
    have hown : OwnV w' w.heap.size vR (rbs.map RB.v) := by
      rw [hmap]
      exact ⟨ownsRow_base hOR.own.1 hB2, fun g hg => ⟨Nat.le_trans hB2 (hOR.own.2 g hg).1, (hOR.own.2 g hg).2⟩⟩
    have hos : OS w' w.heap.size w'.heap.size vT vR r rbs := by
      refine ⟨hOT, fun y hy => (hOY y hy).base hB', hPW, fun y hy p hp e => ?_, hown, fun x hx => (hmem x hx).1.base hB2, fun x hx => hOR.dis x.v (hmem x hx).2.2, ?_, fun g hg => ⟨fun e => ?_, fun y hy p hp e => ?_⟩, fun x hx g hg => ⟨fun e => ?_, fun y hy p hp e => ?_⟩, fun y hy => ?_, by omega, by omega, fun x hx => (hmem x hx).2.1,
        fun g hg => (hOT.2 g hg).2, fun y hy p hp => ((hOY y hy).2.1 p hp).2, fun g hg => (hOR.own.2 g hg).2, fun x hx g hg => ((hmem x hx).1.2 g hg).2, hb.size, Nat.le_refl _⟩
      · have := hTB _ e
        have := ((hOY y hy).2.1 p hp).1
        omega
      · have := hOR.ord
        rw [← hmap, List.pairwise_map] at this
        exact this
      · have := hTB3 _ e
        have := (hOR.own.2 g hg).1
        omega
      · have := hTB2 y hy p hp
        have := (hOR.own.2 g hg).1
        omega
      · have := hTB3 _ e
        have := ((hmem x hx).1.2 g hg).1
        omega
      · have := hTB2 y hy p hp
        have := ((hmem x hx).1.2 g hg).1
        omega
      · exact allT_good (fun z hz => (hgg z hz).1) _ ((hTM.mem _).1 (List.mem_map_of_mem hy))
    obtain ⟨aT, capT, aR, capR, rfl, rfl, _⟩ := hos.arg
    refine ⟨aT, capT, aR, capR, r, rbs, by rw [hok], hos, .inr ⟨hok, hTM, by simpa using hl6, fun i l hl => ?_⟩, hb⟩
    rw [List.getElem?_map] at hl
    obtain ⟨x, hx, rfl⟩ := Option.map_eq_some_iff.1 hl
    exact (hrb i x hx).2

/-- A store stays where a box of two empty lists is written, which can't be a part of it. -/
theorem SArg.setbox {w : World} {c : Nat} {t : TypeId} {fr : Nat × Nat} {aT aR : Option Addr} {r : List TB} {rbs : List RB} (hc : w.heap[c]? = some (.cells #[.slice none 0 0, .slice none 0 0] t fr)) (h : SArg w aT r aR rbs) (h6 : rbs.length = 6) (v0 v1 : Value) :
    SArg ((w.setCell ⟨c, 0, none⟩ v0).setCell ⟨c, 1, none⟩ v1) aT r aR rbs := by
  have hb : But c w ((w.setCell ⟨c, 0, none⟩ v0).setCell ⟨c, 1, none⟩ v1) := ((But.refl c w).set 0 v0).set 1 v1
  have hin : ∀ o u, w.cell? ⟨c, o, none⟩ = some u → u = .slice none 0 0 ∧ o < 2 := by
    intro o u hu
    simp only [World.cell?, hc] at hu
    have ho : o < 2 := by
      apply Classical.byContradiction
      intro hn
      have : (#[Value.slice none 0 0, Value.slice none 0 0] : Array Value)[o]? = none := Array.getElem?_eq_none (by simp; omega)
      simp [this] at hu
    have : o = 0 ∨ o = 1 := by omega
    rcases this with rfl | rfl <;> simp at hu <;> exact ⟨hu.symm, ho⟩
  have hint : ∀ b o k n, w.cell? ⟨b, o, none⟩ = some (.int k n) → b ≠ c := fun b o k n hu e => by
    subst e
    have := (hin o _ hu).1
    cases this
  refine ⟨?_, fun x hx => ?_, h.fit, h.tlen, ?_, fun x hx => ⟨?_, (h.hold x hx).2⟩, h.rlen⟩
  · rcases h.trow with e | ⟨b, off, e, hl, hcc⟩
    · exact .inl e
    · by_cases hr : r = []
      · exact .inl hr
      · have hb0 : 0 < r.length := List.length_pos_iff.2 hr
        have h0 := TRow.at hcc 0 hb0
        have hne : b ≠ c := hint b _ _ _ h0.1
        exact .inr ⟨b, off, e, by rw [hb.size]; exact hl, fun j u hu => (hb.cell (p := ⟨b, off + j, none⟩) hne).trans (hcc j u hu)⟩
  · refine (h.ttxt x hx).butB hb ?_
    by_cases h0 : x.t.len = 0
    · exact .inl h0
    · obtain ⟨_, _, _, h4⟩ := h.ttxt x hx
      rcases h4 with h4 | ⟨b, off, e, _, hcc⟩
      · exact .inl h4
      · refine .inr fun p hp => ?_
        rw [e] at hp
        cases hp
        exact hint b _ _ _ (hcc 0 (by omega))
  · rcases h.srow with e | ⟨b, off, e, hl, hcc⟩
    · exact .inl e
    · have h5 : rbs[5]? = some rbs[5] := List.getElem?_eq_getElem (by omega)
      have hne : b ≠ c := fun e => by
        subst e
        have := (hin _ _ (hcc 5 _ h5)).2
        omega
      exact .inr ⟨b, off, e, by rw [hb.size]; exact hl, fun i x hx => (hb.cell (p := ⟨b, off + i, none⟩) hne).trans (hcc i x hx)⟩
  · rcases (h.hold x hx).1 with e | ⟨b, off, e, hl, hcc⟩
    · exact .inl e
    · refine .inr ⟨b, off, e, by rw [hb.size]; exact hl, fun j u hu => ?_⟩
      have hne : b ≠ c := by
        have hj : 0 < x.l.length := by
          have := (List.getElem?_eq_some_iff.1 hu).1
          rw [flat3_len] at this
          omega
        have := hcc 0 _ (by have := flat3_get x.l 0 0 hj (by omega); rw [Nat.zero_mul, Nat.add_zero] at this; rw [this]; rfl)
        exact hint b _ _ _ this
      exact (hb.cell (p := ⟨b, off + j, none⟩) hne).trans (hcc j u hu)

/-- What the model's StoreOf answers. -/
def SpAns (w : World) (n : Nat) (T U V : Nat → Tm) (bt bu bv : Nat → List Int) (e : Ending) (w' : World) : Prop :=
  ∃ aT capT aR capR r rbs, e = .returned (.tuple #[.agg #[.slice aT r.length capT, .slice aR rbs.length capR], .bool (graphOk n T U V bt bu bv)]) ∧ SArg w' aT r aR rbs ∧ Ans (graphOk n T U V bt bu bv) n T U V bt bu bv (r.map TB.td) (rbs.map RB.l) ∧ Below w.heap.size w w'

set_option maxHeartbeats 1000000 in
theorem specStoreOf_any (a : Option Addr) (n cap : Nat) (T U V : Nat → Tm) (bt bu bv : Nat → List Int) (w : World) (hn : n ≤ 1048576) (hf : AllFit n T U V) (hR : Rows w a n T U V) (h1 : Texts w n T bt) (h2 : Texts w n U bu) (h3 : Texts w n V bv) :
    Calls Tryz.prog 8 #[.agg #[.slice a n cap]] w (SpAns w n T U V bt bu bv) := by
  have O := fun (w' : World) (hq : Below w.heap.size w w') => specGraphOk_any a n cap T U V bt bu bv w' hn hf (hR.below hq) (h1.below hq) (h2.below hq) (h3.below hq)
  cases hok : graphOk n T U V bt bu bv
  · rw [hok] at O
    have HOK : Hid (graphOk n T U V bt bu bv = false) := hok
    clear hR h1 h2 h3 hf hok
    go_enter Tryz.func8, Tryz.ntmps8
    go_wp2_with fail
    refine (O _ (bl_alloc (bl_a _) _)).mono ?_
    rintro e w1 ⟨rfl, hb1⟩
    have HB1 : Hid (Below (w.heap.size + 1 + 1) ((w.alloc (.cells #[.slice a n cap] 34)).alloc (.cells #[.slice none 0 0, .slice none 0 0] 29)) w1) := (show Below _ _ _ by simpa using hb1)
    have c0 : w1.cell? ⟨w.heap.size + 1, 0, none⟩ = some (.slice none 0 0) := (HB1.out.cell (p := ⟨w.heap.size + 1, 0, none⟩) (by simp)).trans (by simp [go_sem])
    have c1 : w1.cell? ⟨w.heap.size + 1, 1, none⟩ = some (.slice none 0 0) := (HB1.out.cell (p := ⟨w.heap.size + 1, 1, none⟩) (by simp)).trans (by simp [go_sem])
    have f0 : w1.frozen? ⟨w.heap.size + 1, 0, none⟩ = false := (HB1.out.frozen (p := ⟨w.heap.size + 1, 0, none⟩) (by simp)).trans (by simp [go_sem])
    have f1 : w1.frozen? ⟨w.heap.size + 1, 1, none⟩ = false := (HB1.out.frozen (p := ⟨w.heap.size + 1, 1, none⟩) (by simp)).trans (by simp [go_sem])
    have hs1 : w.heap.size + 1 + 1 ≤ w1.heap.size := by have := HB1.out.size; simpa using this
    clear hb1 O
    go_wp2
    refine bodyPost_ret (v := .tuple #[.agg #[.slice none 0 0, .slice none 0 0], .bool false]) (by simp [results, Tryz.results8, go_sem, *]) rfl ?_
    have hb : Below w.heap.size w w1 := (bl_alloc (bl_a _) _).trans (HB1.out.mono (by omega))
    exact ⟨none, 0, none, 0, [], [], by rw [HOK.out]; rfl, ⟨.inl rfl, fun _ h => (by cases h), fun _ h => (by cases h), by simp, .inl rfl, fun _ h => (by cases h), by simp⟩, .inl ⟨HOK.out, rfl, rfl⟩, hb.trans ((Below.refl _ _).setCell (p := ⟨w.heap.size + 1, 0, none⟩) (Nat.le_succ _) _ |>.setCell (p := ⟨w.heap.size + 1, 1, none⟩) (Nat.le_succ _) _)⟩
  · rw [hok] at O
    have HOK : Hid (graphOk n T U V bt bu bv = true) := hok
    obtain ⟨hn60, hgg⟩ := graph_good hok h1 h2 h3
    have X := fun (w' : World) (hq : Below w.heap.size w w') => l3store_all a n cap T U V bt bu bv w' hn60 (hR.below hq) (fun y hy => ⟨(hgg y hy).1, (hgg y hy).2.below hq⟩)
    have HGD : Hid (∀ x ∈ allT T U V bt bu bv n, x.good) := allT_good (fun z hz => (hgg z hz).1)
    clear hR h1 h2 h3 hf hok hgg
    go_enter Tryz.func8, Tryz.ntmps8
    go_wp2_with fail
    refine (O _ (bl_alloc (bl_a _) _)).mono ?_
    rintro e w1 ⟨rfl, hb1⟩
    have HB1 : Hid (Below (w.heap.size + 1 + 1) ((w.alloc (.cells #[.slice a n cap] 34)).alloc (.cells #[.slice none 0 0, .slice none 0 0] 29)) w1) := (show Below _ _ _ by simpa using hb1)
    have hB1 : Below w.heap.size w w1 := (bl_alloc (bl_a _) _).trans (HB1.out.mono (by omega))
    have hs1 : w.heap.size + 1 + 1 ≤ w1.heap.size := by have := HB1.out.size; simpa using this
    have hbox : w1.cell? ⟨w.heap.size, 0, none⟩ = some (.slice a n cap) := (HB1.out.cell (p := ⟨w.heap.size, 0, none⟩) (by simp; omega)).trans (by simp [go_sem])
    clear hb1 O
    go_wp2_with fail
    refine (X _ hB1).mono ?_
    rintro e w2 ⟨aT, capT, aR, capR, r, rbs, rfl, hT, hX, hTM, hrl, h6, hS, hrb, hb2⟩
    have HA : Hid (SArg w2 aT r aR rbs) := by
      have hmem : ∀ y ∈ r, y.good := fun y hy => HGD.out _ ((hTM.mem _).1 (List.mem_map_of_mem hy))
      refine ⟨hT, hX, fun y hy => fits_of_ok (TB.ok (hmem y hy)), by omega, hS, fun x hx => ?_, by omega⟩
      obtain ⟨i, hi, rfl⟩ := List.getElem_of_mem hx
      have hr := hrb i _ (List.getElem?_eq_getElem hi)
      refine ⟨hr.1, ?_⟩
      rw [hr.2.perm.length_eq, gRows_len]
      omega
    have HM : Hid (Ans (graphOk n T U V bt bu bv) n T U V bt bu bv (r.map TB.td) (rbs.map RB.l)) := .inr ⟨HOK.out, hTM, by simpa using h6, fun i l hl => by
      rw [List.getElem?_map] at hl
      obtain ⟨x, hx, rfl⟩ := Option.map_eq_some_iff.1 hl
      exact (hrb i x hx).2⟩
    have HB : Hid (Below w.heap.size w w2) := bl_trans hB1 hb2
    have H6 : Hid (rbs.length = 6) := h6
    have c0 : w2.cell? ⟨w.heap.size + 1, 0, none⟩ = some (.slice none 0 0) := (hb2.cell (p := ⟨w.heap.size + 1, 0, none⟩) hs1).trans ((HB1.out.cell (p := ⟨w.heap.size + 1, 0, none⟩) (by simp)).trans (by simp [go_sem]))
    have c1 : w2.cell? ⟨w.heap.size + 1, 1, none⟩ = some (.slice none 0 0) := (hb2.cell (p := ⟨w.heap.size + 1, 1, none⟩) hs1).trans ((HB1.out.cell (p := ⟨w.heap.size + 1, 1, none⟩) (by simp)).trans (by simp [go_sem]))
    have f0 : w2.frozen? ⟨w.heap.size + 1, 0, none⟩ = false := (hb2.frozen (p := ⟨w.heap.size + 1, 0, none⟩) hs1).trans ((HB1.out.frozen (p := ⟨w.heap.size + 1, 0, none⟩) (by simp)).trans (by simp [go_sem]))
    have f1 : w2.frozen? ⟨w.heap.size + 1, 1, none⟩ = false := (hb2.frozen (p := ⟨w.heap.size + 1, 1, none⟩) hs1).trans ((HB1.out.frozen (p := ⟨w.heap.size + 1, 1, none⟩) (by simp)).trans (by simp [go_sem]))
    have hs2 : w.heap.size + 1 + 1 ≤ w2.heap.size := Nat.le_trans hs1 hb2.size
    have HSW : Hid (∀ v0 v1, Below w.heap.size w2 ((w2.setCell ⟨w.heap.size + 1, 0, none⟩ v0).setCell ⟨w.heap.size + 1, 1, none⟩ v1)) := fun v0 v1 => (Below.refl _ _).setCell (p := ⟨w.heap.size + 1, 0, none⟩) (Nat.le_succ _) _ |>.setCell (p := ⟨w.heap.size + 1, 1, none⟩) (Nat.le_succ _) _
    have HAB : Hid (∀ v0 v1, SArg ((w2.setCell ⟨w.heap.size + 1, 0, none⟩ v0).setCell ⟨w.heap.size + 1, 1, none⟩ v1) aT r aR rbs) := fun v0 v1 => HA.out.setbox (t := 29) (fr := (0, 0)) (by rw [hb2.block _ hs1, HB1.out.block _ (Nat.lt_succ_self _)]; have := Go.heap_alloc_new (w.alloc (.cells #[.slice a n cap] 34)) (.cells #[.slice none 0 0, .slice none 0 0] 29); simpa using this) h6 v0 v1
    clear hT hX hTM hrl h6 hS hrb hb2 hB1 X hbox
    go_wp2
    refine bodyPost_ret (v := .tuple #[.agg #[.slice aT r.length capT, .slice aR 6 capR], .bool true]) (by simp [results, Tryz.results8, go_sem, *]) rfl ?_
    exact ⟨aT, capT, aR, capR, r, rbs, by rw [HOK.out, H6.out], HAB.out _ _, HM.out, HB.out.trans (HSW.out _ _)⟩
end Go.Proofs.YtdcaicoomldmgaaGreatDoor
