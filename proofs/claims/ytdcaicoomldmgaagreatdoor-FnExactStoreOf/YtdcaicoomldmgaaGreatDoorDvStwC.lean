/- A store of the call's own: how it is kept, read, and what may be marked of it. -/
import Derived.Test.YtdcaicoomldmgaaGreatDoorDvStwB
import Derived.Test.YtdcaicoomldmgaaGreatDoorMk38
namespace Go.Proofs.YtdcaicoomldmgaaGreatDoor
open Go.RowKit Go.Deep
set_option maxRecDepth 100000

theorem ownsRow_upper {w w' : World} {B : Nat} {T : TypeId} {c : Nat} {v : Value} {n : Nat} {l : List Value} (h : w.ownsRow B T c v n l) {H : Nat} (hl : ∀ g, v.ownBlock = some g → g < H) (hu : ∀ b, B ≤ b → b < H → w'.heap[b]? = w.heap[b]?) : w'.ownsRow B T c v n l := by
  obtain ⟨h1, h2⟩ := h
  refine ⟨h1, ?_⟩
  rcases h2 with h2 | ⟨g', cap', cur, hv, hB, hh, r⟩
  · exact .inl h2
  · refine .inr ⟨g', cap', cur, hv, hB, ?_, r⟩
    rw [hu g' hB (hl g' (by rw [hv]; rfl))]
    exact hh
theorem ownsRow_base {w : World} {B B' : Nat} {T : TypeId} {c : Nat} {v : Value} {n : Nat} {l : List Value} (h : w.ownsRow B' T c v n l) (hB : B ≤ B') : w.ownsRow B T c v n l := by
  obtain ⟨h1, h2⟩ := h
  refine ⟨h1, ?_⟩
  rcases h2 with h2 | ⟨g', cap', cur, hv, hb, r⟩
  · exact .inl h2
  · exact .inr ⟨g', cap', cur, hv, Nat.le_trans hB hb, r⟩
/-- A row of the call's own has its cells, which may be written. -/
theorem ownsRow_cells {w : World} {B : Nat} {T : TypeId} {c g n cap : Nat} {l : List Value} (h : w.ownsRow B T c (.slice (some ⟨g, 0, none⟩) n cap) n l) : (∀ j u, l[j]? = some u → w.cell? ⟨g, j, none⟩ = some u) ∧ ∀ j, w.frozen? ⟨g, j, none⟩ = false := by
  obtain ⟨h1, h2⟩ := h
  rcases h2 with ⟨h2, _⟩ | ⟨g', cap', cur, hv, hB, hh, _, _, hsz, htk⟩
  · cases h2
  · cases hv
    refine ⟨fun j u hu => ?_, fun j => by simp [World.frozen?, hh]⟩
    have hj := (List.getElem?_eq_some_iff.1 hu).1
    rw [← htk, List.getElem?_take, if_pos (by rw [h1] at hj; exact hj)] at hu
    simp only [World.cell?, hh]
    simpa using hu

/-- A text of the call's own stays, where its block does. -/
theorem OwnY.upperH {w w' : World} {B H : Nat} {a : Option Addr} {len cap : Nat} {bs : List Int} (h : OwnY w B a len cap bs) (hl : ∀ p, a = some p → p.block < H) (hu : ∀ b, B ≤ b → b < H → w'.heap[b]? = w.heap[b]?) (hs : w.heap.size ≤ w'.heap.size) : OwnY w' B a len cap bs := by
  obtain ⟨h1, h3, ⟨b1, b2, b3, b4⟩⟩ := h
  refine ⟨ownsRow_upper (H := H) h1 (fun g hg => ?_) hu, fun ad ha => ⟨(h3 ad ha).1, Nat.lt_of_lt_of_le (h3 ad ha).2 hs⟩, ⟨b1, b2, b3, ?_⟩⟩
  · cases a with
    | none => cases hg
    | some p => have := hl p rfl; cases hg; exact this
  · rcases b4 with b4 | ⟨b, off, rfl, hbl, hcc⟩
    · exact .inl b4
    · refine .inr ⟨b, off, rfl, Nat.lt_of_lt_of_le hbl hs, fun i hi => ?_⟩
      rw [World.cell?_of_block (w := w) (a := ⟨b, off + i, none⟩) (hu b (h3 _ rfl).1 (hl _ rfl))]
      exact hcc i hi

/-- A store that a call has made: each list in a block of its own, from C on, below H. -/
structure OS (w : World) (C H : Nat) (vT vR : Value) (r : List TB) (rbs : List RB) : Prop where
  ot : OwnTR w C vT r
  oy : ∀ y ∈ r, OwnY w C y.t.a y.t.len y.t.cap y.b
  pw : r.Pairwise (fun x y => ∀ p q, x.t.a = some p → y.t.a = some q → p.block < q.block)
  ty : ∀ y ∈ r, ∀ p, y.t.a = some p → vT.ownBlock ≠ some p.block
  ov : OwnV w C vR (rbs.map RB.v)
  rr : ∀ x ∈ rbs, OwnRR w C x.v x.l
  rd : ∀ x ∈ rbs, ∀ g, x.v.ownBlock = some g → vR.ownBlock ≠ some g
  rp : rbs.Pairwise (fun x y => ∀ p q, x.v.ownBlock = some p → y.v.ownBlock = some q → p < q)
  tv : ∀ g, vR.ownBlock = some g → vT.ownBlock ≠ some g ∧ ∀ y ∈ r, ∀ p, y.t.a = some p → p.block ≠ g
  tr : ∀ x ∈ rbs, ∀ g, x.v.ownBlock = some g → vT.ownBlock ≠ some g ∧ ∀ y ∈ r, ∀ p, y.t.a = some p → p.block ≠ g
  gd : ∀ y ∈ r, y.good
  nr : r.length ≤ 180
  ns : rbs.length ≤ 6
  nl : ∀ x ∈ rbs, x.l.length ≤ 60
  h1 : ∀ g, vT.ownBlock = some g → g < H
  h2 : ∀ y ∈ r, ∀ p, y.t.a = some p → p.block < H
  h3 : ∀ g, vR.ownBlock = some g → g < H
  h4 : ∀ x ∈ rbs, ∀ g, x.v.ownBlock = some g → g < H
  hh : C ≤ H ∧ H ≤ w.heap.size
theorem OS.upper {w w' : World} {C H : Nat} {vT vR : Value} {r : List TB} {rbs : List RB} (h : OS w C H vT vR r rbs) (hs : w.heap.size ≤ w'.heap.size) (hu : ∀ b, C ≤ b → b < H → w'.heap[b]? = w.heap[b]?) : OS w' C H vT vR r rbs := by
  refine ⟨⟨ownsRow_upper h.ot.1 h.h1 hu, fun g hg => ⟨(h.ot.2 g hg).1, Nat.lt_of_lt_of_le (h.ot.2 g hg).2 hs⟩⟩, fun y hy => (h.oy y hy).upperH (h.h2 y hy) hu hs, h.pw, h.ty,
    ⟨ownsRow_upper h.ov.1 h.h3 hu, fun g hg => ⟨(h.ov.2 g hg).1, Nat.lt_of_lt_of_le (h.ov.2 g hg).2 hs⟩⟩,
    fun x hx => ⟨ownsRow_upper (h.rr x hx).1 (h.h4 x hx) hu, fun g hg => ⟨((h.rr x hx).2 g hg).1, Nat.lt_of_lt_of_le ((h.rr x hx).2 g hg).2 hs⟩⟩, h.rd, h.rp, h.tv, h.tr, h.gd, h.nr, h.ns, h.nl, h.h1, h.h2, h.h3, h.h4, h.hh.1, Nat.le_trans h.hh.2 hs⟩
theorem OS.below {w w' : World} {C H : Nat} {vT vR : Value} {r : List TB} {rbs : List RB} (h : OS w C H vT vR r rbs) (hb : Below w.heap.size w w') : OS w' C H vT vR r rbs := h.upper hb.size (fun b _ hb' => hb.block b (Nat.lt_of_lt_of_le hb' h.hh.2))
theorem OS.nil {w : World} {C : Nat} (hC : C ≤ w.heap.size) : OS w C w.heap.size (.slice none 0 0) (.slice none 0 0) [] [] := by
  refine ⟨OwnTR.nil _ _, ?_, .nil, ?_, OwnV.nil _ _, ?_, ?_, .nil, ?_, ?_, ?_, by simp, by simp, ?_, ?_, ?_, ?_, ?_, hC, Nat.le_refl _⟩
  all_goals first | (intro y hy; cases hy) | (intro g hg; cases hg)

theorem OS.arg {w : World} {C H : Nat} {vT vR : Value} {r : List TB} {rbs : List RB} (h : OS w C H vT vR r rbs) : ∃ aT capT aR capR, vT = .slice aT r.length capT ∧ vR = .slice aR rbs.length capR ∧ SArg w aT r aR rbs := by
  obtain ⟨aT, capT, hvT, hT, _⟩ := h.ot.form
  have hh : SHold w rbs := fun x hx => by
    obtain ⟨a, cap, hv, hr, _⟩ := (h.rr x hx).form
    have := h.nl x hx
    simp only [RB.v, Value.slice.injEq] at hv
    exact ⟨by rw [hv.1]; exact hr, by omega⟩
  have hn := h.nr
  have hs := h.ns
  have hfit : ∀ y ∈ r, y.t.fits := fun y hy => fits_of_ok (TB.ok (h.gd y hy))
  rcases h.ov.1.2 with ⟨rfl, h0⟩ | ⟨g, cap, cur, hv, hB, hc, hle, _, hsz, htk⟩
  · have h0 : rbs = [] := by simpa using h0
    subst h0
    exact ⟨aT, capT, none, 0, hvT, rfl, hT, fun y hy => (h.oy y hy).2.2, hfit, by omega, .inl rfl, hh, by simp⟩
  · refine ⟨aT, capT, some ⟨g, 0, none⟩, cap, hvT, by simpa using hv, hT, fun y hy => (h.oy y hy).2.2, hfit, by omega, .inr ⟨g, 0, rfl, (h.ov.2 g (by rw [hv]; rfl)).2, fun i x hx => ?_⟩, hh, by omega⟩
    have hown := h.ov.1
    rw [hv] at hown
    rw [Nat.zero_add]
    exact (ownsRow_cells hown).1 i _ (by rw [List.getElem?_map, hx]; rfl)

/-- Of a list: where its i-th text lies, and how long it is. -/
def tA (r : List TB) (i : Nat) : Option Addr := match r[i]? with | some x => x.t.a | none => none
def tL (r : List TB) (i : Nat) : Nat := match r[i]? with | some x => x.t.len | none => 0
def tC (r : List TB) (i : Nat) : Nat := match r[i]? with | some x => x.t.cap | none => 0
def rA (l : List RB) (i : Nat) : Option Addr := match l[i]? with | some x => x.a | none => none
def rL (l : List RB) (i : Nat) : Nat := match l[i]? with | some x => x.l.length | none => 0
def rC (l : List RB) (i : Nat) : Nat := match l[i]? with | some x => x.cap | none => 0
theorem tAt {r : List TB} {i : Nat} (hi : i < r.length) : ∃ x, r[i]? = some x ∧ x ∈ r ∧ tA r i = x.t.a ∧ tL r i = x.t.len ∧ tC r i = x.t.cap := by
  have e : r[i]? = some r[i] := List.getElem?_eq_getElem hi
  exact ⟨_, e, List.getElem_mem hi, by simp [tA, e], by simp [tL, e], by simp [tC, e]⟩
theorem rAt {r : List RB} {i : Nat} (hi : i < r.length) : ∃ x, r[i]? = some x ∧ x ∈ r ∧ rA r i = x.a ∧ rL r i = x.l.length ∧ rC r i = x.cap := by
  have e : r[i]? = some r[i] := List.getElem?_eq_getElem hi
  exact ⟨_, e, List.getElem_mem hi, by simp [rA, e], by simp [rL, e], by simp [rC, e]⟩
theorem pair_ne {α : Type} {R : α → α → Prop} {l : List α} (h : l.Pairwise R) {i j : Nat} {x y : α} (hx : l[i]? = some x) (hy : l[j]? = some y) (ij : i < j) : R x y := by
  obtain ⟨h1, rfl⟩ := List.getElem?_eq_some_iff.1 hx
  obtain ⟨h2, rfl⟩ := List.getElem?_eq_some_iff.1 hy
  exact List.pairwise_iff_getElem.1 h i j h1 h2 ij

theorem termOk_len {k n s : Int} {bs : List Int} (h : termOk k bs n s = true) : bs.length ≤ 30 := by
  unfold termOk nameOk textOk at h
  split at h
  · simp at h; first | omega | simp_all
  · split at h
    · simp at h; first | omega | simp_all
    · split at h
      · simp at h; first | omega | simp_all
      · split at h
        · simp at h; first | omega | simp_all
        · cases h

theorem OwnY.tx {w : World} {C : Nat} {a : Option Addr} {len cap : Nat} {bs : List Int} (h : OwnY w C a len cap bs) : TxW w a len := by
  obtain ⟨h1, h2, h3⟩ := h
  refine ⟨h3.2.1, ?_⟩
  rcases h1.2 with ⟨hv, h0⟩ | ⟨g, c, cur, hv, hB, hh, _⟩
  · exact .inl h0
  · have ea : a = some ⟨g, 0, none⟩ := by simp only [Value.slice.injEq] at hv; exact hv.1
    subst ea
    refine .inr ⟨g, rfl, (h2 _ rfl).2, fun i hi => ?_⟩
    obtain ⟨hc, hf⟩ := ownsRow_cells h1
    have hl : bs.length = len := h3.1
    have e : (bs.map (Value.int .u8))[i]? = some (.int .u8 bs[i]) := by rw [List.getElem?_map, List.getElem?_eq_getElem (by omega)]; rfl
    exact ⟨⟨_, hc i _ e⟩, hf i⟩

theorem OS.mt {w : World} {C H g cap : Nat} {vR : Value} {r : List TB} {rbs : List RB} (h : OS w C H (.slice (some ⟨g, 0, none⟩) r.length cap) vR r rbs) : MT w g r.length (tA r) (tL r) (tC r) := by
  refine ⟨fun j hj => ?_, fun j _ => ownT_fr h.ot j, fun i hi => ?_, fun i hi => ?_, fun i hi => ?_, fun i j hi hj ij p hp hl => ?_⟩
  · have hi : j / 4 < r.length := by omega
    obtain ⟨x, hx, _⟩ := tAt hi
    obtain ⟨c0, c1, c2, c3⟩ := ownT_at h.ot (j / 4) x hx
    have hj4 : j = j / 4 * 4 + j % 4 := by omega
    have hlt : j % 4 < 4 := Nat.mod_lt _ (by omega)
    generalize j / 4 * 4 = o at *
    generalize j % 4 = c at *
    subst hj4
    rcases (by omega : c = 0 ∨ c = 1 ∨ c = 2 ∨ c = 3) with rfl | rfl | rfl | rfl
    · exact ⟨_, c0⟩
    · exact ⟨_, c1⟩
    · exact ⟨_, c2⟩
    · exact ⟨_, c3⟩
  · obtain ⟨x, hx, _, e1, e2, e3⟩ := tAt hi
    rw [e1, e2, e3]
    exact (ownT_at h.ot i x hx).2.1
  · obtain ⟨x, _, hm, e1, e2, _⟩ := tAt hi
    rw [e1, e2]
    exact (h.oy x hm).tx
  · obtain ⟨x, _, hm, e1, e2, _⟩ := tAt hi
    rw [e1, e2]
    exact .inr fun p hp e => h.ty x hm p hp (by rw [e]; rfl)
  · obtain ⟨x, hx, _, e1, e2, _⟩ := tAt hi
    obtain ⟨y, hy, _, e3, _⟩ := tAt hj
    rw [e1, e2]
    rw [e3] at hp
    refine .inr fun q hq e => ?_
    rcases Nat.lt_or_gt_of_ne ij with c | c
    · have := pair_ne h.pw hx hy c q p hq hp; omega
    · have := pair_ne h.pw hy hx c p q hp hq; omega

theorem OwnRR.rw {w : World} {C : Nat} {x : RB} (h : OwnRR w C x.v x.l) (hl : x.l.length ≤ 60) : RwW w x.a x.l.length := by
  refine ⟨by omega, ?_⟩
  have h1 := h.1
  rcases h.1.2 with ⟨hv, h0⟩ | ⟨g, c, cur, hv, hB, hh, _⟩
  · exact .inl h0
  · have ea : x.a = some ⟨g, 0, none⟩ := by simp only [RB.v, Value.slice.injEq] at hv; exact hv.1
    rw [hv] at h1
    obtain ⟨hc, hf⟩ := ownsRow_cells h1
    refine .inr ⟨g, ea, (h.2 g (by rw [hv]; rfl)).2, fun j hj => ?_, fun j _ => hf j⟩
    have hj' : j < (flat3 x.l).length := by rw [flat3_len]; exact hj
    exact ⟨_, hc j _ (List.getElem?_eq_getElem hj')⟩
theorem RB.own {x : RB} {p : Addr} (h : x.a = some p) : x.v.ownBlock = some p.block := by simp [RB.v, h, Value.ownBlock]

theorem OS.ms {w : World} {C H g cap : Nat} {vT : Value} {r : List TB} {rbs : List RB} (h : OS w C H vT (.slice (some ⟨g, 0, none⟩) rbs.length cap) r rbs) : MS w g rbs.length (rA rbs) (rL rbs) (rC rbs) := by
  refine ⟨fun i hi => ?_, fun i hi => ?_, fun i hi => ?_, fun i j hi hj ij p hp hl => ?_⟩
  · obtain ⟨x, hx, _, e1, e2, e3⟩ := rAt hi
    rw [e1, e2, e3]
    have hown := h.ov.1
    simp only [List.length_map] at hown
    exact (ownsRow_cells hown).1 i _ (by rw [List.getElem?_map, hx]; rfl)
  · obtain ⟨x, hx, hm, e1, e2, e3⟩ := rAt hi
    rw [e1, e2]
    exact (h.rr x hm).rw (h.nl x hm)
  · obtain ⟨x, _, hm, e1, e2, _⟩ := rAt hi
    rw [e1, e2]
    exact .inr fun p hp e => h.rd x hm p.block (RB.own hp) (by rw [e]; rfl)
  · obtain ⟨x, hx, _, e1, e2, _⟩ := rAt hi
    obtain ⟨y, hy, _, e3, _⟩ := rAt hj
    rw [e1, e2]
    rw [e3] at hp
    refine .inr fun q hq e => ?_
    rcases Nat.lt_or_gt_of_ne ij with c | c
    · have := pair_ne h.rp hx hy c _ _ (RB.own hq) (RB.own hp); omega
    · have := pair_ne h.rp hy hx c _ _ (RB.own hp) (RB.own hq); omega

theorem posT_bound {L : Nat → Nat} {k : Int} (i : Nat) (hL : ∀ j, j < i → L j ≤ 30) : posT L k i ≤ k + 33 * (i : Int) := by
  induction i with
  | zero => simp [posT]
  | succ i ih =>
    have := ih (fun j hj => hL j (by omega))
    have := hL i (by omega)
    simp only [posT]
    omega
theorem posR_bound {L : Nat → Nat} {k : Int} (i : Nat) (hL : ∀ j, j < i → L j ≤ 60) : posR L k i ≤ k + 180 * (i : Int) := by
  induction i with
  | zero => simp [posR]
  | succ i ih =>
    have := ih (fun j hj => hL j (by omega))
    have := hL i (by omega)
    simp only [posR]
    omega
theorem OS.tlen {w : World} {C H : Nat} {vT vR : Value} {r : List TB} {rbs : List RB} (h : OS w C H vT vR r rbs) (i : Nat) (hi : i < r.length) : tL r i ≤ 30 := by
  obtain ⟨x, _, hm, _, e2, _⟩ := tAt hi
  have h1 := termOk_len (TB.ok (h.gd x hm))
  have h2 : x.b.length = x.t.len := (h.oy x hm).2.2.1
  omega
theorem OS.rlen {w : World} {C H : Nat} {vT vR : Value} {r : List TB} {rbs : List RB} (h : OS w C H vT vR r rbs) (i : Nat) (hi : i < rbs.length) : rL rbs i ≤ 60 := by
  obtain ⟨x, _, hm, _, e2, _⟩ := rAt hi
  rw [e2]
  exact h.nl x hm
end Go.Proofs.YtdcaicoomldmgaaGreatDoor
