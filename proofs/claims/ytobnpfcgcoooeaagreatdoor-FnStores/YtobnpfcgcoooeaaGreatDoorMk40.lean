/- Texts put together: GdrI GdrJ -/
import Derived.Test.YtobnpfcgcoooeaaGreatDoorMk39
import Derived.Test.YtobnpfcgcoooeaaGreatDoorMk35
/- GdrI -/
namespace Go.Proofs.YtobnpfcgcoooeaaGreatDoor
open Go.RowKit Go.Deep
set_option maxRecDepth 100000

/-- A triple, drawn or bent, whose texts lie from B on. -/
structure GY (w : World) (B : Nat) (y : G1) : Prop where
  t : DT w B w.heap.size y.t y.bt
  u : DT w B w.heap.size y.u y.bu
  v : DT w B w.heap.size y.v y.bv
theorem GX.y {w : World} {B : Nat} {y : G1} (h : GX w B y) : GY w B y := ⟨h.t, h.u, h.v⟩
theorem GY.past {w w' : World} {B c : Nat} {y : G1} (h : GY w B y) (hp : Past c w w') (hc : c < B) : GY w' B y :=
  ⟨(h.t.past hp (.inl hc)).mono (Nat.le_refl _) hp.size (Nat.le_refl _), (h.u.past hp (.inl hc)).mono (Nat.le_refl _) hp.size (Nat.le_refl _), (h.v.past hp (.inl hc)).mono (Nat.le_refl _) hp.size (Nat.le_refl _)⟩
theorem GY.below {w w' : World} {B : Nat} {y : G1} (h : GY w B y) (hb : Below w.heap.size w w') : GY w' B y :=
  ⟨(h.t.below hb).mono (Nat.le_refl _) hb.size (Nat.le_refl _), (h.u.below hb).mono (Nat.le_refl _) hb.size (Nat.le_refl _), (h.v.below hb).mono (Nat.le_refl _) hb.size (Nat.le_refl _)⟩
theorem GY.mono {w : World} {B B' : Nat} {y : G1} (h : GY w B y) (hB : B' ≤ B) : GY w B' y :=
  ⟨h.t.mono hB (Nat.le_refl _) (Nat.le_refl _), h.u.mono hB (Nat.le_refl _) (Nat.le_refl _), h.v.mono hB (Nat.le_refl _) (Nat.le_refl _)⟩
/-- What a draw of a bent graph answers. -/
def BentG (g : Nat) (a : Option Addr) (len cap : Nat) (w : World) (e : Ending) (w' : World) : Prop :=
  ∃ v l, e = .returned (.agg #[v]) ∧ OwnG w' w.heap.size v l ∧ l.length ≤ 61 ∧ (∀ y ∈ l, GY w' w.heap.size y) ∧ Past g w w' ∧ Cur w' g a len cap
theorem dt_pastNe {w w' : World} {B C c : Nat} {t : Tm} {b : List Int} (h : DT w B C t b) (hp : Past c w w') {x : Value} (hx : w.cell? ⟨c, 0, none⟩ = some x) (hne : ∀ n, x ≠ .int .u8 n) : DT w' B C t b := by
  obtain ⟨b1, b2, b3, b4⟩ := h.bs
  refine ⟨h.fit, h.len, ⟨b1, b2, b3, ?_⟩, h.at_, Nat.le_trans h.le hp.size⟩
  by_cases h0 : t.len = 0
  · exact .inl h0
  · obtain ⟨d, off, e, hl, hc⟩ := b4.resolve_left h0
    obtain ⟨g, ea, hB, hC⟩ := h.at_.resolve_left h0
    rw [ea] at e
    simp only [Option.some.injEq, Addr.mk.injEq] at e
    obtain ⟨e1, e2, _⟩ := e
    subst e1 e2
    have hgc : g ≠ c := by
      intro e
      subst e
      have h1 := hc 0 (by omega)
      rw [Nat.add_zero] at h1
      rw [hx] at h1
      exact hne _ (Option.some.inj h1)
    exact .inr ⟨g, 0, ea, Nat.lt_of_lt_of_le hl hp.size, fun i hi => (hp.cell (p := ⟨g, 0 + i, none⟩) hl hgc).trans (hc i hi)⟩
theorem GY.pastNe {w w' : World} {B c : Nat} {y : G1} (h : GY w B y) (hp : Past c w w') {x : Value} (hx : w.cell? ⟨c, 0, none⟩ = some x) (hne : ∀ n, x ≠ .int .u8 n) : GY w' B y :=
  ⟨(dt_pastNe h.t hp hx hne).mono (Nat.le_refl _) hp.size (Nat.le_refl _), (dt_pastNe h.u hp hx hne).mono (Nat.le_refl _) hp.size (Nat.le_refl _), (dt_pastNe h.v hp hx hne).mono (Nat.le_refl _) hp.size (Nat.le_refl _)⟩
theorem OwnG.pastNe {w w' : World} {B c : Nat} {v : Value} {l : List G1} (h : OwnG w B v l) (hp : Past c w w') (hne : v.ownBlock ≠ some c) : OwnG w' B v l := by
  obtain ⟨⟨h1, h2⟩, hl⟩ := h
  refine ⟨⟨h1, ?_⟩, fun c hc => ⟨(hl c hc).1, Nat.lt_of_lt_of_le (hl c hc).2 hp.size⟩⟩
  rcases h2 with h2 | ⟨g', cap', cur, hv, hB, hh, r⟩
  · exact .inl h2
  · refine .inr ⟨g', cap', cur, hv, hB, ?_, r⟩
    rw [hp.block g' (hl g' (by rw [hv]; rfl)).2 (fun e => hne (by rw [hv, ← e]; rfl))]
    exact hh
/-- A row that holds a triple lies in another block than a box of a slice. -/
theorem OwnG.ne_box {w : World} {B p : Nat} {v : Value} {x : G1} {r : List G1} (h : OwnG w B v (x :: r)) {b : Option Addr} {n c : Nat} (hp : w.cell? ⟨p, 0, none⟩ = some (.slice b n c)) : v.ownBlock ≠ some p := by
  intro e
  rcases h.form with ⟨_, h2⟩ | ⟨g, cap, hv, _, _, _, h3⟩
  · cases h2
  · have : g = p := by rw [hv] at e; simpa [Value.ownBlock] using e
    subst this
    have h1 := h3 0 (.int .i64 x.t.k) rfl
    rw [hp] at h1
    cases h1
/-- append of triples to a row of the call's own, within a region that draws its order. -/
theorem stepG {ops : Array Oper} {o : Oper} {a : Act} {K : Act → World → Prop} {Q : Exit → Act → World → Prop} {E : Prop} {w : World} (hgd : o.guard = none) (s x : Operand)
    (ho : o.op = .call { callee := .builtin .append, args := #[s, x], argTypes := #[23, 23] })
    (B : Nat) (v : Value) (us : List G1) (hs : a.eval s = v) (HO : Hid (OwnG w B v us))
    (ad : Addr) (m c : Nat) (bs : List G1) (hx : a.eval x = .slice (some ad) m c) (hl : bs.length = m) (HN : Hid (∀ j u, (flatG bs)[j]? = some u → w.cell? (ad.add j) = some u))
    (hm : 0 < m) (N : Nat) (hN : us.length + m = N) (zs : List G1) (hz : us ++ bs = zs) (hle : N ≤ 1000000000) (hB : B ≤ w.heap.size)
    (h : ∀ g cap w', Hid (OwnG w' B (.slice (some ⟨g, 0, none⟩) N cap) zs) → Hid (w.grownBy w' v.ownBlock) → K (a.put o.dst (.slice (some ⟨g, 0, none⟩) N cap)) w') :
    if Region.wanted o (yielded ops a.tmps) = true then Oper.wp Tryz.prog o a w K Q else E := by
  obtain ⟨i0, hi0, hzz⟩ := Option.map_eq_some_iff.1 Tryz.infoG41
  simp only [Prod.mk.injEq] at hzz
  obtain ⟨hi2, hi1, hi3⟩ := hzz
  subst hN hz
  refine step_append_lies _ hgd s x 23 ho B 41 i0 _ 12 144 Tryz.underlying23 hi0 hi2 hi1 hi3 rfl (by omega) v us.length (flatG us) hs HO.out.1 ad m c (flatG bs) hx (by rw [flatG_len, hl]) HN.out (flatG_one bs) hm (by unfold maxLen; omega) (by omega) hB _ rfl ?_
  intro g cap w' hown hgr hat hlt
  have hown' : w'.ownsRow B 41 12 (.slice (some ⟨g, 0, none⟩) (us.length + m) cap) (us ++ bs).length (flatG (us ++ bs)) := by
    rw [flatG_append, List.length_append, hl]
    exact hown
  refine h g cap w' ⟨hown', fun g' hg' => ?_⟩ hgr
  have : g = g' := by simpa [Value.ownBlock] using hg'
  subst this
  rcases hown.2 with ⟨hv, _⟩ | ⟨g0, c0, cur, hv, hb, _⟩
  · cases hv
  · cases hv; exact ⟨hb, hlt⟩
end Go.Proofs.YtobnpfcgcoooeaaGreatDoor

/- GdrJ -/
namespace Go.Proofs.YtobnpfcgcoooeaaGreatDoor
open Go.RowKit Go.Deep
set_option maxRecDepth 100000

/-- What is known within l2bent: the graph's box p, the result's box, the row. -/
structure BST (g : Nat) (a : Option Addr) (len cap : Nat) (w w' : World) (p : Nat) (v : Value) (l : List G1) : Prop where
  own : OwnG w' (w.heap.size + 1) v l
  gy : ∀ y ∈ l, GY w' (w.heap.size + 1) y
  box : w'.cell? ⟨p, 0, none⟩ = some v
  fz : w'.frozen? ⟨p, 0, none⟩ = false
  lt : p < w'.heap.size
  pr : w.heap.size < p
  r1 : w'.cell? ⟨w.heap.size, 0, none⟩ = some (.slice none 0 0)
  r2 : w'.frozen? ⟨w.heap.size, 0, none⟩ = false
  past : Past g w w'
  cur : Cur w' g a len cap
  c0 : Cur w g a len cap
theorem BST.step {g : Nat} {a : Option Addr} {len cap : Nat} {w w' w'' : World} {p : Nat} {v : Value} {l : List G1} (h : BST g a len cap w w' p v l) (hp : Past g w' w'') (hc : Cur w'' g a len cap) : BST g a len cap w w'' p v l := by
  have hg := h.c0.lt
  have h1 := h.lt
  have h2 := h.pr
  exact ⟨h.own.past hp (by omega), fun y hy => (h.gy y hy).past hp (by omega), (hp.cell (p := ⟨p, 0, none⟩) h1 (by show p ≠ g; omega)).trans h.box, (hp.frozen (p := ⟨p, 0, none⟩) h1 (by show p ≠ g; omega)).trans h.fz, Nat.lt_of_lt_of_le h1 hp.size, h2,
    (hp.cell (p := ⟨w.heap.size, 0, none⟩) (by show w.heap.size < _; omega) (by show w.heap.size ≠ g; omega)).trans h.r1, (hp.frozen (p := ⟨w.heap.size, 0, none⟩) (by show w.heap.size < _; omega) (by show w.heap.size ≠ g; omega)).trans h.r2, h.past.trans hp, hc, h.c0⟩
theorem BST.fin {g : Nat} {a : Option Addr} {len cap : Nat} {w w' : World} {p : Nat} {v : Value} {l : List G1} (h : BST g a len cap w w' p v l) (hl : l.length ≤ 61) : BentG g a len cap w (.returned (.agg #[v])) (w'.setCell ⟨w.heap.size, 0, none⟩ v) := by
  have hQ : Past w.heap.size w' (w'.setCell ⟨w.heap.size, 0, none⟩ v) := (Past.refl w.heap.size w').set 0 _
  have hg := h.c0.lt
  exact ⟨v, l, rfl, (h.own.past hQ (by omega)).base (by omega), hl, fun y hy => ((h.gy y hy).past hQ (by omega)).mono (by omega), past_other h.past hQ (by omega), h.c0.glue h.cur (past_other h.past hQ (by omega)) (hQ.block g h.cur.lt (by omega))⟩
/-- behind append and the store into the box. -/
theorem BST.app {g : Nat} {a : Option Addr} {len cap : Nat} {w wr w9 : World} {p q n cv q9 N c9 : Nat} {x : G1} {r zs : List G1} {o : Obj} (h : BST g a len cap w wr p (.slice (some ⟨q, 0, none⟩) n cv) (x :: r)) (hg : (wr.drew.alloc o).grownBy w9 (some q)) (hO : OwnG w9 (w.heap.size + 1) (.slice (some ⟨q9, 0, none⟩) N c9) zs) (hz : ∀ y ∈ zs, y ∈ x :: r) (hne : zs ≠ []) :
    (w9.cell? ⟨p, 0, none⟩ = some (.slice (some ⟨q, 0, none⟩) n cv) ∧ w9.frozen? ⟨p, 0, none⟩ = false) ∧ BST g a len cap w (w9.setCell ⟨p, 0, none⟩ (.slice (some ⟨q9, 0, none⟩) N c9)) p (.slice (some ⟨q9, 0, none⟩) N c9) zs := by
  have hgl := h.c0.lt
  have hpr := h.pr
  have hlt := h.lt
  have hqB := h.own.2 q rfl
  have hqp : p ≠ q := fun e => h.own.ne_box h.box (by rw [e]; rfl)
  have hq0 : wr.cell? ⟨q, 0, none⟩ = some (.int .i64 x.t.k) := by
    rcases h.own.form with ⟨e, _⟩ | ⟨q', c', e, _, _, _, h3⟩
    · cases e
    · cases e
      exact h3 0 _ rfl
  have hb : Below wr.heap.size wr (wr.drew.alloc o) := bl_trans (Below.drew (Below.refl _ _)) (bl_a o)
  have hP : Past q wr w9 := (Past.of_below hb).trans ⟨hg.os, hg.tape, hg.output, hg.size, fun b h1 h2 => hg.block b h1 (fun e => h2 (Option.some.inj e))⟩
  have z0 : w9.cell? ⟨p, 0, none⟩ = some (.slice (some ⟨q, 0, none⟩) n cv) := (hP.cell (p := ⟨p, 0, none⟩) hlt hqp).trans h.box
  have z1 : w9.frozen? ⟨p, 0, none⟩ = false := (hP.frozen (p := ⟨p, 0, none⟩) hlt hqp).trans h.fz
  have hQ : Past p w9 (w9.setCell ⟨p, 0, none⟩ (.slice (some ⟨q9, 0, none⟩) N c9)) := (Past.refl p w9).set 0 _
  have hs := hP.size
  have hPg : Past g w w9 := past_other h.past hP (by omega)
  have hPg' : Past g w (w9.setCell ⟨p, 0, none⟩ (.slice (some ⟨q9, 0, none⟩) N c9)) := past_other hPg hQ (by omega)
  refine ⟨⟨z0, z1⟩, ?_⟩
  refine ⟨?_, fun y hy => ((h.gy y (hz y hy)).pastNe hP hq0 (fun _ e => by cases e)).pastNe hQ z0 (fun _ e => by cases e), set_same z0, by rw [World.frozen?_setCell]; exact z1, Nat.lt_of_lt_of_le hlt (Nat.le_trans hs hQ.size), hpr, ?_, ?_, hPg', ?_, h.c0⟩
  · cases zs with
    | nil => exact absurd rfl hne
    | cons y ys => exact hO.pastNe hQ (hO.ne_box z0)
  · exact (hQ.cell (p := ⟨w.heap.size, 0, none⟩) (by show w.heap.size < _; omega) (by show w.heap.size ≠ p; omega)).trans ((hP.cell (p := ⟨w.heap.size, 0, none⟩) (by show w.heap.size < _; omega) (by show w.heap.size ≠ q; omega)).trans h.r1)
  · exact (hQ.frozen (p := ⟨w.heap.size, 0, none⟩) (by show w.heap.size < _; omega) (by show w.heap.size ≠ p; omega)).trans ((hP.frozen (p := ⟨w.heap.size, 0, none⟩) (by show w.heap.size < _; omega) (by show w.heap.size ≠ q; omega)).trans h.r2)
  · exact h.c0.glue h.cur hPg' ((hQ.block g (by omega) (by omega)).trans (hP.block g (by omega) (by omega)))
end Go.Proofs.YtobnpfcgcoooeaaGreatDoor
