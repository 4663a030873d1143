/- Texts put together: StwE StvC StvD StvG StyA GdrH -/
import Derived.Test.YtobnpfcgcoooeaaGreatDoorMk38
import Derived.Test.YtobnpfcgcoooeaaGreatDoorMk13
import Derived.Test.YtobnpfcgcoooeaaGreatDoorMk02
import Derived.Deep.Cut
import Derived.Test.YtobnpfcgcoooeaaGreatDoorMk03
import Derived.Deep.Strs
import Derived.Deep.Slices
import Derived.Test.YtobnpfcgcoooeaaGreatDoorMk21
import Derived.Test.YtobnpfcgcoooeaaGreatDoorMk28
import Derived.Test.YtobnpfcgcoooeaaGreatDoorMk31
/- StwE -/
namespace Go.Proofs.YtobnpfcgcoooeaaGreatDoor
open Go.RowKit Go.Deep
set_option maxRecDepth 100000

/-- What a graph's store is: its terms, and its rows in six orders. -/
def Ans (p : Bool) (n : Nat) (T U V : Nat → Tm) (bt bu bv : Nat → List Int) (D : List TD) (E : List (List (Int × Int × Int))) : Prop :=
  (p = false ∧ D = [] ∧ E = []) ∨ (p = true ∧ TermsOf (allT T U V bt bu bv n) D ∧ E.length = 6 ∧ ∀ i l, E[i]? = some l → RowsOf i (gRows D T U V bt bu bv n) l)
theorem Ans.unique {p : Bool} {n : Nat} {T U V : Nat → Tm} {bt bu bv : Nat → List Int} {D D' : List TD} {E E' : List (List (Int × Int × Int))} (hg : p = true → ∀ x ∈ allT T U V bt bu bv n, x.good) (h : Ans p n T U V bt bu bv D E) (h' : Ans p n T U V bt bu bv D' E') : D = D' ∧ E = E' := by
  rcases h with ⟨hp, rfl, rfl⟩ | ⟨hp, hT, hl, hr⟩
  · rcases h' with ⟨_, rfl, rfl⟩ | ⟨hp', _⟩
    · exact ⟨rfl, rfl⟩
    · rw [hp] at hp'
      cases hp'
  · rcases h' with ⟨hp', _⟩ | ⟨_, hT', hl', hr'⟩
    · rw [hp] at hp'
      cases hp'
    · have e : D = D' := hT.unique (hg hp) hT'
      subst e
      refine ⟨rfl, List.ext_getElem? fun i => ?_⟩
      by_cases hi : i < 6
      · have e1 : E[i]? = some E[i] := List.getElem?_eq_getElem (by omega)
        have e2 : E'[i]? = some E'[i] := List.getElem?_eq_getElem (by omega)
        rw [e1, e2, (hr i _ e1).unique (hr' i _ e2)]
      · rw [List.getElem?_eq_none (by omega), List.getElem?_eq_none (by omega)]

theorem Orders.lists {w : World} {B : Nat} {v : Value} {rows : List (Int × Int × Int)} {k : Nat} {vs : List Value} (h : Orders w B v rows k vs) : ∃ rbs : List RB, rbs.map RB.v = vs ∧ ∀ i x, rbs[i]? = some x → OwnRR w B x.v x.l ∧ RowsOf i rows x.l := by
  have hh : ∀ i, ∃ x : RB, i < k → vs[i]? = some x.v ∧ OwnRR w B x.v x.l ∧ RowsOf i rows x.l := by
    intro i
    by_cases hi : i < k
    · obtain ⟨y, hy⟩ : ∃ y, vs[i]? = some y := ⟨_, List.getElem?_eq_getElem (by rw [h.len]; exact hi)⟩
      obtain ⟨l, h1, h2, h3⟩ := h.row i y hy
      obtain ⟨a, c, rfl, _⟩ := h1.form
      exact ⟨⟨a, c, l⟩, fun _ => ⟨hy, h1, ⟨h2, h3⟩⟩⟩
    · exact ⟨⟨none, 0, []⟩, fun h => absurd h hi⟩
  obtain ⟨F, hF⟩ := Classical.axiomOfChoice hh
  refine ⟨(List.range k).map F, List.ext_getElem? fun i => ?_, fun i x hx => ?_⟩
  · by_cases hi : i < k
    · rw [(hF i hi).1, List.getElem?_map, List.getElem?_map, List.getElem?_range hi]
      rfl
    · rw [List.getElem?_eq_none (by simp; omega), List.getElem?_eq_none (by rw [h.len]; omega)]
  · rw [List.getElem?_map] at hx
    obtain ⟨j, hj, rfl⟩ := Option.map_eq_some_iff.1 hx
    obtain ⟨h1, h2⟩ := List.getElem?_eq_some_iff.1 hj
    simp at h1 h2
    subst h2
    exact (hF _ h1).2

/-- What the program's StoreOf answers. -/
def ImAns (w : World) (n : Nat) (T U V : Nat → Tm) (bt bu bv : Nat → List Int) (e : Ending) (w' : World) : Prop :=
  ∃ aT capT aR capR r rbs, e = .returned (.tuple #[.agg #[.slice aT r.length capT, .slice aR rbs.length capR], .bool (graphOk n T U V bt bu bv)]) ∧ OS w' w.heap.size w'.heap.size (.slice aT r.length capT) (.slice aR rbs.length capR) r rbs ∧ Ans (graphOk n T U V bt bu bv) n T U V bt bu bv (r.map TB.td) (rbs.map RB.l) ∧ Below w.heap.size w w'

theorem implStoreOf_any (a : Option Addr) (n cap : Nat) (T U V : Nat → Tm) (bt bu bv : Nat → List Int) (w : World) (hn : n ≤ 1048576) (hf : AllFit n T U V) (hR : Rows w a n T U V) (h1 : Texts w n T bt) (h2 : Texts w n U bu) (h3 : Texts w n V bv) (ht : Tab w) :
    Calls Tryz.prog 5 #[.agg #[.slice a n cap]] w (ImAns w n T U V bt bu bv) := by
  cases hok : graphOk n T U V bt bu bv
  · refine (implStoreOf_no a n cap T U V bt bu bv w hn hf hR h1 h2 h3 hok).mono ?_
    rintro e w' ⟨rfl, hb⟩
    exact ⟨none, 0, none, 0, [], [], by rw [hok]; rfl, OS.nil hb.size, .inl ⟨hok, rfl, rfl⟩, hb⟩
  · obtain ⟨hn60, hgg⟩ := graph_good hok h1 h2 h3
    refine (implStoreOf_yes a n cap T U V bt bu bv w hf hR h1 h2 h3 hok ht).mono ?_
    rintro e w' ⟨vT, vR, r, vs, B', B2, rfl, hOT, hTM, hrl, hb, hOY, hPW, hTB, hTB2, ⟨hB', hB2⟩, hTB3, hOR⟩
    obtain ⟨rbs, hmap, hrb⟩ := hOR.lists
    have hl6 : rbs.length = 6 := by
      have e1 := congrArg List.length hmap
      have e2 := hOR.len
      simp at e1
      omega
    have hmem : ∀ x ∈ rbs, OwnRR w' B2 x.v x.l ∧ x.l.length ≤ 60 ∧ x.v ∈ vs := fun x hx => by
      obtain ⟨i, hi, rfl⟩ := List.getElem_of_mem hx
      have hr := hrb i _ (List.getElem?_eq_getElem hi)
      refine ⟨hr.1, ?_, ?_⟩
      · rw [hr.2.perm.length_eq, gRows_len]
        exact hn60
      · rw [← hmap]
        exact List.mem_map_of_mem hx
    have hown : OwnV w' w.heap.size vR (rbs.map RB.v) := by
      rw [hmap]
      exact ⟨ownsRow_base hOR.own.1 hB2, fun g hg => ⟨Nat.le_trans hB2 (hOR.own.2 g hg).1, (hOR.own.2 g hg).2⟩⟩
    have hos : OS w' w.heap.size w'.heap.size vT vR r rbs := by
      refine ⟨hOT, fun y hy => (hOY y hy).base hB', hPW, fun y hy p hp e => ?_, hown, fun x hx => (hmem x hx).1.base hB2, fun x hx => hOR.dis x.v (hmem x hx).2.2, ?_, fun g hg => ⟨fun e => ?_, fun y hy p hp e => ?_⟩, fun x hx g hg => ⟨fun e => ?_, fun y hy p hp e => ?_⟩, fun y hy => ?_, by omega, by omega, fun x hx => (hmem x hx).2.1,
        fun g hg => (hOT.2 g hg).2, fun y hy p hp => ((hOY y hy).2.1 p hp).2, fun g hg => (hOR.own.2 g hg).2, fun x hx g hg => ((hmem x hx).1.2 g hg).2, hb.size, Nat.le_refl _⟩
      · have := hTB _ e
        have := ((hOY y hy).2.1 p hp).1
        omega
      · have := hOR.ord
        rw [← hmap, List.pairwise_map] at this
        exact this
      · have := hTB3 _ e
        have := (hOR.own.2 g hg).1
        omega
      · have := hTB2 y hy p hp
        have := (hOR.own.2 g hg).1
        omega
      · have := hTB3 _ e
        have := ((hmem x hx).1.2 g hg).1
        omega
      · have := hTB2 y hy p hp
        have := ((hmem x hx).1.2 g hg).1
        omega
      · exact allT_good (fun z hz => (hgg z hz).1) _ ((hTM.mem _).1 (List.mem_map_of_mem hy))
    obtain ⟨aT, capT, aR, capR, rfl, rfl, _⟩ := hos.arg
    refine ⟨aT, capT, aR, capR, r, rbs, by rw [hok], hos, .inr ⟨hok, hTM, by simpa using hl6, fun i l hl => ?_⟩, hb⟩
    rw [List.getElem?_map] at hl
    obtain ⟨x, hx, rfl⟩ := Option.map_eq_some_iff.1 hl
    exact (hrb i x hx).2

end Go.Proofs.YtobnpfcgcoooeaaGreatDoor

/- StvC -/
namespace Go.Proofs.YtobnpfcgcoooeaaGreatDoor
open Go.RowKit Go.Deep
set_option maxRecDepth 100000

/-- Rows of numbers behind an address, or none. -/
def RRowW (w : World) (a : Option Addr) (l : List (Int × Int × Int)) : Prop := l = [] ∨ ∃ b off, a = some ⟨b, off, none⟩ ∧ b < w.heap.size ∧ ∀ j u, (flat3 l)[j]? = some u → w.cell? ⟨b, off + j, none⟩ = some u
theorem RRowW.below {w w' : World} {a : Option Addr} {l : List (Int × Int × Int)} (h : RRowW w a l) (hb : Below w.heap.size w w') : RRowW w' a l := by
  rcases h with h | ⟨b, off, ha, hl, hc⟩
  · exact .inl h
  · exact .inr ⟨b, off, ha, Nat.lt_of_lt_of_le hl hb.size, fun j u hu => (hb.cell (p := ⟨b, off + j, none⟩) hl).trans (hc j u hu)⟩
def SHoldW (w : World) (l : List RB) : Prop := ∀ x ∈ l, RRowW w x.a x.l ∧ x.l.length ≤ 1048576

theorem OwnRR.row {w : World} {B g n cap : Nat} {l : List (Int × Int × Int)} (h : OwnRR w B (.slice (some ⟨g, 0, none⟩) n cap) l) : RRow w (some ⟨g, 0, none⟩) l := by
  obtain ⟨a, c, hv, hr, _⟩ := h.form
  simp only [Value.slice.injEq] at hv
  rw [hv.1]
  exact hr

end Go.Proofs.YtobnpfcgcoooeaaGreatDoor

/- StvD -/
namespace Go.Proofs.YtobnpfcgcoooeaaGreatDoor
open Go.RowKit Go.Deep
set_option maxRecDepth 100000

/-- A store of the call's own. -/
structure Copy (w : World) (B gT gR : Nat) (tb : List TB) (rbs : List RB) : Prop where
  ot : OwnTR w B (.slice (some ⟨gT, 0, none⟩) tb.length tb.length) tb
  tx : ∀ x ∈ tb, ∃ g, x.t.a = some ⟨g, 0, none⟩ ∧ x.t.cap = x.t.len ∧ B ≤ g ∧ OwnT w g x.t.len x.b
  rl : B ≤ gR ∧ gR < w.heap.size
  fz : ∀ j, j < rbs.length → w.frozen? ⟨gR, j, none⟩ = false
  rc : ∀ i x, rbs[i]? = some x → w.cell? ⟨gR, i, none⟩ = some (.slice x.a x.l.length x.cap) ∧ ∃ g, x.a = some ⟨g, 0, none⟩ ∧ B ≤ g ∧ OwnRR w B (.slice x.a x.l.length x.cap) x.l
theorem Copy.below {w w' : World} {B gT gR : Nat} {tb : List TB} {rbs : List RB} (h : Copy w B gT gR tb rbs) (hb : Below w.heap.size w w') : Copy w' B gT gR tb rbs := by
  refine ⟨h.ot.below hb, fun x hx => ?_, ⟨h.rl.1, Nat.lt_of_lt_of_le h.rl.2 hb.size⟩, fun j hj => (hb.frozen (p := ⟨gR, j, none⟩) h.rl.2).trans (h.fz j hj), fun i x hx => ?_⟩
  · obtain ⟨g, h1, h2, h3, h4⟩ := h.tx x hx
    exact ⟨g, h1, h2, h3, h4.below hb⟩
  · obtain ⟨h1, g, h2, h3, h4⟩ := h.rc i x hx
    exact ⟨(hb.cell (p := ⟨gR, i, none⟩) h.rl.2).trans h1, g, h2, h3, h4.below hb⟩
theorem Copy.but {w w' : World} {B c gT gR : Nat} {tb : List TB} {rbs : List RB} (h : Copy w B gT gR tb rbs) (hb : But c w w') (hc : c < B) : Copy w' B gT gR tb rbs := by
  have hr := h.rl.1
  refine ⟨h.ot.but hb hc, fun x hx => ?_, ⟨h.rl.1, by rw [hb.size]; exact h.rl.2⟩, fun j hj => (hb.frozen (p := ⟨gR, j, none⟩) (by show gR ≠ c; omega)).trans (h.fz j hj), fun i x hx => ?_⟩
  · obtain ⟨g, h1, h2, h3, h4⟩ := h.tx x hx
    exact ⟨g, h1, h2, h3, h4.but hb (by omega)⟩
  · obtain ⟨h1, g, h2, h3, h4⟩ := h.rc i x hx
    exact ⟨(hb.cell (p := ⟨gR, i, none⟩) (by show gR ≠ c; omega)).trans h1, g, h2, h3, h4.but hb (fun g' hg' => by have := (h4.2 g' hg').1; omega)⟩
end Go.Proofs.YtobnpfcgcoooeaaGreatDoor

/- StvG -/
namespace Go.Proofs.YtobnpfcgcoooeaaGreatDoor
open Go.RowKit Go.Deep
set_option maxRecDepth 100000

theorem tripleOk_td {x y z x' y' z' : TB} (h1 : x'.td = x.td) (h2 : y'.td = y.td) (h3 : z'.td = z.td) : tripleOk x'.t y'.t z'.t x'.b y'.b z'.b = tripleOk x.t y.t z.t x.b y.b z.b := by
  obtain ⟨⟨k, _, _, _, n, s⟩, b⟩ := x
  obtain ⟨⟨k', _, _, _, n', s'⟩, b'⟩ := x'
  obtain ⟨⟨k2, _, _, _, n2, s2⟩, b2⟩ := y
  obtain ⟨⟨k2', _, _, _, n2', s2'⟩, b2'⟩ := y'
  obtain ⟨⟨k3, _, _, _, n3, s3⟩, b3⟩ := z
  obtain ⟨⟨k3', _, _, _, n3', s3'⟩, b3'⟩ := z'
  simp only [TB.td, TD.mk.injEq] at h1 h2 h3
  obtain ⟨rfl, rfl, rfl, rfl⟩ := h1
  obtain ⟨rfl, rfl, rfl, rfl⟩ := h2
  obtain ⟨rfl, rfl, rfl, rfl⟩ := h3
  rfl
theorem tcmp_td {x y x' y' : TB} (h1 : x'.td = x.td) (h2 : y'.td = y.td) : tcmp x'.t y'.t x'.b y'.b = tcmp x.t y.t x.b y.b := by
  obtain ⟨⟨k, _, _, _, n, s⟩, b⟩ := x
  obtain ⟨⟨k', _, _, _, n', s'⟩, b'⟩ := x'
  obtain ⟨⟨k2, _, _, _, n2, s2⟩, b2⟩ := y
  obtain ⟨⟨k2', _, _, _, n2', s2'⟩, b2'⟩ := y'
  simp only [TB.td, TD.mk.injEq] at h1 h2
  obtain ⟨rfl, rfl, rfl, rfl⟩ := h1
  obtain ⟨rfl, rfl, rfl, rfl⟩ := h2
  rfl
/-- What is known of a store that came in and is short. -/
structure SIn (w : World) (aT : Option Addr) (tb : List TB) (aR : Option Addr) (rbs : List RB) : Prop where
  trow : TRow w aT tb
  ttxt : TTxt w tb
  fit : ∀ x ∈ tb, x.t.fits
  tlen : tb.length ≤ 1048576
  srow : SRow w aR rbs
  hold : SHoldW w rbs
  rlen : rbs.length ≤ 1048576
theorem SIn.below {w w' : World} {aT : Option Addr} {tb : List TB} {aR : Option Addr} {rbs : List RB} (h : SIn w aT tb aR rbs) (hb : Below w.heap.size w w') : SIn w' aT tb aR rbs :=
  ⟨h.trow.below hb, h.ttxt.below hb, h.fit, h.tlen, h.srow.below hb, fun x hx => ⟨(h.hold x hx).1.below hb, (h.hold x hx).2⟩, h.rlen⟩

end Go.Proofs.YtobnpfcgcoooeaaGreatDoor

/- StyA -/
namespace Go.Proofs.YtobnpfcgcoooeaaGreatDoor
open Go.RowKit Go.Deep
set_option maxRecDepth 100000

/-- A held term's number. -/
theorem idOf_mem {D : List TD} (ha : D.Pairwise (fun x y => x.cmp y < 0)) {x : TD} (hx : x ∈ D) : ∃ i, ∃ h : i < D.length, D[i] = x ∧ idOf D x = i + 1 := by
  obtain ⟨i, hi, rfl⟩ := List.getElem_of_mem hx
  refine ⟨i, hi, rfl, idOf_at hi (fun j hj => ?_) (ord_cmp.self _)⟩
  have := List.pairwise_iff_getElem.1 ha j i (by omega) hi hj
  omega
theorem idOf_lt {D : List TD} (ha : D.Pairwise (fun x y => x.cmp y < 0)) {x y : TD} (hx : x ∈ D) (hy : y ∈ D) (h : x.cmp y < 0) : idOf D x < idOf D y := by
  obtain ⟨i, hi, rfl, ei⟩ := idOf_mem ha hx
  obtain ⟨j, hj, rfl, ej⟩ := idOf_mem ha hy
  rw [ei, ej]
  apply Classical.byContradiction
  intro hn
  by_cases e : i = j
  · subst e
    have := ord_cmp.self D[i]
    omega
  · have h2 := List.pairwise_iff_getElem.1 ha j i hj hi (by omega)
    have h3 := ord_cmp.anti D[i] D[j]
    omega
theorem idOf_cmp {D : List TD} (hg : ∀ x ∈ D, x.good) (ha : D.Pairwise (fun x y => x.cmp y < 0)) {x y : TD} (hx : x ∈ D) (hy : y ∈ D) : cmpI (idOf D x : Int) (idOf D y : Int) = x.cmp y := by
  rcases ord_cmp.rng x y with h | h | h
  · rw [h]
    exact cmpI_lt (by have := idOf_lt ha hx hy (by omega); omega)
  · rw [h]
    have e : x = y := ordP_cmp.z x y (hg x hx) (hg y hy) h
    rw [e]
    exact cmpI_eq rfl
  · rw [h]
    have h2 := ord_cmp.anti x y
    exact cmpI_gt (by have := idOf_lt ha hy hx (by omega); omega)

/-- A triple's terms, as data. -/
def tdS (T : Nat → Tm) (bt : Nat → List Int) (i : Nat) : TD := (TB.mk (T i) (bt i)).td
/-- The rows of a graph ascend, in the order of its triples. -/
theorem gRows_at {D : List TD} {n : Nat} {T U V : Nat → Tm} {bt bu bv : Nat → List Int} {i : Nat} (hi : i < n) : (gRows D T U V bt bu bv n)[i]? = some ((idOf D (tdS T bt i) : Int), (idOf D (tdS U bu i) : Int), (idOf D (tdS V bv i) : Int)) := by
  unfold gRows
  rw [List.getElem?_map, List.getElem?_range hi]
  rfl
/-- What is known of a graph that may be, with its terms in a list. -/
structure GD (n : Nat) (T U V : Nat → Tm) (bt bu bv : Nat → List Int) (D : List TD) : Prop where
  ok : graphOk n T U V bt bu bv = true
  tm : TermsOf (allT T U V bt bu bv n) D
  gd : ∀ x ∈ allT T U V bt bu bv n, x.good
theorem GD.good {n : Nat} {T U V : Nat → Tm} {bt bu bv : Nat → List Int} {D : List TD} (h : GD n T U V bt bu bv D) : ∀ x ∈ D, x.good := fun x hx => h.gd x ((h.tm.mem x).1 hx)
theorem GD.mem {n : Nat} {T U V : Nat → Tm} {bt bu bv : Nat → List Int} {D : List TD} (h : GD n T U V bt bu bv D) {i : Nat} (hi : i < n) : tdS T bt i ∈ D ∧ tdS U bu i ∈ D ∧ tdS V bv i ∈ D := by
  refine ⟨(h.tm.mem _).2 ?_, (h.tm.mem _).2 ?_, (h.tm.mem _).2 ?_⟩ <;> simp only [allT, List.mem_flatMap, List.mem_range] <;> exact ⟨i, hi, by simp [tdS]⟩
theorem GD.step {n : Nat} {T U V : Nat → Tm} {bt bu bv : Nat → List Int} {D : List TD} (h : GD n T U V bt bu bv D) {i : Nat} (hi : i + 1 < n) : tcmp3 (T i) (U i) (V i) (T (i + 1)) (U (i + 1)) (V (i + 1)) (bt i) (bu i) (bv i) (bt (i + 1)) (bu (i + 1)) (bv (i + 1)) < 0 := by
  have hk := h.ok
  simp only [graphOk, Bool.and_eq_true, List.all_eq_true, List.mem_range] at hk
  have := hk.2 (i + 1) hi
  unfold stepOk at this
  simp at this
  exact this.2
theorem GD.cmp {n : Nat} {T U V : Nat → Tm} {bt bu bv : Nat → List Int} {D : List TD} (h : GD n T U V bt bu bv D) {i j : Nat} (hi : i < n) (hj : j < n) :
    rcmp 0 ((idOf D (tdS T bt i) : Int), (idOf D (tdS U bu i) : Int), (idOf D (tdS V bv i) : Int)) ((idOf D (tdS T bt j) : Int), (idOf D (tdS U bu j) : Int), (idOf D (tdS V bv j) : Int)) = tcmp3 (T i) (U i) (V i) (T j) (U j) (V j) (bt i) (bu i) (bv i) (bt j) (bu j) (bv j) := by
  have m1 := h.mem hi
  have m2 := h.mem hj
  have e : ∀ x : Int × Int × Int, rkey 0 x = x := fun x => by simp [rkey]
  unfold rcmp
  rw [e, e]
  show orI (cmpI _ _) (orI (cmpI _ _) (cmpI _ _)) = _
  rw [idOf_cmp h.good h.tm.asc m1.1 m2.1, idOf_cmp h.good h.tm.asc m1.2.1 m2.2.1, idOf_cmp h.good h.tm.asc m1.2.2 m2.2.2]
  rfl
theorem GD.asc {n : Nat} {T U V : Nat → Tm} {bt bu bv : Nat → List Int} {D : List TD} (h : GD n T U V bt bu bv D) : ∀ j i, i < j → j < n →
    rcmp 0 ((idOf D (tdS T bt i) : Int), (idOf D (tdS U bu i) : Int), (idOf D (tdS V bv i) : Int)) ((idOf D (tdS T bt j) : Int), (idOf D (tdS U bu j) : Int), (idOf D (tdS V bv j) : Int)) < 0 := by
  intro j
  induction j with
  | zero => intro i hi; omega
  | succ j ih =>
    intro i hi hj
    have hs := h.step hj
    rw [← h.cmp (by omega) hj] at hs
    by_cases e : i = j
    · subst e
      exact hs
    · exact (ord_rcmp 0).lt_trans (ih i (by omega) (by omega)) hs
theorem GD.pw {n : Nat} {T U V : Nat → Tm} {bt bu bv : Nat → List Int} {D : List TD} (h : GD n T U V bt bu bv D) : (gRows D T U V bt bu bv n).Pairwise (fun x y => rcmp 0 x y < 0) := by
  rw [List.pairwise_iff_getElem]
  intro i j hi hj hij
  rw [gRows_len] at hi hj
  have e1 := gRows_at (D := D) (T := T) (U := U) (V := V) (bt := bt) (bu := bu) (bv := bv) hi
  have e2 := gRows_at (D := D) (T := T) (U := U) (V := V) (bt := bt) (bu := bu) (bv := bv) hj
  rw [List.getElem?_eq_getElem (by rw [gRows_len]; exact hi)] at e1
  rw [List.getElem?_eq_getElem (by rw [gRows_len]; exact hj)] at e2
  rw [Option.some.inj e1, Option.some.inj e2]
  exact h.asc j i hij hj
theorem GD.row0 {n : Nat} {T U V : Nat → Tm} {bt bu bv : Nat → List Int} {D : List TD} (h : GD n T U V bt bu bv D) {l : List (Int × Int × Int)} (hl : RowsOf 0 (gRows D T U V bt bu bv n) l) : l = gRows D T U V bt bu bv n :=
  hl.unique ⟨List.Perm.refl _, h.pw.imp fun hxy => by omega⟩

/-- A number tells its term again. -/
theorem tbAt_id {r : List TB} {D : List TD} (hD : r.map TB.td = D) (ha : D.Pairwise (fun x y => x.cmp y < 0)) {x : TD} (hx : x ∈ D) : (tbAt r (idOf D x : Int)).td = x ∧ 1 ≤ idOf D x ∧ idOf D x ≤ r.length := by
  obtain ⟨i, hi, rfl, e⟩ := idOf_mem ha hx
  have hl : r.length = D.length := by rw [← hD]; simp
  rw [e]
  refine ⟨?_, by omega, by omega⟩
  unfold tbAt
  have e2 : (((i + 1 : Nat) : Int) - 1).toNat = i := by omega
  rw [e2, List.getElem?_eq_getElem (by omega)]
  have : (r.map TB.td)[i]? = D[i]? := by rw [hD]
  rw [List.getElem?_map, List.getElem?_eq_getElem (by omega), List.getElem?_eq_getElem hi] at this
  exact Option.some.inj this
theorem td_parts {x : TB} {t : Tm} {b : List Int} (h : x.td = (TB.mk t b).td) : x.t.k = t.k ∧ x.b = b ∧ x.t.n = t.n ∧ x.t.s = t.s := by
  simp only [TB.td, TD.mk.injEq] at h
  exact h

/-- The store of a graph that may be may be. -/
theorem GD.store {n : Nat} {T U V : Nat → Tm} {bt bu bv : Nat → List Int} {r : List TB} {rs : List (List (Int × Int × Int))} (h : GD n T U V bt bu bv (r.map TB.td)) (h6 : rs.length = 6) (hr : ∀ i l, rs[i]? = some l → RowsOf i (gRows (r.map TB.td) T U V bt bu bv n) l) : Good r rs := by
  have h0 : _root_.Go.Proofs.YtobnpfcgcoooeaaGreatDoor.row0 rs = gRows (r.map TB.td) T U V bt bu bv n := by
    have e : rs[0]? = some rs[0] := List.getElem?_eq_getElem (by omega)
    unfold _root_.Go.Proofs.YtobnpfcgcoooeaaGreatDoor.row0
    rw [e]
    exact h.row0 (hr 0 _ e)
  have hat : ∀ i, i < n → r3At (gRows (r.map TB.td) T U V bt bu bv n) i = ((idOf (r.map TB.td) (tdS T bt i) : Int), (idOf (r.map TB.td) (tdS U bu i) : Int), (idOf (r.map TB.td) (tdS V bv i) : Int)) := fun i hi => by
    unfold r3At
    rw [gRows_at hi]
    rfl
  have hT : ∀ i, i < n → (tbAt r (r3At (gRows (r.map TB.td) T U V bt bu bv n) i).1).td = tdS T bt i := fun i hi => by rw [hat i hi]; exact (tbAt_id rfl h.tm.asc (h.mem hi).1).1
  have hU : ∀ i, i < n → (tbAt r (r3At (gRows (r.map TB.td) T U V bt bu bv n) i).2.1).td = tdS U bu i := fun i hi => by rw [hat i hi]; exact (tbAt_id rfl h.tm.asc (h.mem hi).2.1).1
  have hV : ∀ i, i < n → (tbAt r (r3At (gRows (r.map TB.td) T U V bt bu bv n) i).2.2).td = tdS V bv i := fun i hi => by rw [hat i hi]; exact (tbAt_id rfl h.tm.asc (h.mem hi).2.2).1
  have hst : ∀ i, i < n → stepOk (sT r (gRows (r.map TB.td) T U V bt bu bv n)) (sU r (gRows (r.map TB.td) T U V bt bu bv n)) (sV r (gRows (r.map TB.td) T U V bt bu bv n)) (sbt r (gRows (r.map TB.td) T U V bt bu bv n)) (sbu r (gRows (r.map TB.td) T U V bt bu bv n)) (sbv r (gRows (r.map TB.td) T U V bt bu bv n)) i = stepOk T U V bt bu bv i := fun i hi => by
    have p1 := hT i hi
    have p2 := hU i hi
    have p3 := hV i hi
    have q1 := hT (i - 1) (by omega)
    have q2 := hU (i - 1) (by omega)
    have q3 := hV (i - 1) (by omega)
    unfold stepOk tcmp3 sT sU sV sbt sbu sbv
    rw [tripleOk_td (x := ⟨T i, bt i⟩) (y := ⟨U i, bu i⟩) (z := ⟨V i, bv i⟩) p1 p2 p3, tcmp_td (x := ⟨T (i - 1), bt (i - 1)⟩) (y := ⟨T i, bt i⟩) q1 p1, tcmp_td (x := ⟨U (i - 1), bu (i - 1)⟩) (y := ⟨U i, bu i⟩) q2 p2, tcmp_td (x := ⟨V (i - 1), bv (i - 1)⟩) (y := ⟨V i, bv i⟩) q3 p3]
  have hok := h.ok
  have hlen := gRows_len (r.map TB.td) T U V bt bu bv n
  have eAll : sAll r (gRows (r.map TB.td) T U V bt bu bv n) = allT T U V bt bu bv n := by
    unfold sAll
    rw [hlen]
    generalize gRows (r.map TB.td) T U V bt bu bv n = R at hT hU hV ⊢
    unfold allT
    rw [List.flatMap_def, List.flatMap_def]
    congr 1
    refine List.map_congr_left fun i hi => ?_
    have hi := List.mem_range.1 hi
    have p1 := hT i hi
    have p2 := hU i hi
    have p3 := hV i hi
    show [(tbAt r _).td, (tbAt r _).td, (tbAt r _).td] = _
    rw [p1, p2, p3]
    rfl
  have eRows : sRows (r.map TB.td) r (gRows (r.map TB.td) T U V bt bu bv n) = gRows (r.map TB.td) T U V bt bu bv n := by
    unfold sRows
    rw [hlen]
    refine Eq.trans (b := gRows (r.map TB.td) T U V bt bu bv n) ?_ rfl
    obtain ⟨R, hR⟩ : ∃ R, R = gRows (r.map TB.td) T U V bt bu bv n := ⟨_, rfl⟩
    rw [← hR] at hT hU hV
    have : gRows (r.map TB.td) (sT r R) (sU r R) (sV r R) (sbt r R) (sbu r R) (sbv r R) n = gRows (r.map TB.td) T U V bt bu bv n := by
      unfold gRows
      refine List.map_congr_left fun i hi => ?_
      have hi := List.mem_range.1 hi
      have p1 := hT i hi
      have p2 := hU i hi
      have p3 := hV i hi
      show ((idOf _ (tbAt r _).td : Int), (idOf _ (tbAt r _).td : Int), (idOf _ (tbAt r _).td : Int)) = _
      rw [p1, p2, p3]
      rfl
    rw [hR] at this
    exact this
  refine ⟨h6, fun x hx => ?_, ?_, ?_, fun k l hkl => ?_⟩
  · rw [h0] at hx
    obtain ⟨i, hi, rfl⟩ := List.getElem_of_mem hx
    rw [gRows_len] at hi
    have e := gRows_at (D := r.map TB.td) (T := T) (U := U) (V := V) (bt := bt) (bu := bu) (bv := bv) hi
    rw [List.getElem?_eq_getElem (by rw [gRows_len]; exact hi)] at e
    rw [Option.some.inj e]
    have m := h.mem hi
    have i1 := (tbAt_id rfl h.tm.asc m.1).2
    have i2 := (tbAt_id rfl h.tm.asc m.2.1).2
    have i3 := (tbAt_id rfl h.tm.asc m.2.2).2
    refine ⟨⟨?_, ?_⟩, ⟨?_, ?_⟩, ⟨?_, ?_⟩⟩ <;> dsimp only <;> omega
  · rw [h0]
    unfold sOk graphOk
    simp only [graphOk, Bool.and_eq_true, List.all_eq_true, List.mem_range, decide_eq_true_eq] at hok ⊢
    rw [gRows_len]
    exact ⟨hok.1, fun i hi => by rw [hst i hi]; exact hok.2 i hi⟩
  · rw [h0, eAll]
    exact h.tm
  · rw [h0, eRows]
    exact hr k l hkl

/-- A row's own numbers find it alone. -/
theorem scan_one {o : Nat} {l : List (Int × Int × Int)} (hn : l.Nodup) {x : Int × Int × Int} (hx : x ∈ l) : scanL o [(rkey o x).1, (rkey o x).2.1, (rkey o x).2.2] l = [x] := by
  have e : ∀ y, kcmp o [(rkey o x).1, (rkey o x).2.1, (rkey o x).2.2] y = 0 ↔ y = x := fun y => by
    rw [kcmp_eq (by simp)]
    constructor
    · intro h
      simp at h
      exact rkey_inj (Prod.ext h.1 (Prod.ext h.2.1 h.2.2))
    · rintro rfl
      simp
  unfold scanL
  have e2 : (fun y => decide (kcmp o [(rkey o x).1, (rkey o x).2.1, (rkey o x).2.2] y = 0)) = fun y => y == x := by
    funext y
    rw [Bool.eq_iff_iff]
    simp [e]
  rw [e2]
  induction l with
  | nil => cases hx
  | cons a l ih =>
    have hn' := List.nodup_cons.1 hn
    rcases List.mem_cons.1 hx with rfl | hm
    · rw [List.filter_cons_of_pos (by simp)]
      have : l.filter (fun y => y == x) = [] := List.filter_eq_nil_iff.2 fun y hy he => hn'.1 (by
        have e3 : y = x := (by simpa using he)
        rw [← e3]
        exact hy)
      rw [this]
    · have hne : a ≠ x := fun e => hn'.1 (by rw [e]; exact hm)
      rw [List.filter_cons_of_neg (by simpa using hne)]
      exact ih hn'.2 hm
theorem scan_none {o : Nat} (l : List (Int × Int × Int)) : scanL o [] l = l := by
  unfold scanL
  rw [List.filter_eq_self]
  intro x _
  simp [kcmp, lexI]
end Go.Proofs.YtobnpfcgcoooeaaGreatDoor

/- GdrH -/
namespace Go.Proofs.YtobnpfcgcoooeaaGreatDoor
open Go.RowKit Go.Deep Go.Sort Go.Lib
set_option maxRecDepth 100000

theorem ownG_cells {W : World} {B g n cap : Nat} {l : List G1} (h : OwnG W B (.slice (some ⟨g, 0, none⟩) n cap) l) : ∃ cur, W.heap[g]? = some (.cells cur 41 (0, 0)) ∧ n ≤ cap ∧ cap ≤ maxLen ∧ cur.size = cap * 12 ∧ cur.toList.take (n * 12) = flatG l ∧ n = l.length ∧ B ≤ g ∧ g < W.heap.size := by
  obtain ⟨hB, hgl⟩ := h.2 g rfl
  rcases h.1.2 with ⟨h, _⟩ | ⟨g', c', cur, hv, _, hh, h2, h3, h4, h5⟩
  · cases h
  · cases hv
    exact ⟨cur, hh, h2, h3, h4, h5, rfl, hB, hgl⟩
theorem ownG_mk {W : World} {B g n cap : Nat} {l : List G1} {cur : Array Value} (h1 : W.heap[g]? = some (.cells cur 41 (0, 0))) (h2 : n ≤ cap) (h3 : cap ≤ maxLen) (h4 : cur.size = cap * 12) (h5 : cur.toList.take (n * 12) = flatG l) (h6 : n = l.length) (h7 : B ≤ g) (h8 : g < W.heap.size) : OwnG W B (.slice (some ⟨g, 0, none⟩) n cap) l := by
  subst h6
  refine ⟨⟨by rw [flatG_len], .inr ⟨g, cap, cur, rfl, h7, h1, h2, h3, h4, h5⟩⟩, fun g' h' => ?_⟩
  have : g = g' := by simpa [Value.ownBlock] using h'
  subst this
  exact ⟨h7, h8⟩
theorem ownG_fr {W : World} {B g n cap : Nat} {l : List G1} (h : OwnG W B (.slice (some ⟨g, 0, none⟩) n cap) l) (o : Nat) : W.frozen? ⟨g, o, none⟩ = false := by
  obtain ⟨cur, hh, _⟩ := ownG_cells h
  simp [World.frozen?, hh]
theorem flatG_cons (x : G1) (r : List G1) : flatG (x :: r) = e12 x.t x.u x.v ++ flatG r := rfl
/-- The first triple's subject laid anew. -/
theorem ownG_setS {W : World} {B g n cap : Nat} {x : G1} {r : List G1} (h : OwnG W B (.slice (some ⟨g, 0, none⟩) n cap) (x :: r)) (t : Tm) (b : List Int) :
    OwnG ((((W.setCell ⟨g, 0, none⟩ (.int .i64 t.k)).setCell ⟨g, 1, none⟩ (.slice t.a t.len t.cap)).setCell ⟨g, 2, none⟩ (.int .i64 t.n)).setCell ⟨g, 3, none⟩ (.int .i64 t.s)) B (.slice (some ⟨g, 0, none⟩) n cap) (⟨t, x.u, x.v, b, x.bu, x.bv⟩ :: r) := by
  obtain ⟨cur, hh, hle, hmx, hcs, htk, hn, hB, hgl⟩ := ownG_cells h
  refine ownG_mk (heap_set (heap_set (heap_set (heap_set hh)))) hle hmx (by simpa using hcs) ?_ (by simpa using hn) hB (by simpa using hgl)
  simp only [Array.toList_setIfInBounds, List.take_set, htk, flatG_cons]
  rfl
/-- The first triple's property laid anew. -/
theorem ownG_setP {W : World} {B g n cap : Nat} {x : G1} {r : List G1} (h : OwnG W B (.slice (some ⟨g, 0, none⟩) n cap) (x :: r)) (t : Tm) (b : List Int) :
    OwnG ((((W.setCell ⟨g, 4, none⟩ (.int .i64 t.k)).setCell ⟨g, 5, none⟩ (.slice t.a t.len t.cap)).setCell ⟨g, 6, none⟩ (.int .i64 t.n)).setCell ⟨g, 7, none⟩ (.int .i64 t.s)) B (.slice (some ⟨g, 0, none⟩) n cap) (⟨x.t, t, x.v, x.bt, b, x.bv⟩ :: r) := by
  obtain ⟨cur, hh, hle, hmx, hcs, htk, hn, hB, hgl⟩ := ownG_cells h
  refine ownG_mk (heap_set (heap_set (heap_set (heap_set hh)))) hle hmx (by simpa using hcs) ?_ (by simpa using hn) hB (by simpa using hgl)
  simp only [Array.toList_setIfInBounds, List.take_set, htk, flatG_cons]
  rfl
end Go.Proofs.YtobnpfcgcoooeaaGreatDoor
