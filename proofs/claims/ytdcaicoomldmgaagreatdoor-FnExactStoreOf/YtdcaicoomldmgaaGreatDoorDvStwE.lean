/- StoreOf, of the program and of the model, at every graph: answers of one kind. -/
import Derived.Test.YtdcaicoomldmgaaGreatDoorDvStwD
import Derived.Test.YtdcaicoomldmgaaGreatDoorMk42
namespace Go.Proofs.YtdcaicoomldmgaaGreatDoor
open Go.RowKit Go.Deep
set_option maxRecDepth 100000

/-- What a graph's store is: its terms, and its rows in six orders. -/
def Ans (p : Bool) (n : Nat) (T U V : Nat → Tm) (bt bu bv : Nat → List Int) (D : List TD) (E : List (List (Int × Int × Int))) : Prop :=
  (p = false ∧ D = [] ∧ E = []) ∨ (p = true ∧ TermsOf (allT T U V bt bu bv n) D ∧ E.length = 6 ∧ ∀ i l, E[i]? = some l → RowsOf i (gRows D T U V bt bu bv n) l)
theorem Ans.unique {p : Bool} {n : Nat} {T U V : Nat → Tm} {bt bu bv : Nat → List Int} {D D' : List TD} {E E' : List (List (Int × Int × Int))} (hg : p = true → ∀ x ∈ allT T U V bt bu bv n, x.good) (h : Ans p n T U V bt bu bv D E) (h' : Ans p n T U V bt bu bv D' E') : D = D' ∧ E = E' := by
  rcases h with ⟨hp, rfl, rfl⟩ | ⟨hp, hT, hl, hr⟩
  · rcases h' with ⟨_, rfl, rfl⟩ | ⟨hp', _⟩
    · exact ⟨rfl, rfl⟩
    · rw [hp] at hp'
      cases hp'
  · rcases h' with ⟨hp', _⟩ | ⟨_, hT', hl', hr'⟩
    · rw [hp] at hp'
      cases hp'
    · have e : D = D' := hT.unique (hg hp) hT'
      subst e
      refine ⟨rfl, List.ext_getElem? fun i => ?_⟩
      by_cases hi : i < 6
      · have e1 : E[i]? = some E[i] := List.getElem?_eq_getElem (by omega)
        have e2 : E'[i]? = some E'[i] := List.getElem?_eq_getElem (by omega)
        rw [e1, e2, (hr i _ e1).unique (hr' i _ e2)]
      · rw [List.getElem?_eq_none (by omega), List.getElem?_eq_none (by omega)]

theorem Orders.lists {w : World} {B : Nat} {v : Value} {rows : List (Int × Int × Int)} {k : Nat} {vs : List Value} (h : Orders w B v rows k vs) : ∃ rbs : List RB, rbs.map RB.v = vs ∧ ∀ i x, rbs[i]? = some x → OwnRR w B x.v x.l ∧ RowsOf i rows x.l := by
  have hh : ∀ i, ∃ x : RB, i < k → vs[i]? = some x.v ∧ OwnRR w B x.v x.l ∧ RowsOf i rows x.l := by
    intro i
    by_cases hi : i < k
    · obtain ⟨y, hy⟩ : ∃ y, vs[i]? = some y := ⟨_, List.getElem?_eq_getElem (by rw [h.len]; exact hi)⟩
      obtain ⟨l, h1, h2, h3⟩ := h.row i y hy
      obtain ⟨a, c, rfl, _⟩ := h1.form
      exact ⟨⟨a, c, l⟩, fun _ => ⟨hy, h1, ⟨h2, h3⟩⟩⟩
    · exact ⟨⟨none, 0, []⟩, fun h => absurd h hi⟩
  obtain ⟨F, hF⟩ := Classical.axiomOfChoice hh
  refine ⟨(List.range k).map F, List.ext_getElem? fun i => ?_, fun i x hx => ?_⟩
  · by_cases hi : i < k
    · rw [(hF i hi).1, List.getElem?_map, List.getElem?_map, List.getElem?_range hi]
      rfl
    · rw [List.getElem?_eq_none (by simp; omega), List.getElem?_eq_none (by rw [h.len]; omega)]
  · rw [List.getElem?_map] at hx
    obtain ⟨j, hj, rfl⟩ := Option.map_eq_some_iff.1 hx
    obtain ⟨h1, h2⟩ := List.getElem?_eq_some_iff.1 hj
    simp at h1 h2
    subst h2
    exact (hF _ h1).2

/-- What the program's StoreOf answers. -/
def ImAns (w : World) (n : Nat) (T U V : Nat → Tm) (bt bu bv : Nat → List Int) (e : Ending) (w' : World) : Prop :=
  ∃ aT capT aR capR r rbs, e = .returned (.tuple #[.agg #[.slice aT r.length capT, .slice aR rbs.length capR], .bool (graphOk n T U V bt bu bv)]) ∧ OS w' w.heap.size w'.heap.size (.slice aT r.length capT) (.slice aR rbs.length capR) r rbs ∧ Ans (graphOk n T U V bt bu bv) n T U V bt bu bv (r.map TB.td) (rbs.map RB.l) ∧ Below w.heap.size w w'

theorem implStoreOf_any (a : Option Addr) (n cap : Nat) (T U V : Nat → Tm) (bt bu bv : Nat → List Int) (w : World) (hn : n ≤ 1048576) (hf : AllFit n T U V) (hR : Rows w a n T U V) (h1 : Texts w n T bt) (h2 : Texts w n U bu) (h3 : Texts w n V bv) (ht : Tab w) :
    Calls Tryz.prog 10 #[.agg #[.slice a n cap]] w (ImAns w n T U V bt bu bv) := by
  cases hok : graphOk n T U V bt bu bv
  · refine (implStoreOf_no a n cap T U V bt bu bv w hn hf hR h1 h2 h3 hok).mono ?_
    rintro e w' ⟨rfl, hb⟩
    exact ⟨none, 0, none, 0, [], [], by rw [hok]; rfl, OS.nil hb.size, .inl ⟨hok, rfl, rfl⟩, hb⟩
  · obtain ⟨hn60, hgg⟩ := graph_good hok h1 h2 h3
    refine (implStoreOf_yes a n cap T U V bt bu bv w hf hR h1 h2 h3 hok ht).mono ?_
    rintro e w' ⟨vT, vR, r, vs, B', B2, rfl, hOT, hTM, hrl, hb, hOY, hPW, hTB, hTB2, ⟨hB', hB2⟩, hTB3, hOR⟩
    obtain ⟨rbs, hmap, hrb⟩ := hOR.lists
    have hl6 : rbs.length = 6 := by
      have e1 := congrArg List.length hmap
      have e2 := hOR.len
      simp at e1
      omega
    have hmem : ∀ x ∈ rbs, OwnRR w' B2 x.v x.l ∧ x.l.length ≤ 60 ∧ x.v ∈ vs := fun x hx => by
      obtain ⟨i, hi, rfl⟩ := List.getElem_of_mem hx
      have hr := hrb i _ (List.getElem?_eq_getElem hi)
      refine ⟨hr.1, ?_, ?_⟩
      · rw [hr.2.perm.length_eq, gRows_len]
        exact hn60
      · rw [← hmap]
        exact List.mem_map_of_mem hx
    have hown : OwnV w' w.heap.size vR (rbs.map RB.v) := by
      rw [hmap]
      exact ⟨ownsRow_base hOR.own.1 hB2, fun g hg => ⟨Nat.le_trans hB2 (hOR.own.2 g hg).1, (hOR.own.2 g hg).2⟩⟩
    have hos : OS w' w.heap.size w'.heap.size vT vR r rbs := by
      refine ⟨hOT, fun y hy => (hOY y hy).base hB', hPW, fun y hy p hp e => ?_, hown, fun x hx => (hmem x hx).1.base hB2, fun x hx => hOR.dis x.v (hmem x hx).2.2, ?_, fun g hg => ⟨fun e => ?_, fun y hy p hp e => ?_⟩, fun x hx g hg => ⟨fun e => ?_, fun y hy p hp e => ?_⟩, fun y hy => ?_, by omega, by omega, fun x hx => (hmem x hx).2.1,
        fun g hg => (hOT.2 g hg).2, fun y hy p hp => ((hOY y hy).2.1 p hp).2, fun g hg => (hOR.own.2 g hg).2, fun x hx g hg => ((hmem x hx).1.2 g hg).2, hb.size, Nat.le_refl _⟩
      · have := hTB _ e
        have := ((hOY y hy).2.1 p hp).1
        omega
      · have := hOR.ord
        rw [← hmap, List.pairwise_map] at this
        exact this
      · have := hTB3 _ e
        have := (hOR.own.2 g hg).1
        omega
      · have := hTB2 y hy p hp
        have := (hOR.own.2 g hg).1
        omega
      · have := hTB3 _ e
        have := ((hmem x hx).1.2 g hg).1
        omega
      · have := hTB2 y hy p hp
        have := ((hmem x hx).1.2 g hg).1
        omega
      · exact allT_good (fun z hz => (hgg z hz).1) _ ((hTM.mem _).1 (List.mem_map_of_mem hy))
    obtain ⟨aT, capT, aR, capR, rfl, rfl, _⟩ := hos.arg
    refine ⟨aT, capT, aR, capR, r, rbs, by rw [hok], hos, .inr ⟨hok, hTM, by simpa using hl6, fun i l hl => ?_⟩, hb⟩
    rw [List.getElem?_map] at hl
    obtain ⟨x, hx, rfl⟩ := Option.map_eq_some_iff.1 hl
    exact (hrb i x hx).2

/-- A store stays where a box of two empty lists is written, which can't be a part of it. -/
theorem SArg.setbox {w : World} {c : Nat} {t : TypeId} {fr : Nat × Nat} {aT aR : Option Addr} {r : List TB} {rbs : List RB} (hc : w.heap[c]? = some (.cells #[.slice none 0 0, .slice none 0 0] t fr)) (h : SArg w aT r aR rbs) (h6 : rbs.length = 6) (v0 v1 : Value) :
    SArg ((w.setCell ⟨c, 0, none⟩ v0).setCell ⟨c, 1, none⟩ v1) aT r aR rbs := by
  have hb : But c w ((w.setCell ⟨c, 0, none⟩ v0).setCell ⟨c, 1, none⟩ v1) := ((But.refl c w).set 0 v0).set 1 v1
  have hin : ∀ o u, w.cell? ⟨c, o, none⟩ = some u → u = .slice none 0 0 ∧ o < 2 := by
    intro o u hu
    simp only [World.cell?, hc] at hu
    have ho : o < 2 := by
      apply Classical.byContradiction
      intro hn
      have : (#[Value.slice none 0 0, Value.slice none 0 0] : Array Value)[o]? = none := Array.getElem?_eq_none (by simp; omega)
      simp [this] at hu
    have : o = 0 ∨ o = 1 := by omega
    rcases this with rfl | rfl <;> simp at hu <;> exact ⟨hu.symm, ho⟩
  have hint : ∀ b o k n, w.cell? ⟨b, o, none⟩ = some (.int k n) → b ≠ c := fun b o k n hu e => by
    subst e
    have := (hin o _ hu).1
    cases this
  refine ⟨?_, fun x hx => ?_, h.fit, h.tlen, ?_, fun x hx => ⟨?_, (h.hold x hx).2⟩, h.rlen⟩
  · rcases h.trow with e | ⟨b, off, e, hl, hcc⟩
    · exact .inl e
    · by_cases hr : r = []
      · exact .inl hr
      · have hb0 : 0 < r.length := List.length_pos_iff.2 hr
        have h0 := TRow.at hcc 0 hb0
        have hne : b ≠ c := hint b _ _ _ h0.1
        exact .inr ⟨b, off, e, by rw [hb.size]; exact hl, fun j u hu => (hb.cell (p := ⟨b, off + j, none⟩) hne).trans (hcc j u hu)⟩
  · refine (h.ttxt x hx).butB hb ?_
    by_cases h0 : x.t.len = 0
    · exact .inl h0
    · obtain ⟨_, _, _, h4⟩ := h.ttxt x hx
      rcases h4 with h4 | ⟨b, off, e, _, hcc⟩
      · exact .inl h4
      · refine .inr fun p hp => ?_
        rw [e] at hp
        cases hp
        exact hint b _ _ _ (hcc 0 (by omega))
  · rcases h.srow with e | ⟨b, off, e, hl, hcc⟩
    · exact .inl e
    · have h5 : rbs[5]? = some rbs[5] := List.getElem?_eq_getElem (by omega)
      have hne : b ≠ c := fun e => by
        subst e
        have := (hin _ _ (hcc 5 _ h5)).2
        omega
      exact .inr ⟨b, off, e, by rw [hb.size]; exact hl, fun i x hx => (hb.cell (p := ⟨b, off + i, none⟩) hne).trans (hcc i x hx)⟩
  · rcases (h.hold x hx).1 with e | ⟨b, off, e, hl, hcc⟩
    · exact .inl e
    · refine .inr ⟨b, off, e, by rw [hb.size]; exact hl, fun j u hu => ?_⟩
      have hne : b ≠ c := by
        have hj : 0 < x.l.length := by
          have := (List.getElem?_eq_some_iff.1 hu).1
          rw [flat3_len] at this
          omega
        have := hcc 0 _ (by have := flat3_get x.l 0 0 hj (by omega); rw [Nat.zero_mul, Nat.add_zero] at this; rw [this]; rfl)
        exact hint b _ _ _ this
      exact (hb.cell (p := ⟨b, off + j, none⟩) hne).trans (hcc j u hu)

/-- What the model's StoreOf answers. -/
def SpAns (w : World) (n : Nat) (T U V : Nat → Tm) (bt bu bv : Nat → List Int) (e : Ending) (w' : World) : Prop :=
  ∃ aT capT aR capR r rbs, e = .returned (.tuple #[.agg #[.slice aT r.length capT, .slice aR rbs.length capR], .bool (graphOk n T U V bt bu bv)]) ∧ SArg w' aT r aR rbs ∧ Ans (graphOk n T U V bt bu bv) n T U V bt bu bv (r.map TB.td) (rbs.map RB.l) ∧ Below w.heap.size w w'

set_option maxHeartbeats 1000000 in
theorem specStoreOf_any (a : Option Addr) (n cap : Nat) (T U V : Nat → Tm) (bt bu bv : Nat → List Int) (w : World) (hn : n ≤ 1048576) (hf : AllFit n T U V) (hR : Rows w a n T U V) (h1 : Texts w n T bt) (h2 : Texts w n U bu) (h3 : Texts w n V bv) :
    Calls Tryz.prog 8 #[.agg #[.slice a n cap]] w (SpAns w n T U V bt bu bv) := by
  have O := fun (w' : World) (hq : Below w.heap.size w w') => specGraphOk_any a n cap T U V bt bu bv w' hn hf (hR.below hq) (h1.below hq) (h2.below hq) (h3.below hq)
  cases hok : graphOk n T U V bt bu bv
  · rw [hok] at O
    have HOK : Hid (graphOk n T U V bt bu bv = false) := hok
    clear hR h1 h2 h3 hf hok
    go_enter Tryz.func8, Tryz.ntmps8
    go_wp2_with fail
    refine (O _ (bl_alloc (bl_a _) _)).mono ?_
    rintro e w1 ⟨rfl, hb1⟩
    have HB1 : Hid (Below (w.heap.size + 1 + 1) ((w.alloc (.cells #[.slice a n cap] 34)).alloc (.cells #[.slice none 0 0, .slice none 0 0] 29)) w1) := (show Below _ _ _ by simpa using hb1)
    have c0 : w1.cell? ⟨w.heap.size + 1, 0, none⟩ = some (.slice none 0 0) := (HB1.out.cell (p := ⟨w.heap.size + 1, 0, none⟩) (by simp)).trans (by simp [go_sem])
    have c1 : w1.cell? ⟨w.heap.size + 1, 1, none⟩ = some (.slice none 0 0) := (HB1.out.cell (p := ⟨w.heap.size + 1, 1, none⟩) (by simp)).trans (by simp [go_sem])
    have f0 : w1.frozen? ⟨w.heap.size + 1, 0, none⟩ = false := (HB1.out.frozen (p := ⟨w.heap.size + 1, 0, none⟩) (by simp)).trans (by simp [go_sem])
    have f1 : w1.frozen? ⟨w.heap.size + 1, 1, none⟩ = false := (HB1.out.frozen (p := ⟨w.heap.size + 1, 1, none⟩) (by simp)).trans (by simp [go_sem])
    have hs1 : w.heap.size + 1 + 1 ≤ w1.heap.size := by have := HB1.out.size; simpa using this
    clear hb1 O
    go_wp2
    refine bodyPost_ret (v := .tuple #[.agg #[.slice none 0 0, .slice none 0 0], .bool false]) (by simp [results, Tryz.results8, go_sem, *]) rfl ?_
    have hb : Below w.heap.size w w1 := (bl_alloc (bl_a _) _).trans (HB1.out.mono (by omega))
    exact ⟨none, 0, none, 0, [], [], by rw [HOK.out]; rfl, ⟨.inl rfl, fun _ h => (by cases h), fun _ h => (by cases h), by simp, .inl rfl, fun _ h => (by cases h), by simp⟩, .inl ⟨HOK.out, rfl, rfl⟩, hb.trans ((Below.refl _ _).setCell (p := ⟨w.heap.size + 1, 0, none⟩) (Nat.le_succ _) _ |>.setCell (p := ⟨w.heap.size + 1, 1, none⟩) (Nat.le_succ _) _)⟩
  · rw [hok] at O
    have HOK : Hid (graphOk n T U V bt bu bv = true) := hok
    obtain ⟨hn60, hgg⟩ := graph_good hok h1 h2 h3
    have X := fun (w' : World) (hq : Below w.heap.size w w') => l3store_all a n cap T U V bt bu bv w' hn60 (hR.below hq) (fun y hy => ⟨(hgg y hy).1, (hgg y hy).2.below hq⟩)
    have HGD : Hid (∀ x ∈ allT T U V bt bu bv n, x.good) := allT_good (fun z hz => (hgg z hz).1)
    clear hR h1 h2 h3 hf hok hgg
    go_enter Tryz.func8, Tryz.ntmps8
    go_wp2_with fail
    refine (O _ (bl_alloc (bl_a _) _)).mono ?_
    rintro e w1 ⟨rfl, hb1⟩
    have HB1 : Hid (Below (w.heap.size + 1 + 1) ((w.alloc (.cells #[.slice a n cap] 34)).alloc (.cells #[.slice none 0 0, .slice none 0 0] 29)) w1) := (show Below _ _ _ by simpa using hb1)
    have hB1 : Below w.heap.size w w1 := (bl_alloc (bl_a _) _).trans (HB1.out.mono (by omega))
    have hs1 : w.heap.size + 1 + 1 ≤ w1.heap.size := by have := HB1.out.size; simpa using this
    have hbox : w1.cell? ⟨w.heap.size, 0, none⟩ = some (.slice a n cap) := (HB1.out.cell (p := ⟨w.heap.size, 0, none⟩) (by simp; omega)).trans (by simp [go_sem])
    clear hb1 O
    go_wp2_with fail
    refine (X _ hB1).mono ?_
    rintro e w2 ⟨aT, capT, aR, capR, r, rbs, rfl, hT, hX, hTM, hrl, h6, hS, hrb, hb2⟩
    have HA : Hid (SArg w2 aT r aR rbs) := by
      have hmem : ∀ y ∈ r, y.good := fun y hy => HGD.out _ ((hTM.mem _).1 (List.mem_map_of_mem hy))
      refine ⟨hT, hX, fun y hy => fits_of_ok (TB.ok (hmem y hy)), by omega, hS, fun x hx => ?_, by omega⟩
      obtain ⟨i, hi, rfl⟩ := List.getElem_of_mem hx
      have hr := hrb i _ (List.getElem?_eq_getElem hi)
      refine ⟨hr.1, ?_⟩
      rw [hr.2.perm.length_eq, gRows_len]
      omega
    have HM : Hid (Ans (graphOk n T U V bt bu bv) n T U V bt bu bv (r.map TB.td) (rbs.map RB.l)) := .inr ⟨HOK.out, hTM, by simpa using h6, fun i l hl => by
      rw [List.getElem?_map] at hl
      obtain ⟨x, hx, rfl⟩ := Option.map_eq_some_iff.1 hl
      exact (hrb i x hx).2⟩
    have HB : Hid (Below w.heap.size w w2) := bl_trans hB1 hb2
    have H6 : Hid (rbs.length = 6) := h6
    have c0 : w2.cell? ⟨w.heap.size + 1, 0, none⟩ = some (.slice none 0 0) := (hb2.cell (p := ⟨w.heap.size + 1, 0, none⟩) hs1).trans ((HB1.out.cell (p := ⟨w.heap.size + 1, 0, none⟩) (by simp)).trans (by simp [go_sem]))
    have c1 : w2.cell? ⟨w.heap.size + 1, 1, none⟩ = some (.slice none 0 0) := (hb2.cell (p := ⟨w.heap.size + 1, 1, none⟩) hs1).trans ((HB1.out.cell (p := ⟨w.heap.size + 1, 1, none⟩) (by simp)).trans (by simp [go_sem]))
    have f0 : w2.frozen? ⟨w.heap.size + 1, 0, none⟩ = false := (hb2.frozen (p := ⟨w.heap.size + 1, 0, none⟩) hs1).trans ((HB1.out.frozen (p := ⟨w.heap.size + 1, 0, none⟩) (by simp)).trans (by simp [go_sem]))
    have f1 : w2.frozen? ⟨w.heap.size + 1, 1, none⟩ = false := (hb2.frozen (p := ⟨w.heap.size + 1, 1, none⟩) hs1).trans ((HB1.out.frozen (p := ⟨w.heap.size + 1, 1, none⟩) (by simp)).trans (by simp [go_sem]))
    have hs2 : w.heap.size + 1 + 1 ≤ w2.heap.size := Nat.le_trans hs1 hb2.size
    have HSW : Hid (∀ v0 v1, Below w.heap.size w2 ((w2.setCell ⟨w.heap.size + 1, 0, none⟩ v0).setCell ⟨w.heap.size + 1, 1, none⟩ v1)) := fun v0 v1 => (Below.refl _ _).setCell (p := ⟨w.heap.size + 1, 0, none⟩) (Nat.le_succ _) _ |>.setCell (p := ⟨w.heap.size + 1, 1, none⟩) (Nat.le_succ _) _
    have HAB : Hid (∀ v0 v1, SArg ((w2.setCell ⟨w.heap.size + 1, 0, none⟩ v0).setCell ⟨w.heap.size + 1, 1, none⟩ v1) aT r aR rbs) := fun v0 v1 => HA.out.setbox (t := 29) (fr := (0, 0)) (by rw [hb2.block _ hs1, HB1.out.block _ (Nat.lt_succ_self _)]; have := Go.heap_alloc_new (w.alloc (.cells #[.slice a n cap] 34)) (.cells #[.slice none 0 0, .slice none 0 0] 29); simpa using this) h6 v0 v1
    clear hT hX hTM hrl h6 hS hrb hb2 hB1 X hbox
    go_wp2
    refine bodyPost_ret (v := .tuple #[.agg #[.slice aT r.length capT, .slice aR 6 capR], .bool true]) (by simp [results, Tryz.results8, go_sem, *]) rfl ?_
    exact ⟨aT, capT, aR, capR, r, rbs, by rw [HOK.out, H6.out], HAB.out _ _, HM.out, HB.out.trans (HSW.out _ _)⟩
end Go.Proofs.YtdcaicoomldmgaaGreatDoor
