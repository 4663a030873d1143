/- A graph that came in, opened. -/
import Derived.Test.YtdcaicoomldmgaaGreatDoorMk13
import Derived.Test.YtdcaicoomldmgaaGreatDoorMk45
namespace Go.Proofs.YtdcaicoomldmgaaGreatDoor
open Go.ChangeShapes Go.WideShapes Go.ChangeAt Go.RowKit Go.Joins Go.Deep

theorem Tryz.cells24 : Tryz.prog.cellsOf 24 = 1 := by kernel_rfl
theorem Tryz.cells22 : Tryz.prog.cellsOf 22 = 1 := by kernel_rfl

theorem add_none (b off i : Nat) : (⟨b, off, none⟩ : Addr).add i = ⟨b, off + i, none⟩ := by
  by_cases h0 : i = 0 <;> simp [Addr.add, h0]

/-- What is known of a triple that came in. -/
def Came (W : World) (q : (Tm × Tm × Tm) × (List Int × List Int × List Int)) : Prop :=
  (q.1.1.fits ∧ q.1.2.1.fits ∧ q.1.2.2.fits) ∧ (q.1.1.len ≤ 9223372036854775807 ∧ q.1.2.1.len ≤ 9223372036854775807 ∧ q.1.2.2.len ≤ 9223372036854775807) ∧
    ((q.1.1.len ≤ 1048576 → Bs W q.1.1.a q.1.1.len q.2.1) ∧ (q.1.2.1.len ≤ 1048576 → Bs W q.1.2.1.a q.1.2.1.len q.2.2.1) ∧ (q.1.2.2.len ≤ 1048576 → Bs W q.1.2.2.a q.1.2.2.len q.2.2.2))

set_option maxRecDepth 100000 in
/-- A row of triples that came in, opened. -/
theorem open_triples {H : Type} {enc : TypeId × Value → H} {W : World} {fuel : Nat} {c : Value} {x : DataW H × List MemPlace}
    (h : DataW.trod enc Tryz.prog W 0 (fun _ => true) true fuel 22 [c] = some x) :
    ∃ (a : Option Addr) (n cap : Nat) (F : Nat → (Tm × Tm × Tm) × (List Int × List Int × List Int)), c = .slice a n cap ∧ n ≤ 9223372036854775807 ∧ Rows W a n (fun i => (F i).1.1) (fun i => (F i).1.2.1) (fun i => (F i).1.2.2) ∧ ∀ i, i < n → Came W (F i) := by
  rcases open_slice Tryz.underlying22 h with ⟨hcs, _⟩ | ⟨a, len, cap, m, k, D, Pl, hcs, _, hl, hm, hmm, _, hx⟩
  · simp at hcs
    subst hcs
    exact ⟨none, 0, 0, fun _ => ((Tm0, Tm0, Tm0), ([], [], [])), rfl, by omega, .inl rfl, fun i hi => by omega⟩
  · simp at hcs
    subst hcs
    simp only [if_true] at hmm
    subst hmm
    rw [Tryz.cells107] at hx
    have hh : ∀ i, ∃ q : (Tm × Tm × Tm) × (List Int × List Int × List Int), i < m → (Came W q ∧ W.cells? 0 (a.add (i * 12)) 12 = some (tmCells q.1.1 ++ (tmCells q.1.2.1 ++ tmCells q.1.2.2))) := by
      intro i
      by_cases hi : i < m
      · obtain ⟨cs', hc, ht⟩ := hx i hi
        obtain ⟨t, u, v, bt, bu, bv, rfl, hf, hlen, hb⟩ := trod_triple ht
        exact ⟨((t, u, v), (bt, bu, bv)), fun _ => ⟨⟨hf, hlen, hb⟩, hc⟩⟩
      · exact ⟨((Tm0, Tm0, Tm0), ([], [], [])), fun h => absurd h hi⟩
    obtain ⟨F, hF⟩ := Classical.axiomOfChoice hh
    refine ⟨some a, len, m, F, rfl, by unfold maxLen at hm; omega, ?_, fun i hi => (hF i (by omega)).1⟩
    by_cases hn : len = 0
    · exact .inl hn
    right
    obtain ⟨b, off, spot⟩ := a
    obtain ⟨_, _, h0⟩ := World.cells?_some (hF 0 (by omega)).2
    have h00 := h0 0 (by omega)
    have hspot : spot = none := by
      have := World.cell?_spot (w := W) (a := ((⟨b, off, spot⟩ : Addr).add (0 * 12)).add 0) (by rw [h00]; rfl)
      simpa [Addr.add] using this
    subst hspot
    refine ⟨b, off, rfl, ?_, fun i hi => ?_⟩
    · rw [add_none, add_none] at h00
      exact cell_lt (a := ⟨b, off + 0 * 12 + 0, none⟩) h00
    · obtain ⟨_, _, hc⟩ := World.cells?_some (hF i (by omega)).2
      have hc' : ∀ j, j < 12 → W.cell? ⟨b, off + i * 12 + j, none⟩ = (tmCells (F i).1.1 ++ (tmCells (F i).1.2.1 ++ tmCells (F i).1.2.2))[j]? := fun j hj => by
        have := hc j hj
        rwa [add_none, add_none] at this
      exact ⟨⟨hc' 0 (by omega), hc' 1 (by omega), hc' 2 (by omega), hc' 3 (by omega)⟩, ⟨hc' 4 (by omega), hc' 5 (by omega), hc' 6 (by omega), hc' 7 (by omega)⟩, ⟨hc' 8 (by omega), hc' 9 (by omega), hc' 10 (by omega), hc' 11 (by omega)⟩⟩

set_option maxRecDepth 100000 in
/-- A graph that came in, opened. -/
theorem open_graph {H : Type} {enc : TypeId × Value → H} {W : World} {b0 : Nat} {x : Value} {d : DataW H} {p : List MemPlace}
    (hv : Value.okWide Tryz.prog W .any b0 24 x) (h : DataW.Trod enc Tryz.prog W 0 (fun _ => true) true 24 x d p) :
    ∃ (a : Option Addr) (n cap : Nat) (F : Nat → (Tm × Tm × Tm) × (List Int × List Int × List Int)), x = .agg #[.slice a n cap] ∧ n ≤ 9223372036854775807 ∧ Rows W a n (fun i => (F i).1.1) (fun i => (F i).1.2.1) (fun i => (F i).1.2.2) ∧ ∀ i, i < n → Came W (F i) := by
  obtain ⟨cs, rfl, hsz⟩ := okWide_struct Tryz.underlying24 hv
  rw [Tryz.cells24] at hsz
  obtain ⟨fuel, hf⟩ := h
  obtain ⟨y0, m, _, _, hy⟩ := trod_struct1 Tryz.underlying24 hf
  obtain ⟨c0, rfl⟩ : ∃ c0, cs = #[c0] := by
    cases cs with
    | mk l => match l, hsz with
      | [c0], _ => exact ⟨c0, rfl⟩
  simp [Tryz.cells22, Value.cells] at hy
  obtain ⟨a, n, cap, F, rfl, hr⟩ := open_triples hy
  exact ⟨a, n, cap, F, rfl, hr⟩
end Go.Proofs.YtdcaicoomldmgaaGreatDoor
