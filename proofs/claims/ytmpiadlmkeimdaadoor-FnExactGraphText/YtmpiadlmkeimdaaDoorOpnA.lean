/- Terms and triples that came in, opened from their cells. -/
import Derived.Test.YtmpiadlmkeimdaaDoorTriA
import Derived.Deep.Strs
import Derived.Deep.Slices
namespace Go.Proofs.YtmpiadlmkeimdaaDoor
open Go.ChangeShapes Go.WideShapes Go.ChangeAt Go.RowKit Go.Joins Go.Deep

theorem Tryd.cells72 : Tryd.prog.cellsOf 72 = 12 := by kernel_rfl

def tmCells (t : Tm) : List Value := [.int .i64 t.k, .slice t.a t.len t.cap, .int .i64 t.n, .int .i64 t.s]

set_option maxRecDepth 100000 in
/-- A term's cells, opened. -/
theorem trod_term {H : Type} {enc : TypeId × Value → H} {W : World} {fuel : Nat} {cs : List Value} {x : DataW H × List MemPlace}
    (h : DataW.trod enc Tryd.prog W 0 (fun _ => true) true fuel 24 cs = some x) :
    ∃ (t : Tm) (bs : List Int), cs = tmCells t ∧ t.fits ∧ t.len ≤ 9223372036854775807 ∧ (t.len ≤ 1048576 → Bs W t.a t.len bs) := by
  obtain ⟨y0, y1, y2, y3, m, _, hlen, hy0, hy1, hy2, hy3⟩ := trod_struct4 Tryd.underlying24 h
  rw [Tryd.cells24] at hlen
  match cs, hlen with
  | [c0, c1, c2, c3], _ =>
    have e3 : Tryd.prog.cellsOf 3 = 1 := by kernel_rfl
    have e8 : Tryd.prog.cellsOf 22 = 1 := by kernel_rfl
    simp [e3, e8] at hy0 hy1 hy2 hy3
    obtain ⟨k, e0, _, wk⟩ := DataW.trod_int Tryd.underlying3 hy0
    obtain ⟨n, e2, _, wn⟩ := DataW.trod_int Tryd.underlying3 hy2
    obtain ⟨s, e3, _, ws⟩ := DataW.trod_int Tryd.underlying3 hy3
    simp at e0 e2 e3
    subst e0 e2 e3
    have bn := bounds_i64 wn
    have bsc := bounds_i64 ws
    rcases open_ints Tryd.underlying22 Tryd.underlying5 Tryd.cells5 hy1 with ⟨hcs, _⟩ | ⟨x, l, c, zs, hcs, _, hl, hm, hz, _, hcell, hwz⟩
    · simp at hcs
      subst hcs
      exact ⟨⟨k, none, 0, 0, n, s⟩, [], rfl, ⟨bn.1, bn.2, bsc.1, bsc.2⟩, by show (0 : Nat) ≤ _; omega, fun _ => ⟨rfl, by show (0 : Nat) ≤ _; omega, by simp, .inl rfl⟩⟩
    · simp at hcs
      subst hcs
      simp only [if_true] at hz
      refine ⟨⟨k, some x, l, c, n, s⟩, zs.take l, rfl, ⟨bn.1, bn.2, bsc.1, bsc.2⟩, ?_, fun h20 => ?_⟩
      · show l ≤ _
        unfold maxLen at hm
        omega
      · exact Bs.of_cells hl hz h20 hcell hwz

set_option maxRecDepth 100000 in
/-- A triple's cells, opened. -/
theorem trod_triple {H : Type} {enc : TypeId × Value → H} {W : World} {fuel : Nat} {cs : List Value} {x : DataW H × List MemPlace}
    (h : DataW.trod enc Tryd.prog W 0 (fun _ => true) true fuel 72 cs = some x) :
    ∃ (t u v : Tm) (bt bu bv : List Int), cs = tmCells t ++ (tmCells u ++ tmCells v) ∧ (t.fits ∧ u.fits ∧ v.fits) ∧ (t.len ≤ 9223372036854775807 ∧ u.len ≤ 9223372036854775807 ∧ v.len ≤ 9223372036854775807) ∧
      ((t.len ≤ 1048576 → Bs W t.a t.len bt) ∧ (u.len ≤ 1048576 → Bs W u.a u.len bu) ∧ (v.len ≤ 1048576 → Bs W v.a v.len bv)) := by
  obtain ⟨y0, y1, y2, m, _, hlen, hy0, hy1, hy2⟩ := trod_struct3 Tryd.underlying72 h
  rw [Tryd.cells72] at hlen
  simp only [Tryd.cells24] at hy0 hy1 hy2
  obtain ⟨t, bt, e0, f0, l0, b0⟩ := trod_term hy0
  obtain ⟨u, bu, e1, f1, l1, b1⟩ := trod_term hy1
  obtain ⟨v, bv, e2, f2, l2, b2⟩ := trod_term hy2
  refine ⟨t, u, v, bt, bu, bv, ?_, ⟨f0, f1, f2⟩, ⟨l0, l1, l2⟩, ⟨b0, b1, b2⟩⟩
  rw [← e0, ← e1, ← e2]
  match cs, hlen with
  | [_, _, _, _, _, _, _, _, _, _, _, _], _ => rfl

set_option maxRecDepth 100000 in
/-- A triple that came in, opened. -/
theorem open_triple {H : Type} {enc : TypeId × Value → H} {W : World} {b0 : Nat} {x : Value} {d : DataW H} {p : List MemPlace}
    (hv : Value.okWide Tryd.prog W .any b0 72 x) (h : DataW.Trod enc Tryd.prog W 0 (fun _ => true) true 72 x d p) :
    ∃ (t u v : Tm) (bt bu bv : List Int), x = .agg #[.int .i64 t.k, .slice t.a t.len t.cap, .int .i64 t.n, .int .i64 t.s, .int .i64 u.k, .slice u.a u.len u.cap, .int .i64 u.n, .int .i64 u.s, .int .i64 v.k, .slice v.a v.len v.cap, .int .i64 v.n, .int .i64 v.s] ∧ (t.fits ∧ u.fits ∧ v.fits) ∧ (t.len ≤ 9223372036854775807 ∧ u.len ≤ 9223372036854775807 ∧ v.len ≤ 9223372036854775807) ∧
      ((t.len ≤ 1048576 → Bs W t.a t.len bt) ∧ (u.len ≤ 1048576 → Bs W u.a u.len bu) ∧ (v.len ≤ 1048576 → Bs W v.a v.len bv)) := by
  obtain ⟨cs, rfl, hsz⟩ := okWide_struct Tryd.underlying72 hv
  obtain ⟨fuel, hf⟩ := h
  obtain ⟨t, u, v, bt, bu, bv, hcs, hr⟩ := trod_triple hf
  refine ⟨t, u, v, bt, bu, bv, ?_, hr⟩
  have : cs.toList = tmCells t ++ (tmCells u ++ tmCells v) := by simpa [Value.cells] using hcs
  cases cs
  simp at this
  subst this
  rfl
end Go.Proofs.YtmpiadlmkeimdaaDoor
