/- PROVED: at every term the program's TermOk answers as its model, and writes into no argument (FnExactTermOkSaid; no condition). -/
import Derived.Test.YtmpiadlmkeimdaaDoorTokE
import Derived.ChangeOld
import Derived.Lib.SmallJoins
namespace Go.Proofs.YtmpiadlmkeimdaaDoor
open Go.ChangeShapes Go.WideShapes Go.ChangeAt Go.RowKit Go.Joins

theorem own : ownKnob Tryd.prog.godebug = none := by kernel_rfl
theorem laidOut : laidOutB Tryd.prog = true := by kernel_rfl
theorem Tryd.cells24 : Tryd.prog.cellsOf 24 = 4 := by kernel_rfl
theorem Tryd.cells5 : Tryd.prog.cellsOf 5 = 1 := by kernel_rfl

theorem cell_lt {w : World} {a : Addr} {v : Value} (h : w.cell? a = some v) : a.block < w.heap.size := by
  apply Classical.byContradiction
  intro hn
  have e : w.heap[a.block]? = none := by simp; omega
  simp [World.cell?, e] at h

theorem Bs.of_cells {W : World} {x : Addr} {l c : Nat} {zs : List Int} (hl : l ≤ c) (hz : zs.length = c) (h20 : l ≤ 1048576)
    (hcell : ∀ i, i < zs.length → W.cell? (x.add i) = some (.int .u8 (zs.getD i 0))) (hwz : ∀ n ∈ zs, (Lit.int .u8 n).wf = true) : Bs W (some x) l (zs.take l) := by
  refine ⟨by simp; omega, h20, fun i => ?_, ?_⟩
  · by_cases hi : i < (zs.take l).length
    · have hm : (zs.take l)[i] ∈ zs := List.mem_of_mem_take (List.getElem_mem hi)
      have := bounds_u8 (hwz _ hm)
      rw [List.getElem?_eq_getElem hi]
      exact this
    · rw [List.getElem?_eq_none (by omega)]
      simp
  · by_cases h0 : l = 0
    · exact .inl h0
    · right
      obtain ⟨b, off, spot⟩ := x
      have hc0 := hcell 0 (by omega)
      have hspot : spot = none := by simpa [Addr.add] using World.cell?_spot hc0
      subst hspot
      refine ⟨b, off, rfl, by simpa [Addr.add] using cell_lt hc0, fun i hi => ?_⟩
      have h := hcell i (by omega)
      have ea : (⟨b, off, none⟩ : Addr).add i = ⟨b, off + i, none⟩ := by
        by_cases h0 : i = 0 <;> simp [Addr.add, h0]
      rw [ea] at h
      rw [h, List.getElem?_take, if_pos hi, List.getD_eq_getElem?_getD]

set_option maxRecDepth 100000 in
/-- A term that came in, opened: its kind, its text as a row of bytes, its number. -/
theorem open_term {H : Type} {enc : TypeId × Value → H} {W : World} {b0 : Nat} {v : Value} {d : DataW H} {p : List MemPlace}
    (hv : Value.okWide Tryd.prog W .any b0 24 v) (h : DataW.Trod enc Tryd.prog W 0 (fun _ => true) true 24 v d p) :
    ∃ (k n s : Int) (a : Option Addr) (len cap : Nat) (bs : List Int), v = .agg #[.int .i64 k, .slice a len cap, .int .i64 n, .int .i64 s] ∧ (Lit.int .i64 k).wf = true ∧ (Lit.int .i64 n).wf = true ∧ (Lit.int .i64 s).wf = true ∧
      len ≤ 9223372036854775807 ∧ (len ≤ 1048576 → Bs W a len bs) := by
  have hlt : ∀ x ∈ p, x.block < W.heap.size := by obtain ⟨m, hm⟩ := h; exact DataW.trod_lt m _ _ _ hm
  obtain ⟨c0, c1, c2, c3, y0, y1, y2, y3, m, rfl, rfl, rfl, hy0, hy1, hy2, hy3⟩ := open_agg4 Tryd.underlying24 (by kernel_rfl) Tryd.cells24 hv h
  obtain ⟨k, e0, rfl, wk⟩ := DataW.trod_int Tryd.underlying3 hy0
  obtain ⟨n, e2, rfl, wn⟩ := DataW.trod_int Tryd.underlying3 hy2
  obtain ⟨s, e3, rfl, ws⟩ := DataW.trod_int Tryd.underlying3 hy3
  simp at e0 e2 e3
  subst e0 e2 e3
  rcases open_ints Tryd.underlying22 Tryd.underlying5 Tryd.cells5 hy1 with ⟨hcs, rfl⟩ | ⟨x, l, c, zs, hcs, _, hl, hm, hz, rfl, hcell, hwz⟩
  · simp at hcs
    subst hcs
    exact ⟨k, n, s, none, 0, 0, [], rfl, wk, wn, ws, by omega, fun _ => ⟨rfl, by omega, by simp, .inl rfl⟩⟩
  · simp at hcs
    subst hcs
    simp only [if_true] at hz
    refine ⟨k, n, s, some x, l, c, zs.take l, rfl, wk, wn, ws, by unfold maxLen at hm; omega, fun h20 => ?_⟩
    exact Bs.of_cells hl hz h20 hcell hwz

end Go.Proofs.YtmpiadlmkeimdaaDoor
