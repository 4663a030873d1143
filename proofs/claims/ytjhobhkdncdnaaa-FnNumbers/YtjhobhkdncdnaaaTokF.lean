/- PROVED: at every term the program's TermOk answers as its model, and writes into no argument (FnExactTermOkSaid; no condition). -/
import Derived.Test.YtjhobhkdncdnaaaTokE
import Derived.ChangeOld
import Derived.Lib.SmallJoins
namespace Go.Proofs.Ytjhobhkdncdnaaa
open Go.ChangeShapes Go.WideShapes Go.ChangeAt Go.RowKit Go.Joins

theorem own : ownKnob Try.prog.godebug = none := by kernel_rfl
theorem laidOut : laidOutB Try.prog = true := by kernel_rfl
theorem Try.cells5 : Try.prog.cellsOf 5 = 1 := by kernel_rfl

theorem cell_lt {w : World} {a : Addr} {v : Value} (h : w.cell? a = some v) : a.block < w.heap.size := by
  apply Classical.byContradiction
  intro hn
  have e : w.heap[a.block]? = none := by simp; omega
  simp [World.cell?, e] at h

theorem Bs.of_cells {W : World} {x : Addr} {l c : Nat} {zs : List Int} (hl : l ≤ c) (hz : zs.length = c) (h20 : l ≤ 1048576)
    (hcell : ∀ i, i < zs.length → W.cell? (x.add i) = some (.int .u8 (zs.getD i 0))) (hwz : ∀ n ∈ zs, (Lit.int .u8 n).wf = true) : Bs W (some x) l (zs.take l) := by
  refine ⟨by simp; omega, h20, fun i => ?_, ?_⟩
  · by_cases hi : i < (zs.take l).length
    · have hm : (zs.take l)[i] ∈ zs := List.mem_of_mem_take (List.getElem_mem hi)
      have := bounds_u8 (hwz _ hm)
      rw [List.getElem?_eq_getElem hi]
      exact this
    · rw [List.getElem?_eq_none (by omega)]
      simp
  · by_cases h0 : l = 0
    · exact .inl h0
    · right
      obtain ⟨b, off, spot⟩ := x
      have hc0 := hcell 0 (by omega)
      have hspot : spot = none := by simpa [Addr.add] using World.cell?_spot hc0
      subst hspot
      refine ⟨b, off, rfl, by simpa [Addr.add] using cell_lt hc0, fun i hi => ?_⟩
      have h := hcell i (by omega)
      have ea : (⟨b, off, none⟩ : Addr).add i = ⟨b, off + i, none⟩ := by
        by_cases h0 : i = 0 <;> simp [Addr.add, h0]
      rw [ea] at h
      rw [h, List.getElem?_take, if_pos hi, List.getD_eq_getElem?_getD]

end Go.Proofs.Ytjhobhkdncdnaaa
