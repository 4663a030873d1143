/- PROVED: at every plan the program's PlanOk answers as its model, and writes into no argument (FnExactPlanOkSaid; no condition). Texts put together: OpnA TrwA TryB -/
import Derived.Test.YtpgbhkkdbkecoaaNk03
import Derived.Deep.Strs
import Derived.Deep.Slices
import Derived.Test.YtpgbhkkdbkecoaaNk04
import Derived.Test.YtpgbhkkdbkecoaaNk45
import Derived.Test.YtpgbhkkdbkecoaaNk02
/- OpnA -/
namespace Go.Proofs.Ytpgbhkkdbkecoaa
open Go.ChangeShapes Go.WideShapes Go.ChangeAt Go.RowKit Go.Joins Go.Deep

def tmCells (t : Tm) : List Value := [.int .i64 t.k, .slice t.a t.len t.cap, .int .i64 t.n, .int .i64 t.s]

set_option maxRecDepth 100000 in
/-- A term's cells, opened. -/
theorem trod_term {H : Type} {enc : TypeId × Value → H} {W : World} {fuel : Nat} {cs : List Value} {x : DataW H × List MemPlace}
    (h : DataW.trod enc Try.prog W 0 (fun _ => true) true fuel 25 cs = some x) :
    ∃ (t : Tm) (bs : List Int), cs = tmCells t ∧ t.fits ∧ t.len ≤ 9223372036854775807 ∧ (t.len ≤ 1048576 → Bs W t.a t.len bs) := by
  obtain ⟨y0, y1, y2, y3, m, _, hlen, hy0, hy1, hy2, hy3⟩ := trod_struct4 Try.underlying25 h
  rw [Try.cells25] at hlen
  match cs, hlen with
  | [c0, c1, c2, c3], _ =>
    have e3 : Try.prog.cellsOf 3 = 1 := by kernel_rfl
    have e8 : Try.prog.cellsOf 23 = 1 := by kernel_rfl
    simp [e3, e8] at hy0 hy1 hy2 hy3
    obtain ⟨k, e0, _, wk⟩ := DataW.trod_int Try.underlying3 hy0
    obtain ⟨n, e2, _, wn⟩ := DataW.trod_int Try.underlying3 hy2
    obtain ⟨s, e3, _, ws⟩ := DataW.trod_int Try.underlying3 hy3
    simp at e0 e2 e3
    subst e0 e2 e3
    have bn := bounds_i64 wn
    have bsc := bounds_i64 ws
    rcases open_ints Try.underlying23 Try.underlying5 Try.cells5 hy1 with ⟨hcs, _⟩ | ⟨x, l, c, zs, hcs, _, hl, hm, hz, _, hcell, hwz⟩
    · simp at hcs
      subst hcs
      exact ⟨⟨k, none, 0, 0, n, s⟩, [], rfl, ⟨bn.1, bn.2, bsc.1, bsc.2⟩, by show (0 : Nat) ≤ _; omega, fun _ => ⟨rfl, by show (0 : Nat) ≤ _; omega, by simp, .inl rfl⟩⟩
    · simp at hcs
      subst hcs
      simp only [if_true] at hz
      refine ⟨⟨k, some x, l, c, n, s⟩, zs.take l, rfl, ⟨bn.1, bn.2, bsc.1, bsc.2⟩, ?_, fun h20 => ?_⟩
      · show l ≤ _
        unfold maxLen at hm
        omega
      · exact Bs.of_cells hl hz h20 hcell hwz

end Go.Proofs.Ytpgbhkkdbkecoaa

/- TrwA -/
namespace Go.Proofs.Ytpgbhkkdbkecoaa
open Go.ChangeShapes Go.WideShapes Go.ChangeAt Go.RowKit Go.Joins Go.Deep
set_option maxRecDepth 100000

theorem piece (cs : List Value) (o n : Nat) : cs.drop o = (cs.drop o).take n ++ cs.drop (o + n) := by
  rw [← List.drop_drop]
  exact (List.take_append_drop n _).symm
theorem piece_end {cs : List Value} {n : Nat} (h : cs.length = n) : cs.drop n = [] := List.drop_eq_nil_of_le (by omega)
theorem addr_no (b off i : Nat) : (⟨b, off, none⟩ : Addr).add i = ⟨b, off + i, none⟩ := by
  by_cases h0 : i = 0 <;> simp [Addr.add, h0]

theorem trod_struct5 {H : Type} {enc : TypeId × Value → H} {P : Program} {w : World} {base : Nat} {spare : Nat → Bool} {held : Bool} {t : TypeId} {f0 f1 f2 f3 f4 : Field} {fuel : Nat} {cs : List Value} {x : DataW H × List MemPlace} (ht : P.underlying t = some (.struct #[f0, f1, f2, f3, f4])) (h : DataW.trod enc P w base spare held fuel t cs = some x) :
    ∃ y0 y1 y2 y3 y4 n, fuel = n + 1 ∧ cs.length = P.cellsOf t ∧ DataW.trod enc P w base spare held n f0.type ((cs.drop f0.offset).take (P.cellsOf f0.type)) = some y0 ∧ DataW.trod enc P w base spare held n f1.type ((cs.drop f1.offset).take (P.cellsOf f1.type)) = some y1 ∧ DataW.trod enc P w base spare held n f2.type ((cs.drop f2.offset).take (P.cellsOf f2.type)) = some y2 ∧ DataW.trod enc P w base spare held n f3.type ((cs.drop f3.offset).take (P.cellsOf f3.type)) = some y3 ∧ DataW.trod enc P w base spare held n f4.type ((cs.drop f4.offset).take (P.cellsOf f4.type)) = some y4 := by
  obtain ⟨xs, n, hn, rfl, hl, hlen, hf⟩ := DataW.trod_struct ht h
  match xs, hlen with
  | [y0, y1, y2, y3, y4], _ => exact ⟨y0, y1, y2, y3, y4, n, hn, hl, by simpa using hf 0 f0 rfl, by simpa using hf 1 f1 rfl, by simpa using hf 2 f2 rfl, by simpa using hf 3 f3 rfl, by simpa using hf 4 f4 rfl⟩
theorem trod_struct7 {H : Type} {enc : TypeId × Value → H} {P : Program} {w : World} {base : Nat} {spare : Nat → Bool} {held : Bool} {t : TypeId} {f0 f1 f2 f3 f4 f5 f6 : Field} {fuel : Nat} {cs : List Value} {x : DataW H × List MemPlace} (ht : P.underlying t = some (.struct #[f0, f1, f2, f3, f4, f5, f6])) (h : DataW.trod enc P w base spare held fuel t cs = some x) :
    ∃ y0 y1 y2 y3 y4 y5 y6 n, fuel = n + 1 ∧ cs.length = P.cellsOf t ∧ DataW.trod enc P w base spare held n f0.type ((cs.drop f0.offset).take (P.cellsOf f0.type)) = some y0 ∧ DataW.trod enc P w base spare held n f1.type ((cs.drop f1.offset).take (P.cellsOf f1.type)) = some y1 ∧ DataW.trod enc P w base spare held n f2.type ((cs.drop f2.offset).take (P.cellsOf f2.type)) = some y2 ∧ DataW.trod enc P w base spare held n f3.type ((cs.drop f3.offset).take (P.cellsOf f3.type)) = some y3 ∧ DataW.trod enc P w base spare held n f4.type ((cs.drop f4.offset).take (P.cellsOf f4.type)) = some y4 ∧ DataW.trod enc P w base spare held n f5.type ((cs.drop f5.offset).take (P.cellsOf f5.type)) = some y5 ∧ DataW.trod enc P w base spare held n f6.type ((cs.drop f6.offset).take (P.cellsOf f6.type)) = some y6 := by
  obtain ⟨xs, n, hn, rfl, hl, hlen, hf⟩ := DataW.trod_struct ht h
  match xs, hlen with
  | [y0, y1, y2, y3, y4, y5, y6], _ => exact ⟨y0, y1, y2, y3, y4, y5, y6, n, hn, hl, by simpa using hf 0 f0 rfl, by simpa using hf 1 f1 rfl, by simpa using hf 2 f2 rfl, by simpa using hf 3 f3 rfl, by simpa using hf 4 f4 rfl, by simpa using hf 5 f5 rfl, by simpa using hf 6 f6 rfl⟩

/-- A row that came in, opened; of its elements less fuel is known. -/
theorem open_krow {H Q : Type} {enc : TypeId × Value → H} {W : World} {fuel : Nat} {cs : List Value} {x : DataW H × List MemPlace} {t e : TypeId} {k : Nat} (cell : Q → List Value) (ok : Q → Prop) (dq : Q)
    (ht : Try.prog.underlying t = some (.slice e)) (hk : Try.prog.cellsOf e = k) (h0 : 0 < k) (hcl : ∀ q, (cell q).length = k)
    (hq : ∀ (n : Nat) (cs : List Value) (y : DataW H × List MemPlace), n < fuel → DataW.trod enc Try.prog W 0 (fun _ => true) true n e cs = some y → ∃ q, cs = cell q ∧ ok q)
    (h : DataW.trod enc Try.prog W 0 (fun _ => true) true fuel t cs = some x) :
    ∃ (a : Option Addr) (n cap : Nat) (f : Nat → Q), cs = [.slice a n cap] ∧ n ≤ 9223372036854775807 ∧ KRow 0 W k a n (fun i => cell (f i)) ∧ ∀ i, i < n → ok (f i) := by
  rcases DataW.trod_slice ht h with ⟨rfl, _⟩ | ⟨a, len, cap, elems, rest, n, hn, rfl, _, _, hl, hm, hlen, hel, _, _⟩
  · exact ⟨none, 0, 0, fun _ => dq, rfl, by omega, .inl rfl, fun i hi => by omega⟩
  · rw [hk] at hel
    have hh : ∀ i : Fin len, ∃ q : Q, ok q ∧ W.cells? 0 (a.add (i.1 * k)) k = some (cell q) := by
      intro i
      have h1 := hel i.1 i.2
      rw [List.getElem?_eq_getElem (by have := i.2; omega)] at h1
      obtain ⟨cs', hc, ht'⟩ := Option.bind_eq_some_iff.1 h1
      obtain ⟨q, rfl, hok⟩ := hq _ _ _ (by omega) ht'
      exact ⟨q, hok, hc⟩
    obtain ⟨F, hF⟩ := Classical.axiomOfChoice hh
    refine ⟨some a, len, cap, fun i => if hi : i < len then F ⟨i, hi⟩ else dq, rfl, by unfold maxLen at hm; omega, ?_, fun i hi => by simp only [dif_pos hi]; exact (hF ⟨i, hi⟩).1⟩
    by_cases hz : len = 0
    · exact .inl hz
    right
    obtain ⟨b, off, spot⟩ := a
    obtain ⟨_, _, hz0⟩ := World.cells?_some (hF ⟨0, by omega⟩).2
    have h00 := hz0 0 h0
    have hl0 : 0 < (cell (F ⟨0, by omega⟩)).length := Nat.lt_of_lt_of_eq h0 (hcl (F ⟨0, by omega⟩)).symm
    obtain ⟨v, hv⟩ : ∃ v, (cell (F ⟨0, by omega⟩))[0]? = some v := ⟨_, List.getElem?_eq_getElem hl0⟩
    rw [hv] at h00
    have hspot : spot = none := by
      have := World.cell?_spot (w := W) (a := ((⟨b, off, spot⟩ : Addr).add (0 * k)).add 0) (by rw [h00])
      simpa [Addr.add] using this
    subst hspot
    refine ⟨b, off, rfl, Nat.zero_le _, ?_, fun i hi c u hu => ?_⟩
    · rw [addr_no, addr_no] at h00
      exact cell_lt (a := ⟨b, off + 0 * k + 0, none⟩) h00
    · simp only [dif_pos hi] at hu
      have hc : c < k := by
        obtain ⟨h1, _⟩ := List.getElem?_eq_some_iff.1 hu
        rwa [hcl] at h1
      obtain ⟨_, _, hcc⟩ := World.cells?_some (hF ⟨i, hi⟩).2
      have h1 := hcc c hc
      rw [addr_no, addr_no] at h1
      rw [h1]
      exact hu

section
variable {H : Type} {enc : TypeId × Value → H} {W : World}
theorem trod_sl {fuel : Nat} {cs : List Value} {x : DataW H × List MemPlace} (h : DataW.trod enc Try.prog W 0 (fun _ => true) true fuel 23 cs = some x) :
    ∃ y : SL, cs = [.slice y.a y.len y.cap] ∧ Cm W y := by
  rcases open_ints Try.underlying23 Try.underlying5 Try.cells5 h with ⟨hcs, _⟩ | ⟨x, l, c, zs, hcs, _, hl, hm, hz, _, hcell, hwz⟩
  · exact ⟨⟨none, 0, 0, []⟩, hcs, by show (0 : Nat) ≤ _; omega, fun _ => ⟨rfl, by show (0 : Nat) ≤ _; omega, by simp, .inl rfl⟩⟩
  · simp only [if_true] at hz
    refine ⟨⟨some x, l, c, zs.take l⟩, hcs, ?_, fun h20 => Bs.of_cells hl hz h20 hcell hwz⟩
    show l ≤ _
    unfold maxLen at hm
    omega
theorem trod_tb {fuel : Nat} {cs : List Value} {x : DataW H × List MemPlace} (h : DataW.trod enc Try.prog W 0 (fun _ => true) true fuel 25 cs = some x) :
    ∃ y : TB, cs = [.int .i64 y.t.k, .slice y.t.a y.t.len y.t.cap, .int .i64 y.t.n, .int .i64 y.t.s] ∧ Cm W y.sl ∧ y.t.fits := by
  obtain ⟨t, bs, e, hf, hl, hb⟩ := trod_term h
  exact ⟨⟨t, bs⟩, e, ⟨hl, hb⟩, hf⟩
theorem trod_nm {fuel : Nat} {cs : List Value} {x : DataW H × List MemPlace} (h : DataW.trod enc Try.prog W 0 (fun _ => true) true fuel 3 cs = some x) : ∃ k : Int, cs = [.int .i64 k] := by
  obtain ⟨k, e0, _, _⟩ := DataW.trod_int Try.underlying3 h
  exact ⟨k, e0⟩

theorem Try.clof3 : Try.prog.cellsOf 3 = 1 := by kernel_rfl
theorem Try.clof23 : Try.prog.cellsOf 23 = 1 := by kernel_rfl
theorem Try.clof48 : Try.prog.cellsOf 48 = 5 := by kernel_rfl
theorem Try.clof50 : Try.prog.cellsOf 50 = 15 := by kernel_rfl
theorem Try.clof28 : Try.prog.cellsOf 28 = 8 := by kernel_rfl
theorem Try.clof32 : Try.prog.cellsOf 32 = 13 := by kernel_rfl
theorem Try.clof53 : Try.prog.cellsOf 53 = 28 := by kernel_rfl
theorem Try.clof22 : Try.prog.cellsOf 22 = 1 := by kernel_rfl
theorem Try.clof29 : Try.prog.cellsOf 29 = 1 := by kernel_rfl
theorem Try.clof26 : Try.prog.cellsOf 26 = 1 := by kernel_rfl
theorem Try.clof30 : Try.prog.cellsOf 30 = 1 := by kernel_rfl
theorem Try.clof51 : Try.prog.cellsOf 51 = 1 := by kernel_rfl

theorem trod_item {fuel : Nat} {cs : List Value} {x : DataW H × List MemPlace} (h : DataW.trod enc Try.prog W 0 (fun _ => true) true fuel 48 cs = some x) :
    ∃ y : IB, cs = y.cells ∧ y.came W := by
  obtain ⟨y0, y1, m, _, hlen, h0, h1⟩ := trod_struct2 Try.underlying48 h
  rw [Try.clof48] at hlen
  simp only [Try.clof23, Try.cells25] at h0 h1
  obtain ⟨v, e0, hv⟩ := trod_sl h0
  obtain ⟨t, e1, ht, hf⟩ := trod_tb h1
  refine ⟨⟨v, t⟩, ?_, hv, ht, hf⟩
  have p0 := piece cs 0 1
  rw [piece cs (0 + 1) 4, piece_end (n := 0 + 1 + 4) hlen, e0, e1] at p0
  exact p0

theorem trod_pat {fuel : Nat} {cs : List Value} {x : DataW H × List MemPlace} (h : DataW.trod enc Try.prog W 0 (fun _ => true) true fuel 50 cs = some x) :
    ∃ y : PB, cs = y.cells ∧ y.came W := by
  obtain ⟨y0, y1, y2, m, _, hlen, h0, h1, h2⟩ := trod_struct3 Try.underlying50 h
  rw [Try.clof50] at hlen
  simp only [Try.clof48] at h0 h1 h2
  obtain ⟨s, e0, hs⟩ := trod_item h0
  obtain ⟨p, e1, hp⟩ := trod_item h1
  obtain ⟨o, e2, ho⟩ := trod_item h2
  refine ⟨⟨s, p, o⟩, ?_, hs, hp, ho⟩
  have p0 := piece cs 0 5
  rw [piece cs (0 + 5) 5, piece cs (0 + 5 + 5) 5, piece_end (n := 0 + 5 + 5 + 5) hlen, e0, e1, e2] at p0
  exact p0

theorem EN.cells_len (d : EN) : d.cells.length = 8 := rfl
theorem AN.cells_len (d : AN) : d.cells.length = 13 := rfl
theorem PN.cells_len (d : PN) : d.cells.length = 28 := rfl
theorem PB.cells_len (d : PB) : d.cells.length = 15 := rfl

theorem trod_expr : ∀ (fuel : Nat) {cs : List Value} {x : DataW H × List MemPlace}, DataW.trod enc Try.prog W 0 (fun _ => true) true fuel 28 cs = some x →
    ∃ y : ET, cs = y.d.cells ∧ y.came W := by
  intro fuel
  induction fuel using Nat.strongRecOn with
  | ind fuel ih =>
  intro cs x h
  obtain ⟨y0, y1, y2, y3, y4, n, hn, hlen, h0, h1, h2, h3, h4⟩ := trod_struct5 Try.underlying28 h
  rw [Try.clof28] at hlen
  simp only [Try.clof3, Try.clof23, Try.cells25, Try.clof26] at h0 h1 h2 h3 h4
  obtain ⟨k, e0⟩ := trod_nm h0
  obtain ⟨op, e1⟩ := trod_nm h1
  obtain ⟨v, e2, hv⟩ := trod_sl h2
  obtain ⟨t, e3, ht, hft⟩ := trod_tb h3
  obtain ⟨a, nn, cap, f, e4, hnn, hR, hok⟩ := open_krow (fun y : ET => y.d.cells) (fun y => y.came W) .nil Try.underlying26 Try.clof28 (by omega) (fun q => q.d.cells_len) (fun m cs y hm hy => ih m (by omega) hy) h4
  refine ⟨.mk ⟨k, op, v, t, a, cap, nn⟩ f, ?_, hv, ht, hft, hnn, hR, hok⟩
  have p0 := piece cs 0 1
  rw [piece cs (0 + 1) 1, piece cs (0 + 1 + 1) 1, piece cs (0 + 1 + 1 + 1) 4, piece cs (0 + 1 + 1 + 1 + 4) 1, piece_end (n := 0 + 1 + 1 + 1 + 4 + 1) hlen, e0, e1, e2, e3, e4] at p0
  exact p0

theorem trod_terms {fuel : Nat} {cs : List Value} {x : DataW H × List MemPlace} (h : DataW.trod enc Try.prog W 0 (fun _ => true) true fuel 29 cs = some x) :
    ∃ (a : Option Addr) (cap : Nat) (l : List TB), cs = [.slice a l.length cap] ∧ TCm W a l := by
  obtain ⟨a, n, cap, f, e, hn, hR, hok⟩ := open_krow (fun y : TB => enc4 y.t) (fun y => Cm W y.sl ∧ y.t.fits) ⟨⟨0, none, 0, 0, 0, 0⟩, []⟩ Try.underlying29 Try.cells25 (by omega) (fun _ => rfl) (fun m cs y _ hy => by obtain ⟨y, h1, h2⟩ := trod_tb hy; exact ⟨y, h1, h2⟩) h
  refine ⟨a, cap, (List.range n).map f, by simpa using e, ?_, by simpa using hn, fun y hy => ?_⟩
  · rcases hR with hR | ⟨b, off, ha, _, hlt, hc⟩
    · subst hR
      exact .inl rfl
    · refine .inr ⟨b, off, ha, hlt, fun j u hu => ?_⟩
      have hj : j < (flat4 ((List.range n).map f)).length := by
        obtain ⟨h1, _⟩ := List.getElem?_eq_some_iff.1 hu
        exact h1
      have hl4 : (flat4 ((List.range n).map f)).length = n * 4 := by rw [flat4_len]; simp
      rw [hl4] at hj
      have hi : j / 4 < n := by omega
      have hd : j = j / 4 * 4 + j % 4 := (Nat.div_add_mod' j 4).symm
      rw [hd, flat4_get _ _ _ (by simpa using hi) (Nat.mod_lt _ (by omega))] at hu
      have h1 := hc (j / 4) hi (j % 4) u (by simpa using hu)
      have e1 : off + j = off + j / 4 * 4 + j % 4 := by omega
      rw [e1]
      exact h1
  · obtain ⟨i, hi, rfl⟩ := List.mem_map.1 hy
    exact hok i (List.mem_range.1 hi)

theorem trod_plan : ∀ (fuel : Nat) {cs : List Value} {x : DataW H × List MemPlace}, DataW.trod enc Try.prog W 0 (fun _ => true) true fuel 53 cs = some x →
    ∃ y : PT, cs = y.d.cells ∧ y.came W := by
  intro fuel
  induction fuel using Nat.strongRecOn with
  | ind fuel ih =>
  intro cs x h
  obtain ⟨y0, y1, y2, y3, y4, y5, y6, n, hn, hlen, h0, h1, h2, h3, h4, h5, h6⟩ := trod_struct7 Try.underlying53 h
  rw [Try.clof53] at hlen
  simp only [Try.clof3, Try.clof23, Try.clof28, Try.clof50, Try.clof29, Try.clof51] at h0 h1 h2 h3 h4 h5 h6
  obtain ⟨k, e0⟩ := trod_nm h0
  obtain ⟨ord, e1⟩ := trod_nm h1
  obtain ⟨p, e2, hp⟩ := trod_pat h2
  obtain ⟨e, e3, he⟩ := trod_expr _ h3
  obtain ⟨v, e4, hv⟩ := trod_sl h4
  obtain ⟨ta, tc, tb, e5, ht⟩ := trod_terms h5
  obtain ⟨a, nn, cap, f, e6, hnn, hR, hok⟩ := open_krow (fun y : PT => y.d.cells) (fun y => y.came W) .nil Try.underlying51 Try.clof53 (by omega) (fun q => q.d.cells_len) (fun m cs y hm hy => ih m (by omega) hy) h6
  refine ⟨.mk ⟨k, ord, p, e, v, ta, tc, tb, a, cap, nn⟩ f, ?_, hp, he, hv, ht, hnn, hR, hok⟩
  have p0 := piece cs 0 1
  rw [piece cs (0 + 1) 1, piece cs (0 + 1 + 1) 15, piece cs (0 + 1 + 1 + 15) 8, piece cs (0 + 1 + 1 + 15 + 8) 1, piece cs (0 + 1 + 1 + 15 + 8 + 1) 1, piece cs (0 + 1 + 1 + 15 + 8 + 1 + 1) 1, piece_end (n := 0 + 1 + 1 + 15 + 8 + 1 + 1 + 1) hlen, e0, e1, e2, e3, e4, e5, e6] at p0
  exact p0

theorem open_plan {b0 : Nat} {x : Value} {d : DataW H} {p : List MemPlace}
    (hv : Value.okWide Try.prog W .any b0 53 x) (h : DataW.Trod enc Try.prog W 0 (fun _ => true) true 53 x d p) : ∃ e : PT, x = .agg e.d.cells.toArray ∧ e.came W := by
  obtain ⟨cs, rfl, hsz⟩ := okWide_struct Try.underlying53 hv
  obtain ⟨fuel, hf⟩ := h
  obtain ⟨e, hcs, hr⟩ := trod_plan _ hf
  refine ⟨e, ?_, hr⟩
  have : cs.toList = e.d.cells := by simpa [Value.cells] using hcs
  cases cs
  simp at this
  subst this
  rfl
end
end Go.Proofs.Ytpgbhkkdbkecoaa

/- TryB -/
namespace Go.Proofs.Ytpgbhkkdbkecoaa
open Go.ChangeShapes Go.WideShapes Go.ChangeAt Go.RowKit Go.Joins

set_option maxRecDepth 100000 in
theorem liftedPlanOk (os : Os) (started : os.Started) (H : Type) (enc : TypeId × Value → H) :
    ReturnsInHanded {} Try.checked os 4 .any (Rows.fnExactPlanOkSpec.pre6 enc Try.prog Try.f4 Rows.fnExactPlanOkRow.domain false) (Rows.fnExactPlanOkSpec.post enc Try.prog Try.f4 false true false false) := by
  refine returnsInHanded_of_change (C := Try.checked) own started (by kernel_rfl) Try.func4
    (ChangeSpec.witness6 (enc := enc) (C := Try.checked) false ⟨#[], #[.agg #[.int .i64 0, .int .i64 0, .slice none 0 0, .int .i64 0, .slice none 0 0, .int .i64 0, .int .i64 0, .slice none 0 0, .int .i64 0, .slice none 0 0, .int .i64 0, .int .i64 0, .slice none 0 0, .int .i64 0, .slice none 0 0, .int .i64 0, .int .i64 0, .int .i64 0, .int .i64 0, .slice none 0 0, .int .i64 0, .slice none 0 0, .int .i64 0, .int .i64 0, .slice none 0 0, .slice none 0 0, .slice none 0 0, .slice none 0 0]], []⟩ 8 (by kernel_rfl) (by kernel_rfl) (by kernel_rfl) (by kernel_rfl)) ?_
  intro W base args ds gs before hval0 hW hcnd _
  have hval : ∀ (j : Nat) t v, Try.f4.params[j]? = some t → args[j]? = some v → Value.okWide Try.prog W .any base t v := hval0
  have hW' := hW
  obtain ⟨p, q, hA0, hV, rfl, hfz, hnd⟩ := hW
  have hA : DataW.TrodAll enc Try.prog W 0 (fun _ => true) true Try.f4.params.toList args.toList ds p := hA0
  rw [Try.params4] at hA hval
  obtain ⟨v0, vs0, d0, ds0, p0, q0, hargs, rfl, rfl, h0, r0⟩ := trodAll_cons hA
  obtain ⟨rfl, rfl, rfl⟩ := trodAll_nil r0
  obtain rfl : args = #[v0] := by cases args; simp_all
  obtain ⟨rfl, rfl⟩ := trodVars_none hV
  have k0 := h0
  have lt0 : ∀ x ∈ p0, x.block < W.heap.size := by obtain ⟨m, hm⟩ := k0; exact DataW.trod_lt m _ _ _ hm
  obtain ⟨e, rfl, hc⟩ := open_plan (hval 0 53 v0 rfl rfl) h0
  clear hA0 hval0
  refine (walkPlanOk e W hc).mono fun r W' ⟨he, bel⟩ => ?_
  subst he
  exact ⟨_, rfl, _, _, _, [], _, [], hW', trodAll_mk1 (shut_bool Try.underlying4 _), (trodAll_cons_mk (Below.trod laidOut (by kernel_rfl) (of_decide_eq_true (by kernel_rfl)) k0 bel lt0) trodAll_mk0), rfl, bel.frame _, fun h => by cases h⟩

theorem overPlanOk : Rows.fnExactPlanOkRow.holds Try.pinned (OpenSpec.ofChange Rows.fnExactPlanOkSpec) :=
  OpenClaim.holds_of_wide 4 Try.f4 rfl rfl rfl rfl rfl rfl rfl ⟨rfl, rfl, rfl, rfl, rfl⟩ rfl rfl rfl rfl rfl (by kernel_rfl) Try.func4 (by kernel_rfl)
    (of_decide_eq_true (by kernel_rfl)) (by unfold Func.isWrapper; first | (rw [if_pos (by decide +kernel)]; kernel_rfl) | (rw [if_neg (by decide +kernel)]; exact ⟨rfl, rfl⟩))
    (fun os started H enc _ => liftedPlanOk os started H enc)

theorem provedPlanOk : Rows.FnExactPlanOkSaid := overPlanOk
#print axioms provedPlanOk
end Go.Proofs.Ytpgbhkkdbkecoaa
