import Derived.Test.YtoloadogihbdeaaGreatMk05
import Derived.Test.YtoloadogihbdeaaGreatMk07
import Derived.Deep.Strs
import Derived.Deep.Slices
namespace Go.Proofs.YtoloadogihbdeaaGreat
open Go.ChangeShapes Go.WideShapes Go.ChangeAt Go.RowKit Go.Joins Go.Deep
set_option maxHeartbeats 40000000
def tmCells (t : Tm) : List Value := [.int .i64 t.k, .slice t.a t.len t.cap, .int .i64 t.n, .int .i64 t.s]
set_option maxRecDepth 100000 in
theorem trod_term {H : Type} {enc : TypeId × Value → H} {W : World} {fuel : Nat} {cs : List Value} {x : DataW H × List MemPlace}
 (h : DataW.trod enc Tryz.prog W 0 (fun _ => true) true fuel 25 cs = some x) :
 ∃ (t : Tm) (bs : List Int), cs = tmCells t ∧ t.fits ∧ t.len ≤ 9223372036854775807 ∧ (t.len ≤ 1048576 → Bs W t.a t.len bs) := by
 obtain ⟨y0, y1, y2, y3, m, _, hlen, hy0, hy1, hy2, hy3⟩ := trod_struct4 Tryz.underlying25 h
 rw [Tryz.cells25] at hlen
 match cs, hlen with
 | [c0, c1, c2, c3], _ =>
  have e3 : Tryz.prog.cellsOf 3 = 1 := by kernel_rfl
  have e8 : Tryz.prog.cellsOf 23 = 1 := by kernel_rfl
  simp [e3, e8] at hy0 hy1 hy2 hy3
  obtain ⟨k, e0, _, wk⟩ := DataW.trod_int Tryz.underlying3 hy0
  obtain ⟨n, e2, _, wn⟩ := DataW.trod_int Tryz.underlying3 hy2
  obtain ⟨s, e3, _, ws⟩ := DataW.trod_int Tryz.underlying3 hy3
  simp at e0 e2 e3
  subst e0 e2 e3
  have bn := bounds_i64 wn
  have bsc := bounds_i64 ws
  rcases open_ints Tryz.underlying23 Tryz.underlying5 Tryz.cells5 hy1 with ⟨hcs, _⟩ | ⟨x, l, c, zs, hcs, _, hl, hm, hz, _, hcell, hwz⟩
  · simp at hcs
    subst hcs
    exact ⟨⟨k, none, 0, 0, n, s⟩, [], rfl, ⟨bn.1, bn.2, bsc.1, bsc.2⟩, by show (0 : Nat) ≤ _; omega, fun _ => ⟨rfl, by show (0 : Nat) ≤ _; omega, by simp, .inl rfl⟩⟩
  simp at hcs
  subst hcs
  simp only [if_true] at hz
  refine ⟨⟨k, some x, l, c, n, s⟩, zs.take l, rfl, ⟨bn.1, bn.2, bsc.1, bsc.2⟩, ?_, fun h20 => ?_⟩
  · show l ≤ _
    unfold maxLen at hm
    omega
  exact Bs.of_cells hl hz h20 hcell hwz
set_option maxRecDepth 100000
theorem piece (cs : List Value) (o n : Nat) : cs.drop o = (cs.drop o).take n ++ cs.drop (o + n) := by
 rw [← List.drop_drop]
 exact (List.take_append_drop n _).symm
theorem piece_end {cs : List Value} {n : Nat} (h : cs.length = n) : cs.drop n = [] := List.drop_eq_nil_of_le (by omega)
theorem addr_no (b off i : Nat) : (⟨b, off, none⟩ : Addr).add i = ⟨b, off + i, none⟩ := by
 by_cases h0 : i = 0 <;> simp [Addr.add, h0]
theorem trod_struct5 {H : Type} {enc : TypeId × Value → H} {P : Program} {w : World} {base : Nat} {spare : Nat → Bool} {held : Bool} {t : TypeId} {f0 f1 f2 f3 f4 : Field} {fuel : Nat} {cs : List Value} {x : DataW H × List MemPlace} (ht : P.underlying t = some (.struct #[f0, f1, f2, f3, f4])) (h : DataW.trod enc P w base spare held fuel t cs = some x) :
 ∃ y0 y1 y2 y3 y4 n, fuel = n + 1 ∧ cs.length = P.cellsOf t ∧ DataW.trod enc P w base spare held n f0.type ((cs.drop f0.offset).take (P.cellsOf f0.type)) = some y0 ∧ DataW.trod enc P w base spare held n f1.type ((cs.drop f1.offset).take (P.cellsOf f1.type)) = some y1 ∧ DataW.trod enc P w base spare held n f2.type ((cs.drop f2.offset).take (P.cellsOf f2.type)) = some y2 ∧ DataW.trod enc P w base spare held n f3.type ((cs.drop f3.offset).take (P.cellsOf f3.type)) = some y3 ∧ DataW.trod enc P w base spare held n f4.type ((cs.drop f4.offset).take (P.cellsOf f4.type)) = some y4 := by
 obtain ⟨xs, n, hn, rfl, hl, hlen, hf⟩ := DataW.trod_struct ht h
 match xs, hlen with
 | [y0, y1, y2, y3, y4], _ => exact ⟨y0, y1, y2, y3, y4, n, hn, hl, by simpa using hf 0 f0 rfl, by simpa using hf 1 f1 rfl, by simpa using hf 2 f2 rfl, by simpa using hf 3 f3 rfl, by simpa using hf 4 f4 rfl⟩
theorem trod_struct7 {H : Type} {enc : TypeId × Value → H} {P : Program} {w : World} {base : Nat} {spare : Nat → Bool} {held : Bool} {t : TypeId} {f0 f1 f2 f3 f4 f5 f6 : Field} {fuel : Nat} {cs : List Value} {x : DataW H × List MemPlace} (ht : P.underlying t = some (.struct #[f0, f1, f2, f3, f4, f5, f6])) (h : DataW.trod enc P w base spare held fuel t cs = some x) :
 ∃ y0 y1 y2 y3 y4 y5 y6 n, fuel = n + 1 ∧ cs.length = P.cellsOf t ∧ DataW.trod enc P w base spare held n f0.type ((cs.drop f0.offset).take (P.cellsOf f0.type)) = some y0 ∧ DataW.trod enc P w base spare held n f1.type ((cs.drop f1.offset).take (P.cellsOf f1.type)) = some y1 ∧ DataW.trod enc P w base spare held n f2.type ((cs.drop f2.offset).take (P.cellsOf f2.type)) = some y2 ∧ DataW.trod enc P w base spare held n f3.type ((cs.drop f3.offset).take (P.cellsOf f3.type)) = some y3 ∧ DataW.trod enc P w base spare held n f4.type ((cs.drop f4.offset).take (P.cellsOf f4.type)) = some y4 ∧ DataW.trod enc P w base spare held n f5.type ((cs.drop f5.offset).take (P.cellsOf f5.type)) = some y5 ∧ DataW.trod enc P w base spare held n f6.type ((cs.drop f6.offset).take (P.cellsOf f6.type)) = some y6 := by
 obtain ⟨xs, n, hn, rfl, hl, hlen, hf⟩ := DataW.trod_struct ht h
 match xs, hlen with
 | [y0, y1, y2, y3, y4, y5, y6], _ => exact ⟨y0, y1, y2, y3, y4, y5, y6, n, hn, hl, by simpa using hf 0 f0 rfl, by simpa using hf 1 f1 rfl, by simpa using hf 2 f2 rfl, by simpa using hf 3 f3 rfl, by simpa using hf 4 f4 rfl, by simpa using hf 5 f5 rfl, by simpa using hf 6 f6 rfl⟩
theorem open_krow {H Q : Type} {enc : TypeId × Value → H} {W : World} {fuel : Nat} {cs : List Value} {x : DataW H × List MemPlace} {t e : TypeId} {k : Nat} (cell : Q → List Value) (ok : Q → Prop) (dq : Q)
 (ht : Tryz.prog.underlying t = some (.slice e)) (hk : Tryz.prog.cellsOf e = k) (h0 : 0 < k) (hcl : ∀ q, (cell q).length = k)
 (hq : ∀ (n : Nat) (cs : List Value) (y : DataW H × List MemPlace), n < fuel → DataW.trod enc Tryz.prog W 0 (fun _ => true) true n e cs = some y → ∃ q, cs = cell q ∧ ok q)
 (h : DataW.trod enc Tryz.prog W 0 (fun _ => true) true fuel t cs = some x) :
 ∃ (a : Option Addr) (n cap : Nat) (f : Nat → Q), cs = [.slice a n cap] ∧ n ≤ 9223372036854775807 ∧ KRow 0 W k a n (fun i => cell (f i)) ∧ ∀ i, i < n → ok (f i) := by
 rcases DataW.trod_slice ht h with ⟨rfl, _⟩ | ⟨a, len, cap, elems, rest, n, hn, rfl, _, _, hl, hm, hlen, hel, _, _⟩
 · exact ⟨none, 0, 0, fun _ => dq, rfl, by omega, .inl rfl, fun i hi => by omega⟩
 rw [hk] at hel
 have hh : ∀ i : Fin len, ∃ q : Q, ok q ∧ W.cells? 0 (a.add (i.1 * k)) k = some (cell q) := by
  intro i
  have h1 := hel i.1 i.2
  rw [List.getElem?_eq_getElem (by have := i.2; omega)] at h1
  obtain ⟨cs', hc, ht'⟩ := Option.bind_eq_some_iff.1 h1
  obtain ⟨q, rfl, hok⟩ := hq _ _ _ (by omega) ht'
  exact ⟨q, hok, hc⟩
 obtain ⟨F, hF⟩ := Classical.axiomOfChoice hh
 refine ⟨some a, len, cap, fun i => if hi : i < len then F _ else dq, rfl, by unfold maxLen at hm; omega, ?_, fun i hi => by simp only [dif_pos hi]; exact (hF ⟨i, hi⟩).1⟩
 by_cases hz : len = 0
 · exact .inl hz
 right
 obtain ⟨b, off, spot⟩ := a
 obtain ⟨_, _, hz0⟩ := World.cells?_some (hF ⟨0, by omega⟩).2
 have h00 := hz0 0 h0
 have hl0 := Nat.lt_of_lt_of_eq h0 (hcl (F ⟨0, by omega⟩)).symm
 obtain ⟨v, hv⟩ : ∃ v, (cell (F ⟨0, by omega⟩))[0]? = some v := ⟨_, List.getElem?_eq_getElem hl0⟩
 rw [hv] at h00
 have hspot : spot = none := by
  have := World.cell?_spot (w := W) (a := ((⟨b, off, spot⟩ : Addr).add (0 * k)).add 0) (by rw [h00])
  simpa [Addr.add] using this
 subst hspot
 refine ⟨b, off, rfl, nZ, ?_, fun i hi c u hu => ?_⟩
 · rw [addr_no, addr_no] at h00
   exact cell_lt (a := ⟨b, off + 0 * k + 0, none⟩) h00
 simp only [dif_pos hi] at hu
 have hc : c < k := by
  obtain ⟨h1, _⟩ := List.getElem?_eq_some_iff.1 hu
  rwa [hcl] at h1
 obtain ⟨_, _, hcc⟩ := World.cells?_some (hF ⟨i, hi⟩).2
 have h1 := hcc c hc
 rw [addr_no, addr_no] at h1
 rw [h1]
 exact hu
theorem trod_sl {H : Type} {enc : TypeId × Value → H} {W : World} {fuel : Nat} {cs : List Value} {x : DataW H × List MemPlace} (h : DataW.trod enc Tryz.prog W 0 (fun _ => true) true fuel 23 cs = some x) :
 ∃ y : SL, cs = [.slice y.a y.len y.cap] ∧ Cm W y := by
 rcases open_ints Tryz.underlying23 Tryz.underlying5 Tryz.cells5 h with ⟨hcs, _⟩ | ⟨x, l, c, zs, hcs, _, hl, hm, hz, _, hcell, hwz⟩
 · exact ⟨⟨none, 0, 0, []⟩, hcs, by show (0 : Nat) ≤ _; omega, fun _ => ⟨rfl, by show (0 : Nat) ≤ _; omega, by simp, .inl rfl⟩⟩
 simp only [if_true] at hz
 refine ⟨⟨some x, l, c, zs.take l⟩, hcs, ?_, fun h20 => Bs.of_cells hl hz h20 hcell hwz⟩
 show l ≤ _
 unfold maxLen at hm
 omega
theorem trod_tb {H : Type} {enc : TypeId × Value → H} {W : World} {fuel : Nat} {cs : List Value} {x : DataW H × List MemPlace} (h : DataW.trod enc Tryz.prog W 0 (fun _ => true) true fuel 25 cs = some x) :
 ∃ y : TB, cs = [.int .i64 y.t.k, .slice y.t.a y.t.len y.t.cap, .int .i64 y.t.n, .int .i64 y.t.s] ∧ Cm W y.sl ∧ y.t.fits := by
 obtain ⟨t, bs, e, hf, hl, hb⟩ := trod_term h
 exact ⟨⟨t, bs⟩, e, ⟨hl, hb⟩, hf⟩
theorem trod_nm {H : Type} {enc : TypeId × Value → H} {W : World} {fuel : Nat} {cs : List Value} {x : DataW H × List MemPlace} (h : DataW.trod enc Tryz.prog W 0 (fun _ => true) true fuel 3 cs = some x) : ∃ k : Int, cs = [.int .i64 k] := by
 obtain ⟨k, e0, _, _⟩ := DataW.trod_int Tryz.underlying3 h
 exact ⟨k, e0⟩
theorem Tryz.clof3 : Tryz.prog.cellsOf 3 = 1 := by kernel_rfl
theorem Tryz.clof23 : Tryz.prog.cellsOf 23 = 1 := by kernel_rfl
theorem Tryz.clof63 : Tryz.prog.cellsOf 63 = 5 := by kernel_rfl
theorem Tryz.clof65 : Tryz.prog.cellsOf 65 = 15 := by kernel_rfl
theorem Tryz.clof28 : Tryz.prog.cellsOf 28 = 8 := by kernel_rfl
theorem Tryz.clof32 : Tryz.prog.cellsOf 32 = 13 := by kernel_rfl
theorem Tryz.clof68 : Tryz.prog.cellsOf 68 = 28 := by kernel_rfl
theorem Tryz.clof22 : Tryz.prog.cellsOf 22 = 1 := by kernel_rfl
theorem Tryz.clof29 : Tryz.prog.cellsOf 29 = 1 := by kernel_rfl
theorem Tryz.clof26 : Tryz.prog.cellsOf 26 = 1 := by kernel_rfl
theorem Tryz.clof30 : Tryz.prog.cellsOf 30 = 1 := by kernel_rfl
theorem Tryz.clof66 : Tryz.prog.cellsOf 66 = 1 := by kernel_rfl
theorem trod_item {H : Type} {enc : TypeId × Value → H} {W : World} {fuel : Nat} {cs : List Value} {x : DataW H × List MemPlace} (h : DataW.trod enc Tryz.prog W 0 (fun _ => true) true fuel 63 cs = some x) :
 ∃ y : IB, cs = y.cells ∧ y.came W := by
 obtain ⟨y0, y1, m, _, hlen, h0, h1⟩ := trod_struct2 Tryz.underlying63 h
 rw [Tryz.clof63] at hlen
 simp only [Tryz.clof23, Tryz.cells25] at h0 h1
 obtain ⟨v, e0, hv⟩ := trod_sl h0
 obtain ⟨t, e1, ht, hf⟩ := trod_tb h1
 refine ⟨⟨v, t⟩, ?_, hv, ht, hf⟩
 have p0 := piece cs 0 1
 rw [piece cs (0 + 1) 4, piece_end (n := 0 + 1 + 4) hlen, e0, e1] at p0
 exact p0
theorem trod_pat {H : Type} {enc : TypeId × Value → H} {W : World} {fuel : Nat} {cs : List Value} {x : DataW H × List MemPlace} (h : DataW.trod enc Tryz.prog W 0 (fun _ => true) true fuel 65 cs = some x) :
 ∃ y : PB, cs = y.cells ∧ y.came W := by
 obtain ⟨y0, y1, y2, m, _, hlen, h0, h1, h2⟩ := trod_struct3 Tryz.underlying65 h
 rw [Tryz.clof65] at hlen
 simp only [Tryz.clof63] at h0 h1 h2
 obtain ⟨s, e0, hs⟩ := trod_item h0
 obtain ⟨p, e1, hp⟩ := trod_item h1
 obtain ⟨o, e2, ho⟩ := trod_item h2
 refine ⟨⟨s, p, o⟩, ?_, hs, hp, ho⟩
 have p0 := piece cs 0 5
 rw [piece cs (0 + 5) 5, piece cs (0 + 5 + 5) 5, piece_end (n := 0 + 5 + 5 + 5) hlen, e0, e1, e2] at p0
 exact p0
theorem EN.cells_len (d : EN) : d.cells.length = 8 := rfl
theorem PN.cells_len (d : PN) : d.cells.length = 28 := rfl
theorem trod_expr {H : Type} {enc : TypeId × Value → H} {W : World} : ∀ (fuel : Nat) {cs : List Value} {x : DataW H × List MemPlace}, DataW.trod enc Tryz.prog W 0 (fun _ => true) true fuel 28 cs = some x →
 ∃ y : ET, cs = y.d.cells ∧ y.came W := by
 intro fuel
 induction fuel using Nat.strongRecOn with
 | ind fuel ih =>
 intro cs x h
 obtain ⟨y0, y1, y2, y3, y4, n, hn, hlen, h0, h1, h2, h3, h4⟩ := trod_struct5 Tryz.underlying28 h
 rw [Tryz.clof28] at hlen
 simp only [Tryz.clof3, Tryz.clof23, Tryz.cells25, Tryz.clof26] at h0 h1 h2 h3 h4
 obtain ⟨k, e0⟩ := trod_nm h0
 obtain ⟨op, e1⟩ := trod_nm h1
 obtain ⟨v, e2, hv⟩ := trod_sl h2
 obtain ⟨t, e3, ht, hft⟩ := trod_tb h3
 obtain ⟨a, nn, cap, f, e4, hnn, hR, hok⟩ := open_krow (fun y : ET => y.d.cells) (fun y => y.came W) .nil Tryz.underlying26 Tryz.clof28 (by omega) (fun q => q.d.cells_len) (fun m cs y hm hy => ih m (by omega) hy) h4
 refine ⟨.mk ⟨k, op, v, t, a, cap, nn⟩ f, ?_, hv, ht, hft, hnn, hR, hok⟩
 have p0 := piece cs 0 1
 rw [piece cs (0 + 1) 1, piece cs (0 + 1 + 1) 1, piece cs (0 + 1 + 1 + 1) 4, piece cs (0 + 1 + 1 + 1 + 4) 1, piece_end (n := 0 + 1 + 1 + 1 + 4 + 1) hlen, e0, e1, e2, e3, e4] at p0
 exact p0
theorem trod_terms {H : Type} {enc : TypeId × Value → H} {W : World} {fuel : Nat} {cs : List Value} {x : DataW H × List MemPlace} (h : DataW.trod enc Tryz.prog W 0 (fun _ => true) true fuel 29 cs = some x) :
 ∃ (a : Option Addr) (cap : Nat) (l : List TB), cs = [.slice a l.length cap] ∧ TCm W a l := by
 obtain ⟨a, n, cap, f, e, hn, hR, hok⟩ := open_krow (fun y : TB => enc4 y.t) (fun y => Cm W y.sl ∧ y.t.fits) ⟨⟨0, none, 0, 0, 0, 0⟩, []⟩ Tryz.underlying29 Tryz.cells25 (by omega) (fun _ => rfl) (fun m cs y _ hy => by obtain ⟨y, h1, h2⟩ := trod_tb hy; exact ⟨y, h1, h2⟩) h
 refine ⟨a, cap, (List.range n).map f, by simpa using e, ?_, by simpa using hn, fun y hy => ?_⟩
 · rcases hR with hR | ⟨b, off, ha, _, hlt, hc⟩
   · subst hR
     exact .inl rfl
   refine .inr ⟨b, off, ha, hlt, fun j u hu => ?_⟩
   have hj : j < (flat4 ((List.range n).map f)).length := by
    obtain ⟨h1, _⟩ := List.getElem?_eq_some_iff.1 hu
    exact h1
   have hl4 : (flat4 ((List.range n).map f)).length = n * 4 := by rw [flat4_len]; simp
   rw [hl4] at hj
   have hi : j / 4 < n := by omega
   have hd := (Nat.div_add_mod' j 4).symm
   rw [hd, flat4_get _ _ _ (by simpa using hi) (Nat.mod_lt _ (by omega))] at hu
   have h1 := hc (j / 4) hi (j % 4) u (by simpa using hu)
   have e1 : off + j = off + j / 4 * 4 + j % 4 := by omega
   rw [e1]
   exact h1
 obtain ⟨i, hi, rfl⟩ := List.mem_map.1 hy
 exact hok i (List.mem_range.1 hi)
theorem trod_plan {H : Type} {enc : TypeId × Value → H} {W : World} : ∀ (fuel : Nat) {cs : List Value} {x : DataW H × List MemPlace}, DataW.trod enc Tryz.prog W 0 (fun _ => true) true fuel 68 cs = some x →
 ∃ y : PT, cs = y.d.cells ∧ y.came W := by
 intro fuel
 induction fuel using Nat.strongRecOn with
 | ind fuel ih =>
 intro cs x h
 obtain ⟨y0, y1, y2, y3, y4, y5, y6, n, hn, hlen, h0, h1, h2, h3, h4, h5, h6⟩ := trod_struct7 Tryz.underlying68 h
 rw [Tryz.clof68] at hlen
 simp only [Tryz.clof3, Tryz.clof23, Tryz.clof28, Tryz.clof65, Tryz.clof29, Tryz.clof66] at h0 h1 h2 h3 h4 h5 h6
 obtain ⟨k, e0⟩ := trod_nm h0
 obtain ⟨ord, e1⟩ := trod_nm h1
 obtain ⟨p, e2, hp⟩ := trod_pat h2
 obtain ⟨e, e3, he⟩ := trod_expr _ h3
 obtain ⟨v, e4, hv⟩ := trod_sl h4
 obtain ⟨ta, tc, tb, e5, ht⟩ := trod_terms h5
 obtain ⟨a, nn, cap, f, e6, hnn, hR, hok⟩ := open_krow (fun y : PT => y.d.cells) (fun y => y.came W) .nil Tryz.underlying66 Tryz.clof68 (by omega) (fun q => q.d.cells_len) (fun m cs y hm hy => ih m (by omega) hy) h6
 refine ⟨.mk ⟨k, ord, p, e, v, ta, tc, tb, a, cap, nn⟩ f, ?_, hp, he, hv, ht, hnn, hR, hok⟩
 have p0 := piece cs 0 1
 rw [piece cs (0 + 1) 1, piece cs (0 + 1 + 1) 15, piece cs (0 + 1 + 1 + 15) 8, piece cs (0 + 1 + 1 + 15 + 8) 1, piece cs (0 + 1 + 1 + 15 + 8 + 1) 1, piece cs (0 + 1 + 1 + 15 + 8 + 1 + 1) 1, piece_end (n := 0 + 1 + 1 + 15 + 8 + 1 + 1 + 1) hlen, e0, e1, e2, e3, e4, e5, e6] at p0
 exact p0
theorem open_plan {H : Type} {enc : TypeId × Value → H} {W : World} {b0 : Nat} {x : Value} {d : DataW H} {p : List MemPlace}
 (hv : Value.okWide Tryz.prog W .any b0 68 x) (h : DataW.Trod enc Tryz.prog W 0 (fun _ => true) true 68 x d p) : ∃ e : PT, x = .agg e.d.cells.toArray ∧ e.came W := by
 obtain ⟨cs, rfl, hsz⟩ := okWide_struct Tryz.underlying68 hv
 obtain ⟨fuel, hf⟩ := h
 obtain ⟨e, hcs, hr⟩ := trod_plan _ hf
 refine ⟨e, ?_, hr⟩
 have : cs.toList = e.d.cells := by simpa [Value.cells] using hcs
 cases cs
 simp at this
 subst this
 rfl
open Go.RowKit Go.Deep
def PT.wt : PT → Nat
 | .nil => 0
 | .mk d kid => d.p.wt + d.e.wt + d.v.len + (d.tb.length + twt d.tb d.tb.length) + (d.n + sumN d.n (fun i => (kid i).wt))
def AT.wt : AT → Nat
 | .nil => 0
 | .mk d kid => (d.pn + sumN d.pn (fun i => (d.pat i).wt)) + d.e.wt + d.v.len + (d.tb.length + twt d.tb d.tb.length) + (d.n + sumN d.n (fun i => (kid i).wt))
theorem szPlanS_w (a : Option Addr) (cap n : Nat) (kid : Nat → PT) (l : Int) (w : World) (h1 : 0 ≤ l) (h2 : l ≤ 1048576) (hn : n ≤ 9223372036854775807) (hR : KRow 0 w 28 a n (fun i => (kid i).d.cells))
 (IH : ∀ i, i < n → ∀ (W : World) (l : Int), 0 ≤ l → l ≤ 1048576 → Bl w W → Calls Tryz.prog 17 #[.agg (kid i).d.ar, .int .i64 l] W fun e w' => Sw l (kid i).wt e ∧ Bl W w') :
 Calls Tryz.prog 60 #[.slice a n cap, .int .i64 l] w fun e w' => Sw l (n + sumN n (fun i => (kid i).wt)) e ∧ Bl w w' := by
 try unfold PN.ar
 by_cases hbig : l < n
 · clear hR IH
   go_in
   go_wp2
   go_ret
   exact ⟨⟨-1, rfl, .inl rfl⟩, Below.refl _ _⟩
 by_cases hn0 : n = 0
 · subst hn0
   clear hR IH hn hbig
   have hbig : ¬ l < 0 := by omega
   go_in
   go_wp2
   refine wp_loop_rounds 1 ?_
   rw [rounds_succ]
   go_wp2
   go_ret
   exact ⟨⟨_, rfl, .inr ⟨by omega, by omega, by simp [sumN]⟩⟩, Below.refl _ _⟩
 obtain ⟨b, off, rfl, _, hlt, hc⟩ := hR.resolve_left hn0
 have HC := iH hc
 have HI := iH IH
 clear hR hc IH
 go_in
 go_wp2
 go_loopw [1, 5] (fun x i wr => ∃ (k : Nat) (r : Int), k ≤ n ∧ i = .int .i64 k ∧ x = .int .i64 r ∧ 0 ≤ r ∧ r ≤ 1048576 ∧ Hd (Bl w wr) ∧ Hd (r + ((n + sumN k (fun i => (kid i).wt) : Nat) : Int) ≤ l))
  (fun _ i _ => n - (intOf i).toNat)
 case atStart => exact ⟨0, _, nZ, rfl, rfl, by omega, by omega, Below.refl _ _, (show _ ≤ _ by simp only [sumN]; omega)⟩
 obtain ⟨k, r, hk, rfl, rfl, hr0, hr1, HB, HH⟩ := hrel
 by_cases hlk : k < n
 · have hcx : ∀ c u, ((kid k).d.cells)[c]? = some u → wr.cell? ⟨b, off + k * 28 + c, none⟩ = some u := fun c u hu => (HB.o.cell (p := ⟨b, off + k * 28 + c, none⟩) hlt).trans (HC.o k hlk c u hu)
   have hin : (Tryz.prog.info? 68).map (·.size) = some 28 := by kernel_rfl
   have Z := HI.o k hlk
   go_wp2_with (refine wpList_load_mid rfl 68 _ rfl b (off + k * 28) rfl (kid k).d.cl _ hcx Tryz.underlying68 rfl hin ?_; try simp only [Act.put, sA, zA, cA])
   refine (Z _ r hr0 hr1 HB.o).mono ?_
   rintro e w2 ⟨⟨q, rfl, hq⟩, hb2⟩
   have HB2 := iH (bl_trans HB.o hb2)
   clear hcx hin Z hb2 HB
   rcases hq with rfl | ⟨z1, z2, z3⟩
   · go_wp2
     go_ret
     exact ⟨⟨-1, rfl, .inl rfl⟩, HB2.o⟩
   have HZ3 := iH z3
   have nq : ¬ q < 0 := by omega
   clear z3
   go_wp2
   go_roundw
   case rel =>
    refine ⟨k + 1, q, by omega, by go_num, rfl, by omega, by omega, HB2, ?_⟩
    have a1 := HH.o
    have a2 := HZ3.o
    show q + ((n + (sumN k (fun i => (kid i).wt) + (kid k).wt) : Nat) : Int) ≤ l
    omega
   case measure => simp [intOf]; omega
 obtain rfl : k = n := by omega
 go_wp2
 go_ret
 exact ⟨⟨r, rfl, .inr ⟨hr0, hr1, HH.o⟩⟩, HB.o⟩
theorem szPlan_w (e : PT) : ∀ (l : Int) (w : World), 0 ≤ l → l ≤ 1048576 → e.came w → Calls Tryz.prog 17 #[.agg e.d.ar, .int .i64 l] w fun r w' => Sw l e.wt r ∧ Bl w w' := by
 induction e with
 | nil => exact fun _ _ _ _ h => False.elim h
 | mk d kid ih =>
  intro l w h1 h2 hc
  show Calls Tryz.prog 17 #[.agg d.ar, .int .i64 l] w fun r w' => Sw l (d.p.wt + d.e.wt + d.v.len + (d.tb.length + twt d.tb d.tb.length) + (d.n + sumN d.n (fun i => (kid i).wt))) r ∧ Bl w w'
  obtain ⟨hp, he, hv, ht, hn, hR, hk⟩ := hc
  have HZ1 : Hd (∀ (W : World) (l : Int), 0 ≤ l → l ≤ 1048576 → Bl w W → Cl 59 #[.agg d.p.ar, .int .i64 l] W fun e w' => Sw l (d.p.wt) e ∧ Bl W w') := fun W l h1 h2 hb => szPat_w d.p l W h1 h2 (hp.below hb)
  have HZ2 : Hd (∀ (W : World) (l : Int), 0 ≤ l → l ≤ 1048576 → Bl w W → Cl 23 #[.agg d.e.d.ar, .int .i64 l] W fun e w' => Sw l (d.e.wt) e ∧ Bl W w') := fun W l h1 h2 hb => szExpr_w d.e l W h1 h2 (ET.came.below hb he)
  have HZ3 : Hd (∀ (W : World) (l : Int), 0 ≤ l → l ≤ 1048576 → Bl w W → Cl 24 #[.slice d.v.a d.v.len d.v.cap, .int .i64 l] W fun e w' => Sw l (d.v.len) e ∧ Bl W w') := fun W l h1 h2 hb => szByteS_w d.v l W h1 h2 hv.1
  have HZ4 : Hd (∀ (W : World) (l : Int), 0 ≤ l → l ≤ 1048576 → Bl w W → Cl 25 #[.slice d.ta d.tb.length d.tc, .int .i64 l] W fun e w' => Sw l (d.tb.length + twt d.tb d.tb.length) e ∧ Bl W w') := fun W l h1 h2 hb => szTermS_w d.ta d.tc d.tb l W h1 h2 (ht.below hb)
  have HZ5 : Hd (∀ (W : World) (l : Int), 0 ≤ l → l ≤ 1048576 → Bl w W → Cl 60 #[.slice d.ka d.n d.kc, .int .i64 l] W fun e w' => Sw l (d.n + sumN d.n (fun i => (kid i).wt)) e ∧ Bl W w') := fun W l h1 h2 hb => szPlanS_w d.ka d.kc d.n kid l W h1 h2 hn (hR.upper (uB hb)) fun i hi W' l' a1 a2 hW => ih i l' W' a1 a2 (PT.came.below (bl_trans hb hW) (hk i hi))
  clear hp he hv ht hR hk ih hn
  go_in
  have Z1 := HZ1.o
  go_wp2_with fail
  refine (Z1 _ l h1 h2 (bl_a _)).mono ?_
  rintro e w1 ⟨⟨r1, rfl, hr1⟩, hb1⟩
  have HX1 : Hd (Box w1 w.heap.size d.cl) := (Box.new w d.ar 68 _).below hb1
  have HB1 := iH (bl_trans (bl_a _) hb1)
  clear hb1 Z1 
  rcases hr1 with rfl | ⟨p1, q1, s1⟩
  · go_wp2
    go_ret
    exact ⟨⟨-1, rfl, .inl rfl⟩, HB1.o⟩
  have n1 : ¬ r1 < 0 := by omega
  have HS1 := iH s1
  clear s1
  have ld : w1.rangeAt w.heap.size 17 d.e.d.cl := HX1.o.range 17 _ rfl
  have Z2 := HZ2.o
  go_wp2_with (refine ldm Tryz.underlying28 ld ?_; try simp only [Act.put, sA, zA, cA])
  refine (Z2 _ r1 p1 q1 HB1.o).mono ?_
  rintro e w2 ⟨⟨r2, rfl, hr2⟩, hb2⟩
  have HX2 := iH (HX1.o.below hb2)
  have HB2 := iH (bl_trans HB1.o hb2)
  clear hb2 Z2 ld HX1 HB1
  rcases hr2 with rfl | ⟨p2, q2, s2⟩
  · go_wp2
    go_ret
    exact ⟨⟨-1, rfl, .inl rfl⟩, HB2.o⟩
  have n2 : ¬ r2 < 0 := by omega
  have HS2 := iH s2
  clear s2
  have ld := HX2.o.2 25 _ rfl
  have Z3 := HZ3.o
  go_wp2_with fail
  refine (Z3 _ r2 p2 q2 HB2.o).mono ?_
  rintro e w3 ⟨⟨r3, rfl, hr3⟩, hb3⟩
  have HX3 := iH (HX2.o.below hb3)
  have HB3 := iH (bl_trans HB2.o hb3)
  clear hb3 Z3 ld HX2 HB2
  rcases hr3 with rfl | ⟨p3, q3, s3⟩
  · go_wp2
    go_ret
    exact ⟨⟨-1, rfl, .inl rfl⟩, HB3.o⟩
  have n3 : ¬ r3 < 0 := by omega
  have HS3 := iH s3
  clear s3
  have ld := HX3.o.2 26 _ rfl
  have Z4 := HZ4.o
  go_wp2_with fail
  refine (Z4 _ r3 p3 q3 HB3.o).mono ?_
  rintro e w4 ⟨⟨r4, rfl, hr4⟩, hb4⟩
  have HX4 := iH (HX3.o.below hb4)
  have HB4 := iH (bl_trans HB3.o hb4)
  clear hb4 Z4 ld HX3 HB3
  rcases hr4 with rfl | ⟨p4, q4, s4⟩
  · go_wp2
    go_ret
    exact ⟨⟨-1, rfl, .inl rfl⟩, HB4.o⟩
  have n4 : ¬ r4 < 0 := by omega
  have HS4 := iH s4
  clear s4
  have ld := HX4.o.2 27 _ rfl
  have Z5 := HZ5.o
  go_wp2_with fail
  refine (Z5 _ r4 p4 q4 HB4.o).mono ?_
  rintro e w5 ⟨⟨r5, rfl, hr5⟩, hb5⟩
  have HX5 := iH (HX4.o.below hb5)
  have HB5 := iH (bl_trans HB4.o hb5)
  clear hb5 Z5 ld HX4 HB4
  rcases hr5 with rfl | ⟨p5, q5, s5⟩
  · go_wp2
    go_ret
    exact ⟨⟨-1, rfl, .inl rfl⟩, HB5.o⟩
  have n5 : ¬ r5 < 0 := by omega
  have HS5 := iH s5
  clear s5
  go_wp2
  go_ret
  exact ⟨⟨r5, rfl, .inr ⟨p5, q5, (show r5 + ((d.p.wt + d.e.wt + d.v.len + (d.tb.length + twt d.tb d.tb.length) + (d.n + sumN d.n (fun i => (kid i).wt)) : Nat) : Int) ≤ l by have a1 := HS1.o; have a2 := HS2.o; have a3 := HS3.o; have a4 := HS4.o; have a5 := HS5.o; omega)⟩⟩, HB5.o⟩
theorem ET.small_of {w : World} (e : ET) : e.came w → e.wt ≤ 1048576 → e.small := by
 induction e with
 | nil => exact fun h => False.elim h
 | mk d kid ih =>
  intro hc hw
  have h : d.v.len + d.t.t.len + (d.n + sumN d.n (fun i => (kid i).wt)) ≤ 1048576 := hw
  exact ⟨by omega, by omega, by omega, fun i hi => ih i (hc.2.2.2.2.2 i hi) (by have := sumN_le (f := fun i => (kid i).wt) hi; omega)⟩
theorem twt_le {tb : List TB} {x : TB} (h : x ∈ tb) : x.t.len ≤ twt tb tb.length := by
 obtain ⟨j, hj, rfl⟩ := List.mem_iff_getElem.1 h
 have := sumN_le (f := fun j => (tb[j]?.map (fun x => x.t.len)).getD 0) hj
 rw [List.getElem?_eq_getElem hj] at this
 exact this
theorem len_same {B B' : Nat} {w w' : World} {x y : SL} (hx : BsF B w x) (hy : BsF B' w' y) (h : x.b = y.b) : x.len = y.len := by rw [← hx.1.1, ← hy.1.1, h]
theorem tlen_same {B B' : Nat} {w w' : World} {x y : TB} (hx : BsF B w x.sl) (hy : BsF B' w' y.sl) (h : x.td = y.td) : x.t.len = y.t.len := len_same hx hy (congrArg TD.bs h)
theorem IB.wt_same {B B' : Nat} {w w' : World} {x y : IB} (h : x.same y) (hx : x.lies B w) (hy : y.lies B' w') : x.wt = y.wt := by
 unfold IB.wt
 rw [len_same hx.1 hy.1 h.1, tlen_same hx.2.1 hy.2.1 h.2]
theorem PB.wt_same {B B' : Nat} {w w' : World} {x y : PB} (h : x.same y) (hx : x.lies B w) (hy : y.lies B' w') : x.wt = y.wt := by
 unfold PB.wt
 rw [IB.wt_same h.1 hx.1 hy.1, IB.wt_same h.2.1 hx.2.1 hy.2.1, IB.wt_same h.2.2 hx.2.2 hy.2.2]
theorem ET.wt_same {B B' : Nat} {w w' : World} (e : ET) : ∀ e' : ET, e.same e' → e.lies B w → e'.lies B' w' → e.wt = e'.wt := by
 induction e with
 | nil => exact fun _ _ h => False.elim h
 | mk d kid ih =>
  intro e' hs hl hl'
  cases e' with
  | nil => exact False.elim hl'
  | mk d' kid' =>
   obtain ⟨_, _, hv, ht, hn, hk⟩ := hs
   show d.v.len + d.t.t.len + (d.n + sumN d.n (fun i => (kid i).wt)) = d'.v.len + d'.t.t.len + (d'.n + sumN d'.n (fun i => (kid' i).wt))
   rw [len_same hl.1 hl'.1 hv, tlen_same hl.2.1 hl'.2.1 ht, ← hn, sumN_congr fun i hi => ih i (kid' i) (hk i hi) (hl.2.2.2.2.2 i hi) (hl'.2.2.2.2.2 i (by omega))]
theorem twt_same {B B' : Nat} {w w' : World} {a a' : Option Addr} {tb tb' : List TB} (h : tb.map TB.td = tb'.map TB.td) (hx : TRowF B w a tb) (hy : TRowF B' w' a' tb') : tb.length = tb'.length ∧ twt tb tb.length = twt tb' tb'.length := by
 have hn : tb.length = tb'.length := by have := congrArg List.length h; simpa using this
 refine ⟨hn, ?_⟩
 rw [← hn]
 refine sumN_congr fun i hi => ?_
 have hi' : i < tb'.length := by omega
 rw [List.getElem?_eq_getElem hi, List.getElem?_eq_getElem hi']
 have he : tb[i].td = tb'[i].td := by
  have := congrArg (fun l => l[i]?) h
  simpa [hi, hi'] using this
 exact tlen_same (hx.2.2 _ (List.getElem_mem hi)).1 (hy.2.2 _ (List.getElem_mem hi')).1 he
end Go.Proofs.YtoloadogihbdeaaGreat
