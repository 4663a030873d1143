import Derived.Test.YthljoojcpbignaaGreatDoorMk29
import Derived.Test.YthljoojcpbignaaGreatDoorMk16
import Derived.Test.YthljoojcpbignaaGreatDoorShf
import Derived.WalkSmall
import Derived.Lib.AppendStr
namespace Go.Proofs.YthljoojcpbignaaGreatDoor
open Go.ChangeShapes Go.WideShapes Go.ChangeAt Go.RowKit Go.Joins Go.Deep
set_option maxHeartbeats 40000000
set_option maxRecDepth 100000
theorem piece (cs : List Value) (o n : Nat) : cs.drop o = (cs.drop o).take n ++ cs.drop (o + n) := by
 rw [← List.drop_drop]
 exact (List.take_append_drop n _).symm
theorem piece_end {cs : List Value} {n : Nat} (h : cs.length = n) : cs.drop n = [] := List.drop_eq_nil_of_le (by omega)
theorem addr_no (b off i : Nat) : (⟨b, off, none⟩ : Addr).add i = ⟨b, off + i, none⟩ := by
 by_cases h0 : i = 0 <;> simp [Addr.add, h0]
theorem trod_struct5 {H : Type} {enc : TypeId × Value → H} {P : Program} {w : World} {base : Nat} {spare : Nat → Bool} {held : Bool} {t : TypeId} {f0 f1 f2 f3 f4 : Field} {fuel : Nat} {cs : List Value} {x : DataW H × List MemPlace} (ht : P.underlying t = some (.struct #[f0, f1, f2, f3, f4])) (h : DataW.trod enc P w base spare held fuel t cs = some x) :
 ∃ y0 y1 y2 y3 y4 n, fuel = n + 1 ∧ cs.length = P.cellsOf t ∧ DataW.trod enc P w base spare held n f0.type ((cs.drop f0.offset).take (P.cellsOf f0.type)) = some y0 ∧ DataW.trod enc P w base spare held n f1.type ((cs.drop f1.offset).take (P.cellsOf f1.type)) = some y1 ∧ DataW.trod enc P w base spare held n f2.type ((cs.drop f2.offset).take (P.cellsOf f2.type)) = some y2 ∧ DataW.trod enc P w base spare held n f3.type ((cs.drop f3.offset).take (P.cellsOf f3.type)) = some y3 ∧ DataW.trod enc P w base spare held n f4.type ((cs.drop f4.offset).take (P.cellsOf f4.type)) = some y4 := by
 obtain ⟨xs, n, hn, rfl, hl, hlen, hf⟩ := DataW.trod_struct ht h
 match xs, hlen with
 | [y0, y1, y2, y3, y4], _ => exact ⟨y0, y1, y2, y3, y4, n, hn, hl, by simpa using hf 0 f0 rfl, by simpa using hf 1 f1 rfl, by simpa using hf 2 f2 rfl, by simpa using hf 3 f3 rfl, by simpa using hf 4 f4 rfl⟩
theorem trod_struct7 {H : Type} {enc : TypeId × Value → H} {P : Program} {w : World} {base : Nat} {spare : Nat → Bool} {held : Bool} {t : TypeId} {f0 f1 f2 f3 f4 f5 f6 : Field} {fuel : Nat} {cs : List Value} {x : DataW H × List MemPlace} (ht : P.underlying t = some (.struct #[f0, f1, f2, f3, f4, f5, f6])) (h : DataW.trod enc P w base spare held fuel t cs = some x) :
 ∃ y0 y1 y2 y3 y4 y5 y6 n, fuel = n + 1 ∧ cs.length = P.cellsOf t ∧ DataW.trod enc P w base spare held n f0.type ((cs.drop f0.offset).take (P.cellsOf f0.type)) = some y0 ∧ DataW.trod enc P w base spare held n f1.type ((cs.drop f1.offset).take (P.cellsOf f1.type)) = some y1 ∧ DataW.trod enc P w base spare held n f2.type ((cs.drop f2.offset).take (P.cellsOf f2.type)) = some y2 ∧ DataW.trod enc P w base spare held n f3.type ((cs.drop f3.offset).take (P.cellsOf f3.type)) = some y3 ∧ DataW.trod enc P w base spare held n f4.type ((cs.drop f4.offset).take (P.cellsOf f4.type)) = some y4 ∧ DataW.trod enc P w base spare held n f5.type ((cs.drop f5.offset).take (P.cellsOf f5.type)) = some y5 ∧ DataW.trod enc P w base spare held n f6.type ((cs.drop f6.offset).take (P.cellsOf f6.type)) = some y6 := by
 obtain ⟨xs, n, hn, rfl, hl, hlen, hf⟩ := DataW.trod_struct ht h
 match xs, hlen with
 | [y0, y1, y2, y3, y4, y5, y6], _ => exact ⟨y0, y1, y2, y3, y4, y5, y6, n, hn, hl, by simpa using hf 0 f0 rfl, by simpa using hf 1 f1 rfl, by simpa using hf 2 f2 rfl, by simpa using hf 3 f3 rfl, by simpa using hf 4 f4 rfl, by simpa using hf 5 f5 rfl, by simpa using hf 6 f6 rfl⟩
theorem open_krow {H Q : Type} {enc : TypeId × Value → H} {W : World} {fuel : Nat} {cs : List Value} {x : DataW H × List MemPlace} {t e : TypeId} {k : Nat} (cell : Q → List Value) (ok : Q → Prop) (dq : Q)
 (ht : Tryz.prog.underlying t = some (.slice e)) (hk : Tryz.prog.cellsOf e = k) (h0 : 0 < k) (hcl : ∀ q, (cell q).length = k)
 (hq : ∀ (n : Nat) (cs : List Value) (y : DataW H × List MemPlace), n < fuel → DataW.trod enc Tryz.prog W 0 (fun _ => true) true n e cs = some y → ∃ q, cs = cell q ∧ ok q)
 (h : DataW.trod enc Tryz.prog W 0 (fun _ => true) true fuel t cs = some x) :
 ∃ (a : Option Addr) (n cap : Nat) (f : Nat → Q), cs = [.slice a n cap] ∧ n ≤ 9223372036854775807 ∧ KRow 0 W k a n (fun i => cell (f i)) ∧ ∀ i, i < n → ok (f i) := by
 rcases DataW.trod_slice ht h with ⟨rfl, _⟩ | ⟨a, len, cap, elems, rest, n, hn, rfl, _, _, hl, hm, hlen, hel, _, _⟩
 · exact ⟨none, 0, 0, fun _ => dq, rfl, by omega, .inl rfl, fun i hi => by omega⟩
 rw [hk] at hel
 have hh : ∀ i : Fin len, ∃ q : Q, ok q ∧ W.cells? 0 (a.add (i.1 * k)) k = some (cell q) := by
  intro i
  have h1 := hel i.1 i.2
  rw [List.getElem?_eq_getElem (by have := i.2; omega)] at h1
  obtain ⟨cs', hc, ht'⟩ := Option.bind_eq_some_iff.1 h1
  obtain ⟨q, rfl, hok⟩ := hq _ _ _ (by omega) ht'
  exact ⟨q, hok, hc⟩
 obtain ⟨F, hF⟩ := Classical.axiomOfChoice hh
 refine ⟨some a, len, cap, fun i => if hi : i < len then F _ else dq, rfl, by unfold maxLen at hm; omega, ?_, fun i hi => by simp only [dif_pos hi]; exact (hF ⟨i, hi⟩).1⟩
 by_cases hz : len = 0
 · exact .inl hz
 right
 obtain ⟨b, off, spot⟩ := a
 obtain ⟨_, _, hz0⟩ := World.cells?_some (hF ⟨0, by omega⟩).2
 have h00 := hz0 0 h0
 have hl0 := Nat.lt_of_lt_of_eq h0 (hcl (F ⟨0, by omega⟩)).symm
 obtain ⟨v, hv⟩ : ∃ v, (cell (F ⟨0, by omega⟩))[0]? = some v := ⟨_, List.getElem?_eq_getElem hl0⟩
 rw [hv] at h00
 have hspot : spot = none := by
  have := World.cell?_spot (w := W) (a := ((⟨b, off, spot⟩ : Addr).add (0 * k)).add 0) (by rw [h00])
  simpa [Addr.add] using this
 subst hspot
 refine ⟨b, off, rfl, nZ, ?_, fun i hi c u hu => ?_⟩
 · rw [addr_no, addr_no] at h00
   exact cell_lt (a := ⟨b, off + 0 * k + 0, none⟩) h00
 simp only [dif_pos hi] at hu
 have hc : c < k := by
  obtain ⟨h1, _⟩ := List.getElem?_eq_some_iff.1 hu
  rwa [hcl] at h1
 obtain ⟨_, _, hcc⟩ := World.cells?_some (hF ⟨i, hi⟩).2
 have h1 := hcc c hc
 rw [addr_no, addr_no] at h1
 rw [h1]
 exact hu
theorem trod_sl {H : Type} {enc : TypeId × Value → H} {W : World} {fuel : Nat} {cs : List Value} {x : DataW H × List MemPlace} (h : DataW.trod enc Tryz.prog W 0 (fun _ => true) true fuel 42 cs = some x) :
 ∃ y : SL, cs = [.slice y.a y.len y.cap] ∧ Cm W y := by
 rcases open_ints Tryz.underlying42 Tryz.underlying5 Tryz.cells5 h with ⟨hcs, _⟩ | ⟨x, l, c, zs, hcs, _, hl, hm, hz, _, hcell, hwz⟩
 · exact ⟨⟨none, 0, 0, []⟩, hcs, by show (0 : Nat) ≤ _; omega, fun _ => ⟨rfl, by show (0 : Nat) ≤ _; omega, by simp, .inl rfl⟩⟩
 simp only [if_true] at hz
 refine ⟨⟨some x, l, c, zs.take l⟩, hcs, ?_, fun h20 => Bs.of_cells hl hz h20 hcell hwz⟩
 show l ≤ _
 unfold maxLen at hm
 omega
theorem trod_tb {H : Type} {enc : TypeId × Value → H} {W : World} {fuel : Nat} {cs : List Value} {x : DataW H × List MemPlace} (h : DataW.trod enc Tryz.prog W 0 (fun _ => true) true fuel 78 cs = some x) :
 ∃ y : TB, cs = [.int .i64 y.t.k, .slice y.t.a y.t.len y.t.cap, .int .i64 y.t.n, .int .i64 y.t.s] ∧ Cm W y.sl ∧ y.t.fits := by
 obtain ⟨t, bs, e, hf, hl, hb⟩ := trod_term h
 exact ⟨⟨t, bs⟩, e, ⟨hl, hb⟩, hf⟩
theorem trod_nm {H : Type} {enc : TypeId × Value → H} {W : World} {fuel : Nat} {cs : List Value} {x : DataW H × List MemPlace} (h : DataW.trod enc Tryz.prog W 0 (fun _ => true) true fuel 3 cs = some x) : ∃ k : Int, cs = [.int .i64 k] := by
 obtain ⟨k, e0, _, _⟩ := DataW.trod_int Tryz.underlying3 h
 exact ⟨k, e0⟩
theorem Tryz.clof3 : Tryz.prog.cellsOf 3 = 1 := by kernel_rfl
theorem Tryz.clof42 : Tryz.prog.cellsOf 42 = 1 := by kernel_rfl
theorem Tryz.clof80 : Tryz.prog.cellsOf 80 = 5 := by kernel_rfl
theorem Tryz.clof82 : Tryz.prog.cellsOf 82 = 15 := by kernel_rfl
theorem Tryz.clof85 : Tryz.prog.cellsOf 85 = 8 := by kernel_rfl
theorem Tryz.clof86 : Tryz.prog.cellsOf 86 = 1 := by kernel_rfl
theorem Tryz.clof83 : Tryz.prog.cellsOf 83 = 1 := by kernel_rfl
theorem trod_item {H : Type} {enc : TypeId × Value → H} {W : World} {fuel : Nat} {cs : List Value} {x : DataW H × List MemPlace} (h : DataW.trod enc Tryz.prog W 0 (fun _ => true) true fuel 80 cs = some x) :
 ∃ y : IB, cs = y.cells ∧ y.came W := by
 obtain ⟨y0, y1, m, _, hlen, h0, h1⟩ := trod_struct2 Tryz.underlying80 h
 rw [Tryz.clof80] at hlen
 simp only [Tryz.clof42, Tryz.cells78] at h0 h1
 obtain ⟨v, e0, hv⟩ := trod_sl h0
 obtain ⟨t, e1, ht, hf⟩ := trod_tb h1
 refine ⟨⟨v, t⟩, ?_, hv, ht, hf⟩
 have p0 := piece cs 0 1
 rw [piece cs (0 + 1) 4, piece_end (n := 0 + 1 + 4) hlen, e0, e1] at p0
 exact p0
theorem trod_pat {H : Type} {enc : TypeId × Value → H} {W : World} {fuel : Nat} {cs : List Value} {x : DataW H × List MemPlace} (h : DataW.trod enc Tryz.prog W 0 (fun _ => true) true fuel 82 cs = some x) :
 ∃ y : PB, cs = y.cells ∧ y.came W := by
 obtain ⟨y0, y1, y2, m, _, hlen, h0, h1, h2⟩ := trod_struct3 Tryz.underlying82 h
 rw [Tryz.clof82] at hlen
 simp only [Tryz.clof80] at h0 h1 h2
 obtain ⟨s, e0, hs⟩ := trod_item h0
 obtain ⟨p, e1, hp⟩ := trod_item h1
 obtain ⟨o, e2, ho⟩ := trod_item h2
 refine ⟨⟨s, p, o⟩, ?_, hs, hp, ho⟩
 have p0 := piece cs 0 5
 rw [piece cs (0 + 5) 5, piece cs (0 + 5 + 5) 5, piece_end (n := 0 + 5 + 5 + 5) hlen, e0, e1, e2] at p0
 exact p0
theorem EN.cells_len (d : EN) : d.cells.length = 8 := rfl
theorem trod_expr {H : Type} {enc : TypeId × Value → H} {W : World} : ∀ (fuel : Nat) {cs : List Value} {x : DataW H × List MemPlace}, DataW.trod enc Tryz.prog W 0 (fun _ => true) true fuel 85 cs = some x →
 ∃ y : ET, cs = y.d.cells ∧ y.came W := by
 intro fuel
 induction fuel using Nat.strongRecOn with
 | ind fuel ih =>
 intro cs x h
 obtain ⟨y0, y1, y2, y3, y4, n, hn, hlen, h0, h1, h2, h3, h4⟩ := trod_struct5 Tryz.underlying85 h
 rw [Tryz.clof85] at hlen
 simp only [Tryz.clof3, Tryz.clof42, Tryz.cells78, Tryz.clof83] at h0 h1 h2 h3 h4
 obtain ⟨k, e0⟩ := trod_nm h0
 obtain ⟨op, e1⟩ := trod_nm h1
 obtain ⟨v, e2, hv⟩ := trod_sl h2
 obtain ⟨t, e3, ht, hft⟩ := trod_tb h3
 obtain ⟨a, nn, cap, f, e4, hnn, hR, hok⟩ := open_krow (fun y : ET => y.d.cells) (fun y => y.came W) .nil Tryz.underlying83 Tryz.clof85 (by omega) (fun q => q.d.cells_len) (fun m cs y hm hy => ih m (by omega) hy) h4
 refine ⟨.mk ⟨k, op, v, t, a, cap, nn⟩ f, ?_, hv, ht, hft, hnn, hR, hok⟩
 have p0 := piece cs 0 1
 rw [piece cs (0 + 1) 1, piece cs (0 + 1 + 1) 1, piece cs (0 + 1 + 1 + 1) 4, piece cs (0 + 1 + 1 + 1 + 4) 1, piece_end (n := 0 + 1 + 1 + 1 + 4 + 1) hlen, e0, e1, e2, e3, e4] at p0
 exact p0
theorem trod_terms {H : Type} {enc : TypeId × Value → H} {W : World} {fuel : Nat} {cs : List Value} {x : DataW H × List MemPlace} (h : DataW.trod enc Tryz.prog W 0 (fun _ => true) true fuel 86 cs = some x) :
 ∃ (a : Option Addr) (cap : Nat) (l : List TB), cs = [.slice a l.length cap] ∧ TCm W a l := by
 obtain ⟨a, n, cap, f, e, hn, hR, hok⟩ := open_krow (fun y : TB => enc4 y.t) (fun y => Cm W y.sl ∧ y.t.fits) ⟨⟨0, none, 0, 0, 0, 0⟩, []⟩ Tryz.underlying86 Tryz.cells78 (by omega) (fun _ => rfl) (fun m cs y _ hy => by obtain ⟨y, h1, h2⟩ := trod_tb hy; exact ⟨y, h1, h2⟩) h
 refine ⟨a, cap, (List.range n).map f, by simpa using e, ?_, by simpa using hn, fun y hy => ?_⟩
 · rcases hR with hR | ⟨b, off, ha, _, hlt, hc⟩
   · subst hR
     exact .inl rfl
   refine .inr ⟨b, off, ha, hlt, fun j u hu => ?_⟩
   have hj : j < (flat4 ((List.range n).map f)).length := by
    obtain ⟨h1, _⟩ := List.getElem?_eq_some_iff.1 hu
    exact h1
   have hl4 : (flat4 ((List.range n).map f)).length = n * 4 := by rw [flat4_len]; simp
   rw [hl4] at hj
   have hi : j / 4 < n := by omega
   have hd := (Nat.div_add_mod' j 4).symm
   rw [hd, flat4_get _ _ _ (by simpa using hi) (Nat.mod_lt _ (by omega))] at hu
   have h1 := hc (j / 4) hi (j % 4) u (by simpa using hu)
   have e1 : off + j = off + j / 4 * 4 + j % 4 := by omega
   rw [e1]
   exact h1
 obtain ⟨i, hi, rfl⟩ := List.mem_map.1 hy
 exact hok i (List.mem_range.1 hi)
theorem trod_struct8 {H : Type} {enc : TypeId × Value → H} {P : Program} {w : World} {base : Nat} {spare : Nat → Bool} {held : Bool} {t : TypeId} {f0 f1 f2 f3 f4 f5 f6 f7 : Field} {fuel : Nat} {cs : List Value} {x : DataW H × List MemPlace} (ht : P.underlying t = some (.struct #[f0, f1, f2, f3, f4, f5, f6, f7])) (h : DataW.trod enc P w base spare held fuel t cs = some x) :
 ∃ y0 y1 y2 y3 y4 y5 y6 y7 n, fuel = n + 1 ∧ cs.length = P.cellsOf t ∧ DataW.trod enc P w base spare held n f0.type ((cs.drop f0.offset).take (P.cellsOf f0.type)) = some y0 ∧ DataW.trod enc P w base spare held n f1.type ((cs.drop f1.offset).take (P.cellsOf f1.type)) = some y1 ∧ DataW.trod enc P w base spare held n f2.type ((cs.drop f2.offset).take (P.cellsOf f2.type)) = some y2 ∧ DataW.trod enc P w base spare held n f3.type ((cs.drop f3.offset).take (P.cellsOf f3.type)) = some y3 ∧ DataW.trod enc P w base spare held n f4.type ((cs.drop f4.offset).take (P.cellsOf f4.type)) = some y4 ∧ DataW.trod enc P w base spare held n f5.type ((cs.drop f5.offset).take (P.cellsOf f5.type)) = some y5 ∧ DataW.trod enc P w base spare held n f6.type ((cs.drop f6.offset).take (P.cellsOf f6.type)) = some y6 ∧ DataW.trod enc P w base spare held n f7.type ((cs.drop f7.offset).take (P.cellsOf f7.type)) = some y7 := by
 obtain ⟨xs, n, hn, rfl, hl, hlen, hf⟩ := DataW.trod_struct ht h
 match xs, hlen with
 | [y0, y1, y2, y3, y4, y5, y6, y7], _ => exact ⟨y0, y1, y2, y3, y4, y5, y6, y7, n, hn, hl, by simpa using hf 0 f0 rfl, by simpa using hf 1 f1 rfl, by simpa using hf 2 f2 rfl, by simpa using hf 3 f3 rfl, by simpa using hf 4 f4 rfl, by simpa using hf 5 f5 rfl, by simpa using hf 6 f6 rfl, by simpa using hf 7 f7 rfl⟩
theorem Tryz.clof4 : Tryz.prog.cellsOf 4 = 1 := by kernel_rfl
theorem Tryz.clof88 : Tryz.prog.cellsOf 88 = 28 := by kernel_rfl
theorem Tryz.clof75 : Tryz.prog.cellsOf 75 = 3 := by kernel_rfl
theorem Tryz.clof91 : Tryz.prog.cellsOf 91 = 2 := by kernel_rfl
theorem Tryz.clof27 : Tryz.prog.cellsOf 27 = 8 := by kernel_rfl
theorem Tryz.clof23 : Tryz.prog.cellsOf 23 = 1 := by kernel_rfl
theorem Tryz.clof22 : Tryz.prog.cellsOf 22 = 1 := by kernel_rfl
theorem Tryz.clof25 : Tryz.prog.cellsOf 25 = 1 := by kernel_rfl
theorem Tryz.clof24 : Tryz.prog.cellsOf 24 = 1 := by kernel_rfl
theorem trod_bl {H : Type} {enc : TypeId × Value → H} {W : World} {fuel : Nat} {cs : List Value} {x : DataW H × List MemPlace} (h : DataW.trod enc Tryz.prog W 0 (fun _ => true) true fuel 4 cs = some x) : ∃ b : Bool, cs = [.bool b] := by
 obtain ⟨b, e0, _⟩ := DataW.trod_bool Tryz.underlying4 h
 exact ⟨b, e0⟩
theorem UN.cells_len (d : UN) : d.cells.length = 28 := rfl
theorem SE.cells_len (d : SE) : d.cells.length = 3 := rfl
theorem KY.cells_len (d : KY) : d.cells.length = 2 := rfl
theorem trod_elem {H : Type} {enc : TypeId × Value → H} {W : World} : ∀ (fuel : Nat) {cs : List Value} {x : DataW H × List MemPlace}, DataW.trod enc Tryz.prog W 0 (fun _ => true) true fuel 88 cs = some x →
 ∃ y : UT, cs = y.d.cells ∧ y.came W := by
 intro fuel
 induction fuel using Nat.strongRecOn with
 | ind fuel ih =>
 intro cs x h
 obtain ⟨y0, y1, y2, y3, y4, y5, y6, n, hn, hlen, h0, h1, h2, h3, h4, h5, h6⟩ := trod_struct7 Tryz.underlying88 h
 rw [Tryz.clof88] at hlen
 simp only [Tryz.clof3, Tryz.clof42, Tryz.clof85, Tryz.clof82, Tryz.clof86, Tryz.clof23] at h0 h1 h2 h3 h4 h5 h6
 obtain ⟨k, e0⟩ := trod_nm h0
 obtain ⟨p, e1, hp⟩ := trod_pat h1
 obtain ⟨e, e2, he⟩ := trod_expr _ h2
 obtain ⟨v, e3, hv⟩ := trod_sl h3
 obtain ⟨ta, tc, tb, e4, ht⟩ := trod_terms h4
 obtain ⟨a, an, ac, fa, e5, han, haR, haok⟩ := open_krow (fun y : UT => y.d.cells) (fun y => y.came W) .nil Tryz.underlying23 Tryz.clof88 (by omega) (fun q => q.d.cells_len) (fun m cs y hm hy => ih m (by omega) hy) h5
 obtain ⟨b, bn, bc, fb, e6, hbn, hbR, hbok⟩ := open_krow (fun y : UT => y.d.cells) (fun y => y.came W) .nil Tryz.underlying23 Tryz.clof88 (by omega) (fun q => q.d.cells_len) (fun m cs y hm hy => ih m (by omega) hy) h6
 refine ⟨.mk ⟨k, p, e, v, ta, tc, tb, a, ac, an, b, bc, bn⟩ fa fb, ?_, hp, he, hv, ht, ⟨han, haR⟩, ⟨hbn, hbR⟩, haok, hbok⟩
 have p0 := piece cs 0 1
 rw [piece cs (0 + 1) 15, piece cs (0 + 1 + 15) 8, piece cs (0 + 1 + 15 + 8) 1, piece cs (0 + 1 + 15 + 8 + 1) 1, piece cs (0 + 1 + 15 + 8 + 1 + 1) 1, piece cs (0 + 1 + 15 + 8 + 1 + 1 + 1) 1, piece_end (n := 0 + 1 + 15 + 8 + 1 + 1 + 1 + 1) hlen, e0, e1, e2, e3, e4, e5, e6] at p0
 exact p0
theorem trod_sel {H : Type} {enc : TypeId × Value → H} {W : World} {fuel : Nat} {cs : List Value} {x : DataW H × List MemPlace} (h : DataW.trod enc Tryz.prog W 0 (fun _ => true) true fuel 75 cs = some x) : ∃ y : SE, cs = y.cells ∧ y.came W := by
 obtain ⟨y0, y1, y2, m, _, hlen, h0, h1, h2⟩ := trod_struct3 Tryz.underlying75 h
 rw [Tryz.clof75] at hlen
 simp only [Tryz.clof3, Tryz.clof42] at h0 h1 h2
 obtain ⟨k, e0⟩ := trod_nm h0
 obtain ⟨o, e1, ho⟩ := trod_sl h1
 obtain ⟨v, e2, hv⟩ := trod_sl h2
 refine ⟨⟨k, o, v⟩, ?_, ho, hv⟩
 have p0 := piece cs 0 1
 rw [piece cs (0 + 1) 1, piece cs (0 + 1 + 1) 1, piece_end (n := 0 + 1 + 1 + 1) hlen, e0, e1, e2] at p0
 exact p0
theorem trod_key {H : Type} {enc : TypeId × Value → H} {W : World} {fuel : Nat} {cs : List Value} {x : DataW H × List MemPlace} (h : DataW.trod enc Tryz.prog W 0 (fun _ => true) true fuel 91 cs = some x) : ∃ y : KY, cs = y.cells ∧ y.came W := by
 obtain ⟨y0, y1, m, _, hlen, h0, h1⟩ := trod_struct2 Tryz.underlying91 h
 rw [Tryz.clof91] at hlen
 simp only [Tryz.clof4, Tryz.clof42] at h0 h1
 obtain ⟨v, e0, hv⟩ := trod_sl h0
 obtain ⟨b, e1⟩ := trod_bl h1
 refine ⟨⟨v, b⟩, ?_, hv⟩
 have p0 := piece cs 0 1
 rw [piece cs (0 + 1) 1, piece_end (n := 0 + 1 + 1) hlen, e0, e1] at p0
 exact p0
theorem trod_query {H : Type} {enc : TypeId × Value → H} {W : World} {fuel : Nat} {cs : List Value} {x : DataW H × List MemPlace} (h : DataW.trod enc Tryz.prog W 0 (fun _ => true) true fuel 27 cs = some x) : ∃ y : QY, cs = y.cells ∧ y.came W := by
 obtain ⟨y0, y1, y2, y3, y4, y5, y6, y7, n, _, hlen, h0, h1, h2, h3, h4, h5, h6, h7⟩ := trod_struct8 Tryz.underlying27 h
 rw [Tryz.clof27] at hlen
 simp only [Tryz.clof4, Tryz.clof3, Tryz.clof22, Tryz.clof23, Tryz.clof24, Tryz.clof25] at h0 h1 h2 h3 h4 h5 h6 h7
 obtain ⟨ask, e0⟩ := trod_bl h0
 obtain ⟨dis, e1⟩ := trod_bl h1
 obtain ⟨sa, sn, sc, sf, e2, hsn, hsR, hsok⟩ := open_krow (fun y : SE => y.cells) (fun y => y.came W) ⟨0, ⟨none, 0, 0, []⟩, ⟨none, 0, 0, []⟩⟩ Tryz.underlying22 Tryz.clof75 (by omega) (fun q => q.cells_len) (fun m cs y _ hy => trod_sel hy) h2
 obtain ⟨ba, bn, bc, bf, e3, hbn, hbR, hbok⟩ := open_krow (fun y : UT => y.d.cells) (fun y => y.came W) .nil Tryz.underlying23 Tryz.clof88 (by omega) (fun q => q.d.cells_len) (fun m cs y _ hy => trod_elem m hy) h3
 obtain ⟨ga, gn, gc, gf, e4, hgn, hgR, hgok⟩ := open_krow (fun y : SL => y.cells) (fun y => Cm W y) ⟨none, 0, 0, []⟩ Tryz.underlying24 Tryz.clof42 (by omega) (fun _ => rfl) (fun m cs y _ hy => trod_sl hy) h4
 obtain ⟨oa, on, oc, of, e5, hon, hoR, hook⟩ := open_krow (fun y : KY => y.cells) (fun y => y.came W) ⟨⟨none, 0, 0, []⟩, false⟩ Tryz.underlying25 Tryz.clof91 (by omega) (fun q => q.cells_len) (fun m cs y _ hy => trod_key hy) h5
 obtain ⟨lim, e6⟩ := trod_nm h6
 obtain ⟨off, e7⟩ := trod_nm h7
 refine ⟨⟨ask, dis, sa, sc, sn, sf, ba, bc, bn, bf, ga, gc, gn, gf, oa, oc, on, of, lim, off⟩, ?_, ⟨hsR, hsok, hsn⟩, ⟨hbR, hbok, hbn⟩, ⟨hgR, hgok, hgn⟩, ⟨hoR, hook, hon⟩⟩
 have p0 := piece cs 0 1
 rw [piece cs (0 + 1) 1, piece cs (0 + 1 + 1) 1, piece cs (0 + 1 + 1 + 1) 1, piece cs (0 + 1 + 1 + 1 + 1) 1, piece cs (0 + 1 + 1 + 1 + 1 + 1) 1, piece cs (0 + 1 + 1 + 1 + 1 + 1 + 1) 1, piece cs (0 + 1 + 1 + 1 + 1 + 1 + 1 + 1) 1, piece_end (n := 0 + 1 + 1 + 1 + 1 + 1 + 1 + 1 + 1) hlen, e0, e1, e2, e3, e4, e5, e6, e7] at p0
 exact p0
theorem open_query {H : Type} {enc : TypeId × Value → H} {W : World} {b0 : Nat} {x : Value} {d : DataW H} {p : List MemPlace}
 (hv : Value.okWide Tryz.prog W .any b0 27 x) (h : DataW.Trod enc Tryz.prog W 0 (fun _ => true) true 27 x d p) : ∃ e : QY, x = .agg e.cells.toArray ∧ e.came W := by
 obtain ⟨cs, rfl, hsz⟩ := okWide_struct Tryz.underlying27 hv
 obtain ⟨fuel, hf⟩ := h
 obtain ⟨e, hcs, hr⟩ := trod_query hf
 refine ⟨e, ?_, hr⟩
 have : cs.toList = e.cells := by simpa [Value.cells] using hcs
 cases cs
 simp at this
 subst this
 rfl
open Go.RowKit Go.Deep
def Tab (w : World) : Prop := Lib.TabIs Tryz.prog w "internal/strconv.uint64pow10" .u64 Lib.pow10Tab
theorem tab_lt {w : World} (h : Tab w) : ∃ g, Tryz.prog.globalNamed "internal/strconv.uint64pow10" = some g ∧ g < w.heap.size := by
 unfold Tab Lib.TabIs World.var? at h
 cases hg : Tryz.prog.globalNamed "internal/strconv.uint64pow10" with
 | none => rw [hg] at h; cases h
 | some g =>
  refine ⟨g, rfl, ?_⟩
  apply Classical.byContradiction
  intro hn
  rw [hg] at h
  simp only [Option.bind_some] at h
  rw [Array.getElem?_eq_none (by omega)] at h
  cases h
theorem Tab.below {w w' : World} (h : Tab w) (hb : Bl w w') : Tab w' := by
 obtain ⟨g, hg, hlt⟩ := tab_lt h
 exact var?_below hb hg hlt h
theorem below_grow (w : World) (k : Nat) (os : Array Obj) : Bl w (Go.Sort.grow (w.drewN k) os) := by
 have h0 : Bl w (w.drewN k) := below_drewN brf k
 refine ⟨h0.os, h0.tape, h0.output, ?_, fun b hb => ?_⟩
 · simp
 rw [Go.Sort.heap_grow_old _ _ (by simpa using hb)]
 exact h0.block b hb
theorem decDigits_nums (n : Nat) : (Lib.decDigits n).map (fun b => (b.toNat : Int)) = digitsL n := by
 induction n using Nat.strongRecOn with
 | ind n ih =>
  rw [Lib.decDigits]
  split
  · rename_i h
    rw [digitsL_small h]
    simp
    omega
  rename_i h
  rw [digitsL_step h, List.map_append, ih (n / 10) (by omega)]
  simp
  omega
def StrRes (w : World) (bs : List Int) (e : Ending) (w' : World) : Prop := ∃ s, e = .returned (.string s) ∧ numsOf s = bs ∧ Bl w w'
theorem itoa_any (n : Int) (w : World) (h0 : 0 ≤ n) (h1 : n ≤ 9223372036854775807) (ht : Tab w) :
 Calls Tryz.prog 184 #[.int .i64 n] w fun e w' => StrRes w (digitsL n.toNat) e w' := by
 refine (Tryz.strconv_Itoa n (by omega) h1 w ht).mono ?_
 rintro e w' ⟨rfl, k, os, rfl⟩
 refine ⟨_, rfl, ?_, below_grow _ _ _⟩
 have hn : ¬ n < 0 := by omega
 simp only [numsOf, Lib.itoa, hn, if_false]
 exact decDigits_nums n.toNat
theorem repeatL_nums (c : Nat) : (Lib.repeatL [48] c).map (fun b : UInt8 => (b.toNat : Int)) = List.replicate c 48 := by
 induction c with
 | zero => rfl
 | succ c ih =>
  rw [Lib.repeatL, List.map_append, ih, List.replicate_succ]
  rfl
theorem repeat0_any (c : Nat) (w : World) (h : c ≤ 1000) :
 Calls Tryz.prog 254 #[.string ⟨#[48]⟩, .int .i64 c] w fun e w' => StrRes w (List.replicate c 48) e w' := by
 refine (Tryz.strings_Repeat _ c w (by omega) (by show 1 * c ≤ _; omega)).mono ?_
 rintro e w' ⟨rfl, hb⟩
 exact ⟨_, rfl, by simp only [numsOf]; exact repeatL_nums c, hb⟩
theorem size_pos (n : Int) (w : World) (h : 0 ≤ n) : Calls Tryz.prog 253 #[.int .i64 n] w fun e w' => e = .returned (.int .i64 n) ∧ w' = w := by
 go_in
 go_wp2
 go_ret
 exact ⟨rfl, rfl⟩
theorem size_neg (n : Int) (w : World) (h : 0 < n) (h1 : n ≤ 9223372036854775807) : Calls Tryz.prog 253 #[.int .i64 (-n)] w fun e w' => e = .returned (.int .i64 n) ∧ w' = w := by
 go_in
 go_wp2
 go_ret
 exact ⟨rfl, rfl⟩
def At2 (w : World) (b : Nat) (v0 v1 : Value) : Prop := b < w.heap.size ∧ w.cell? ⟨b, 0, none⟩ = some v0 ∧ w.cell? ⟨b, 1, none⟩ = some v1
theorem At2.below {w w' : World} {b : Nat} {v0 v1 : Value} (h : At2 w b v0 v1) (hb : Bl w w') : At2 w' b v0 v1 := by
 obtain ⟨hl, h0, h1⟩ := h
 exact ⟨Nat.lt_of_lt_of_le hl hb.size, (hb.cell (p := ⟨b, 0, none⟩) hl).trans h0, (hb.cell (p := ⟨b, 1, none⟩) hl).trans h1⟩
theorem At2.new (w : World) (v0 v1 : Value) (t : TypeId) : At2 (w.alloc (.cells #[v0, v1] t)) w.heap.size v0 v1 := by
 refine ⟨by simp, by simp [go_sem], by simp [go_sem]⟩
theorem p10_nat (s : Nat) : p10 s = ((10 ^ s : Nat) : Int) := by
 induction s with
 | zero => rfl
 | succ s ih =>
  rw [Nat.pow_succ]
  simp only [p10, ih]
  omega
theorem numsOf_nil : numsOf ⟨#[]⟩ = [] := rfl
theorem text_pos (n : Int) (s : Nat) (w : World) (hs : s ≤ 6) (hn : 0 ≤ n) (hn' : n ≤ 1000000000000000) (ht : Tab w) :
 Calls Tryz.prog 246 #[.agg #[.int .i64 n, .int .i64 s]] w fun e w' => StrRes w (numL n s) e w' := by
 have P := fun w => tenTo_any s w hs
 have hp := p10_pos s
 have hp6 := p10_le hs
 have d0 : 0 ≤ n / p10 s := Int.ediv_nonneg hn (by omega)
 have d1 : n / p10 s ≤ n := Int.ediv_le_self _ hn
 have m0 : 0 ≤ n % p10 s := Int.emod_nonneg _ (by omega)
 have m1 : n % p10 s < p10 s := Int.emod_lt_of_pos _ (by omega)
 have I1 := fun w ht => itoa_any (n / p10 s) w d0 (by omega) ht
 have I2 := fun w ht => itoa_any (n % p10 s) w m0 (by omega) ht
 have hL1 := digitsL_len 16 (n / p10 s).toNat (by omega)
 have hL2 : s ≠ 0 → (digitsL (n % p10 s).toNat).length ≤ s := fun h0 => by
  have := digitsL_len (s - 1) (n % p10 s).toNat (by have := p10_nat s; rw [show s - 1 + 1 = s by omega]; omega)
  omega
 have HA := At2.new w (.int .i64 n) (.int .i64 s) 244
 have HT : Hd (Tab (w.alloc (.cells #[.int .i64 n, .int .i64 s] 244))) := ht.below (bl_a _)
 have SZ := fun w => size_pos n w hn
 unfold numL
 generalize digitsL (n / p10 s).toNat = d at *
 generalize digitsL (n % p10 s).toNat = f at *
 go_in
 go_wp2_with fail
 refine (P _).mono ?_
 rintro e w1 ⟨rfl, rfl⟩
 go_wp2_with fail
 refine (SZ _).mono ?_
 rintro e w1 ⟨rfl, rfl⟩
 go_wp2_with fail
 refine (I1 _ HT.o).mono ?_
 rintro e w2 ⟨s1, rfl, hs1, hb1⟩
 obtain ⟨ha0, ha1, ha2⟩ := HA.below hb1
 have HB2 := iH (bl_trans (bl_a _) hb1)
 have HT2 := iH (HT.o.below hb1)
 have HS1 := iH hs1
 have hz1 : s1.size ≤ 17 := by rw [← numsOf_len, hs1]; omega
 clear hb1 hs1 HT HA I1 P
 by_cases hs0 : s = 0
 · go_wp2
   go_ret
   refine ⟨_, rfl, ?_, HB2.o⟩
   simp [HS1.o, numsOf_append, numsOf_nil]
 go_wp2_with fail
 refine (SZ _).mono ?_
 rintro e w3 ⟨rfl, rfl⟩
 go_wp2_with fail
 refine (I2 _ HT2.o).mono ?_
 rintro e w4 ⟨s2, rfl, hs2, hb4⟩
 have ha4 := (hb4.cell (p := ⟨w.heap.size, 1, none⟩) ha0).trans ha2
 have HB4 := iH (bl_trans HB2.o hb4)
 have hz : s2.size = f.length := by rw [← numsOf_len, hs2]
 have HS2 := iH hs2
 clear hb4 hs2 I2 HT2 SZ
 have hf := hL2 hs0
 have R : ∀ c : Int, c = ((s - f.length : Nat) : Int) → ∀ w, Calls Tryz.prog 254 #[.string ⟨#[48]⟩, .int .i64 c] w fun e w' => StrRes w (List.replicate (s - f.length) 48) e w' := fun c hc w => by
  rw [hc]
  exact repeat0_any _ w (by omega)
 go_wp2_with fail
 refine (R _ (by omega) _).mono ?_
 rintro e w5 ⟨s3, rfl, hs3, hb5⟩
 have hz3 : s3.size ≤ 6 := by rw [← numsOf_len, hs3]; simp; omega
 have HB5 := iH (bl_trans HB4.o hb5)
 have HS3 := iH hs3
 clear hb5 hs3 R
 go_wp2
 go_ret
 refine ⟨_, rfl, ?_, HB5.o⟩
 simp only [numsOf_append, numsOf_nil, HS1.o, HS2.o, HS3.o]
 simp [numsOf]
theorem text_neg (n : Int) (s : Nat) (w : World) (hs : s ≤ 6) (hn1 : 0 < n) (hn' : n ≤ 1000000000000000) (ht : Tab w) :
 Calls Tryz.prog 246 #[.agg #[.int .i64 (-n), .int .i64 s]] w fun e w' => StrRes w (45 :: numL n s) e w' := by
 have hn : 0 ≤ n := by omega
 have P := fun w => tenTo_any s w hs
 have hp := p10_pos s
 have hp6 := p10_le hs
 have d0 : 0 ≤ n / p10 s := Int.ediv_nonneg hn (by omega)
 have d1 : n / p10 s ≤ n := Int.ediv_le_self _ hn
 have m0 : 0 ≤ n % p10 s := Int.emod_nonneg _ (by omega)
 have m1 : n % p10 s < p10 s := Int.emod_lt_of_pos _ (by omega)
 have I1 := fun w ht => itoa_any (n / p10 s) w d0 (by omega) ht
 have I2 := fun w ht => itoa_any (n % p10 s) w m0 (by omega) ht
 have hL1 := digitsL_len 16 (n / p10 s).toNat (by omega)
 have hL2 : s ≠ 0 → (digitsL (n % p10 s).toNat).length ≤ s := fun h0 => by
  have := digitsL_len (s - 1) (n % p10 s).toNat (by have := p10_nat s; rw [show s - 1 + 1 = s by omega]; omega)
  omega
 have HA := At2.new w (.int .i64 (-n)) (.int .i64 s) 244
 have HT : Hd (Tab (w.alloc (.cells #[.int .i64 (-n), .int .i64 s] 244))) := ht.below (bl_a _)
 have SZ := fun w => size_neg n w hn1 (by omega)
 unfold numL
 generalize digitsL (n / p10 s).toNat = d at *
 generalize digitsL (n % p10 s).toNat = f at *
 go_in
 go_wp2_with fail
 refine (P _).mono ?_
 rintro e w1 ⟨rfl, rfl⟩
 go_wp2_with fail
 refine (SZ _).mono ?_
 rintro e w1 ⟨rfl, rfl⟩
 go_wp2_with fail
 refine (I1 _ HT.o).mono ?_
 rintro e w2 ⟨s1, rfl, hs1, hb1⟩
 obtain ⟨ha0, ha1, ha2⟩ := HA.below hb1
 have HB2 := iH (bl_trans (bl_a _) hb1)
 have HT2 := iH (HT.o.below hb1)
 have HS1 := iH hs1
 have hz1 : s1.size ≤ 17 := by rw [← numsOf_len, hs1]; omega
 clear hb1 hs1 HT HA I1 P
 by_cases hs0 : s = 0
 · go_wp2
   go_ret
   refine ⟨_, rfl, ?_, HB2.o⟩
   simp [HS1.o, numsOf_append]
   rfl
 go_wp2_with fail
 refine (SZ _).mono ?_
 rintro e w3 ⟨rfl, rfl⟩
 go_wp2_with fail
 refine (I2 _ HT2.o).mono ?_
 rintro e w4 ⟨s2, rfl, hs2, hb4⟩
 have ha4 := (hb4.cell (p := ⟨w.heap.size, 1, none⟩) ha0).trans ha2
 have HB4 := iH (bl_trans HB2.o hb4)
 have hz : s2.size = f.length := by rw [← numsOf_len, hs2]
 have HS2 := iH hs2
 clear hb4 hs2 I2 HT2 SZ
 have hf := hL2 hs0
 have R : ∀ c : Int, c = ((s - f.length : Nat) : Int) → ∀ w, Calls Tryz.prog 254 #[.string ⟨#[48]⟩, .int .i64 c] w fun e w' => StrRes w (List.replicate (s - f.length) 48) e w' := fun c hc w => by
  rw [hc]
  exact repeat0_any _ w (by omega)
 go_wp2_with fail
 refine (R _ (by omega) _).mono ?_
 rintro e w5 ⟨s3, rfl, hs3, hb5⟩
 have hz3 : s3.size ≤ 6 := by rw [← numsOf_len, hs3]; simp; omega
 have HB5 := iH (bl_trans HB4.o hb5)
 have HS3 := iH hs3
 clear hb5 hs3 R
 go_wp2
 go_ret
 refine ⟨_, rfl, ?_, HB5.o⟩
 simp only [numsOf_append, HS1.o, HS2.o, HS3.o]
 simp [numsOf]
theorem conv_res {w w1 : World} (S : ByteArray) (N : Nat) {bs : List Int} (hb : Bl w w1) (hN : S.size = N) (hn : numsOf S = bs) (hl : bs.length ≤ 1048576) :
 TxRes w bs (.returned (.slice (some ⟨w1.heap.size, 0, none⟩) N (grownCap w1 N 0 5))) (Lib.bytesWorld w1 5 S) := by
 have hs : S.size = bs.length := by rw [← hn, numsOf_len]
 have := Tx.conv w1 S 5 (by omega)
 rw [hn, hs] at this
 rw [← hN, hs]
 exact ⟨_, _, rfl, this.nw.mono hb.size, bl_trans hb (bytesWorld_below _ _ _)⟩
theorem size_name (st : ByteArray) : (({ data := #[60] } : ByteArray) ++ st ++ { data := #[62] }).size = 1 + st.size + 1 := by
 rw [ByteArray.size_append, ByteArray.size_append]
 rfl
theorem size_blank (st : ByteArray) : (({ data := #[95, 58] } : ByteArray) ++ st).size = 2 + st.size := by
 rw [ByteArray.size_append]
 rfl
theorem text_any (n s : Int) (w : World) (h : numOk n s = true) (ht : Tab w) :
 Calls Tryz.prog 246 #[.agg #[.int .i64 n, .int .i64 s]] w fun e w' => StrRes w (showL 3 n s []) e w' := by
 have hb := numOk_bounds h
 obtain ⟨t, rfl⟩ : ∃ t : Nat, s = t := ⟨s.toNat, by omega⟩
 by_cases hn : n < 0
 · obtain ⟨m, rfl⟩ : ∃ m, n = -m := ⟨-n, by omega⟩
   have := text_neg m t w (by omega) (by omega) (by omega) ht
   have e : showL 3 (-m) t [] = 45 :: numL m t := by simp [showL]; omega
   rw [e]
   exact this
 have := text_pos n t w (by omega) (by omega) (by omega) ht
 have e : showL 3 n t [] = numL n t := by simp [showL, hn]
 rw [e]
 exact this
theorem implShow_any (k n s : Int) (a : Option Addr) (len cap : Nat) (bs : List Int) (w : World) (hB : Bs w a len bs) (h1 : -9223372036854775808 ≤ n) (h2 : n ≤ 9223372036854775807) (h3 : -9223372036854775808 ≤ s) (h4 : s ≤ 9223372036854775807) (ht : Tab w) :
 Calls Tryz.prog 237 #[.agg #[.int .i64 k, .slice a len cap, .int .i64 n, .int .i64 s]] w fun e w' => TxRes w (shownL k n s bs) e w' := by
 have T := fun o => implTermOk_any k n s a len cap bs (w.alloc o) (hB.below (bl_a o)) h1 h2 h3 h4
 have hcv := fun (w : World) (s : ByteArray) => Lib.run_convert_string_bytes (P := Tryz.prog) w 9 42 5 s Tryz.underlying9 Tryz.underlying42 Tryz.underlying5
 have HA := At4.new w (.int .i64 k) (.slice a len cap) (.int .i64 n) (.int .i64 s) 93
 have HT : Hd (Tab (w.alloc (.cells #[.int .i64 k, .slice a len cap, .int .i64 n, .int .i64 s] 93))) := ht.below (bl_a _)
 have HBs : Hd (Bs (w.alloc (.cells #[.int .i64 k, .slice a len cap, .int .i64 n, .int .i64 s] 93)) a len bs) := hB.below (bl_a _)
 have HY := iH hB.byt
 have HL := iH hB.1
 cases hok : termOk k bs n s
 · have e : shownL k n s bs = [] := by simp [shownL, hok]
   rw [e]
   rw [hok] at T
   clear hB hcv HA HT HBs
   go_in
   go_wp2_with fail
   refine (T _).mono ?_
   rintro e w1 ⟨rfl, hb1⟩
   have HB1 := iH (bl_trans (bl_a _) hb1)
   clear hb1 T
   go_wp2
   go_ret
   exact ⟨none, 0, rfl, Nw.nil _ _, HB1.o⟩
 have e : shownL k n s bs = showL k n s bs := by simp [shownL, hok]
 rw [e]
 have hln := showL_len hok
 have HYY : Hd (Byt (showL k n s bs)) := showL_byt HY.o
 rw [hok] at T
 have HOK := hok
 unfold termOk at hok
 clear hB ht
 split at hok
 · rename_i hk
   subst hk
   have HE : Hd (showL 0 n s bs = 60 :: (bs ++ [62])) := by show _ = _; simp [showL]
   have hz : (strOfNums bs).size ≤ 12 := by rw [strOfNums_size]; simp [nameOk] at hok; omega
   have HN := iH (numsOf_nums HY.o)
   generalize showL 0 n s bs = L at *
   clear hok HOK HT
   go_in
   go_wp2_with fail
   refine (T _).mono ?_
   rintro e w1 ⟨rfl, hb1⟩
   obtain ⟨a0, a1, a2, a3, a4⟩ := HA.below hb1
   have hv := (HBs.o.below hb1).str (cap := cap)
   have HB1 := iH (bl_trans (bl_a _) hb1)
   clear hb1 T HA HBs
   generalize strOfNums bs = st at *
   go_wp2
   go_ret
   refine conv_res _ _ (bs := L) HB1.o (size_name st) ?_ (by omega)
   rw [HE.o]
   simp only [numsOf_append, HN.o]
   simp [numsOf]
 split at hok
 · rename_i k0 hk
   subst hk
   have HE : Hd (showL 1 n s bs = 95 :: 58 :: digitsL n.toNat) := by show _ = _; simp [showL]
   have hn : 0 ≤ n := by simp at hok; omega
   have I := fun w ht => itoa_any n w hn h2 ht
   have hL := digitsL_len 18 n.toNat (by omega)
   generalize showL 1 n s bs = L at *
   generalize digitsL n.toNat = d at *
   clear hok HOK
   go_in
   go_wp2_with fail
   refine (T _).mono ?_
   rintro e w1 ⟨rfl, hb1⟩
   obtain ⟨a0, a1, a2, a3, a4⟩ := HA.below hb1
   have HB1 := iH (bl_trans (bl_a _) hb1)
   have HT1 := iH (HT.o.below hb1)
   clear hb1 T HA HBs HT
   go_wp2_with fail
   refine (I _ HT1.o).mono ?_
   rintro e w2 ⟨st, rfl, hst, hb2⟩
   have HB2 := iH (bl_trans HB1.o hb2)
   have HN := iH hst
   have hz : st.size ≤ 19 := by rw [← numsOf_len, hst]; omega
   clear hb2 hst I HT1 HB1
   go_wp2
   go_ret
   refine conv_res _ _ (bs := L) HB2.o (size_blank st) ?_ (by omega)
   rw [HE.o]
   simp only [numsOf_append, HN.o]
   simp [numsOf]
 split at hok
 · rename_i k0 k1 hk
   subst hk
   have HE : Hd (showL 2 n s bs = 34 :: (esc bs ++ [34])) := by show _ = _; simp [showL]
   have Q := fun w hB => quoted_any a len cap bs w hB
   generalize showL 2 n s bs = L at *
   generalize (34 :: (esc bs ++ [34])) = L2 at *
   obtain rfl : L = L2 := HE.o
   clear hok HOK HT HE
   go_in
   go_wp2_with fail
   refine (T _).mono ?_
   rintro e w1 ⟨rfl, hb1⟩
   obtain ⟨a0, a1, a2, a3, a4⟩ := HA.below hb1
   have HB1 := iH (bl_trans (bl_a _) hb1)
   have HBs1 := iH (HBs.o.below hb1)
   clear hb1 T HA HBs
   go_wp2_with fail
   refine (Q _ HBs1.o).mono ?_
   intro e w2 hR
   have HR := (hR.later HB1.o).tx HYY.o (by omega)
   clear hR Q
   obtain ⟨x, cp, rfl, hr, hbl⟩ := HR
   have HR := iH hr
   have HB := iH hbl
   clear hr hbl
   go_wp2
   go_ret
   exact ⟨x, cp, rfl, HR.o, HB.o⟩
 split at hok
 · rename_i k0 k1 k2 hk
   subst hk
   have HE : Hd (showL 3 n s bs = showL 3 n s []) := by show _ = _; simp [showL]
   simp only [Bool.and_eq_true] at hok
   have X := fun w ht => text_any n s w hok.2 ht
   have D := fun w => decimal_any 3 n s a len cap w
   rw [HE.o] at hln HYY ⊢
   clear HE HOK hok
   generalize showL 3 n s [] = L at *
   go_in
   go_wp2_with fail
   refine (T _).mono ?_
   rintro e w1 ⟨rfl, hb1⟩
   obtain ⟨a0, a1, a2, a3, a4⟩ := HA.below hb1
   have HB1 := iH (bl_trans (bl_a _) hb1)
   have HT1 := iH (HT.o.below hb1)
   clear hb1 T HA HBs HT
   go_wp2_with fail
   refine (D _).mono ?_
   rintro e w1' ⟨rfl, o1, o2, rfl⟩
   have HB1' : Hd (Bl w ((w1.alloc o1).alloc o2)) := bl_alloc (bl_alloc HB1.o _) _
   have HT1' : Hd (Tab ((w1.alloc o1).alloc o2)) := HT1.o.below (bl_alloc (bl_a _) _)
   go_wp2_with fail
   refine (X _ HT1'.o).mono ?_
   rintro e w2 ⟨st, rfl, hst, hb2⟩
   have HB2 := iH (bl_trans HB1'.o hb2)
   have HN := iH hst
   have hz : st.size ≤ 64 := by rw [← numsOf_len, hst]; omega
   clear hb2 hst X HT1 HB1 HB1' HT1'
   go_wp2
   go_ret
   exact conv_res st _ (bs := L) HB2.o rfl HN.o (by omega)
 cases hok
def Tm.show (t : Tm) (b : List Int) : List Int := showL t.k t.n t.s b
theorem Tm.show_len {t : Tm} {b : List Int} (h : termOk t.k b t.n t.s = true) : 1 ≤ (t.show b).length ∧ (t.show b).length ≤ 64 := showL_len h
def Own8 (w : World) (B : Nat) (v : Value) (n : Nat) (bs : List Int) : Prop := w.ownsRow B 5 1 v n (bs.map (Value.int .u8)) ∧ ∀ g, v.ownBlock = some g → B ≤ g ∧ g < w.heap.size
theorem Own8.nil (w : World) (B : Nat) : Own8 w B (.slice none 0 0) 0 [] := ⟨World.ownsRow_nil _ _ _ _, fun g h => by cases h⟩
theorem Own8.below {w w' : World} {B n : Nat} {v : Value} {bs : List Int} (h : Own8 w B v n bs) (hb : Bl w w') : Own8 w' B v n bs := by
 obtain ⟨⟨h1, h2⟩, hl⟩ := h
 refine ⟨⟨h1, ?_⟩, fun g hg => ⟨(hl g hg).1, Nat.lt_of_lt_of_le (hl g hg).2 hb.size⟩⟩
 rcases h2 with h2 | ⟨g', cap', cur, hv, hB, hh, r⟩
 · exact .inl h2
 refine .inr ⟨g', cap', cur, hv, hB, ?_, r⟩
 have := (hl g' (by rw [hv]; rfl)).2
 rw [hb.block g' this]
 exact hh
theorem Row8.own8 {w : World} {B g n cap : Nat} {bs : List Int} (h : Row8 w B g n cap bs) : Own8 w B (.slice (some ⟨g, 0, none⟩) n cap) n bs := by
 refine ⟨h.1, fun g' hg => ?_⟩
 have : g = g' := by simpa [Value.ownBlock] using hg
 subst this
 exact ⟨h.ge, h.2⟩
theorem Own8.len {w : World} {B n : Nat} {v : Value} {bs : List Int} (h : Own8 w B v n bs) : bs.length = n := by simpa using h.1.1
theorem name_len {b : List Int} (h : nameOk b = true) : 1 ≤ b.length ∧ b.length ≤ 12 := by
 simp [nameOk] at h
 omega
end Go.Proofs.YthljoojcpbignaaGreatDoor
