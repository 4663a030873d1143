/- Texts put together: StrG StqA GrwA -/
import Derived.Test.YtobnpfcgcoooeaaGreatDoorMk07
import Derived.Test.YtobnpfcgcoooeaaGreatDoorMk08
import Derived.Deep.RegionHeld3
import Derived.Test.YtobnpfcgcoooeaaGreatDoorMk04
import Derived.Sort.Grow
import Derived.Lib.QuietBelow
/- StrG -/
namespace Go.Proofs.YtobnpfcgcoooeaaGreatDoor
open Go.RowKit Go.Deep
set_option maxRecDepth 100000

/-- The terms of the first i triples. -/
def allT (T U V : Nat → Tm) (bt bu bv : Nat → List Int) (i : Nat) : List TD := (List.range i).flatMap fun j => [(TB.mk (T j) (bt j)).td, (TB.mk (U j) (bu j)).td, (TB.mk (V j) (bv j)).td]
theorem allT_succ (T U V : Nat → Tm) (bt bu bv : Nat → List Int) (i : Nat) : allT T U V bt bu bv (i + 1) = allT T U V bt bu bv i ++ [(TB.mk (T i) (bt i)).td, (TB.mk (U i) (bu i)).td, (TB.mk (V i) (bv i)).td] := by
  simp [allT, List.range_succ]
/-- One of a graph's terms. -/
def InG (n : Nat) (T U V : Nat → Tm) (bt bu bv : Nat → List Int) (y : TB) : Prop := ∃ j, j < n ∧ (y = ⟨T j, bt j⟩ ∨ y = ⟨U j, bu j⟩ ∨ y = ⟨V j, bv j⟩)

theorem OwnTR.but {w w' : World} {B c : Nat} {v : Value} {l : List TB} (h : OwnTR w B v l) (hb : But c w w') (hc : c < B) : OwnTR w' B v l := by
  obtain ⟨⟨h1, h2⟩, hl⟩ := h
  refine ⟨⟨h1, ?_⟩, fun g hg => ⟨(hl g hg).1, by rw [hb.size]; exact (hl g hg).2⟩⟩
  rcases h2 with h2 | ⟨g', cap', cur, hv, hB, hh, r⟩
  · exact .inl h2
  · refine .inr ⟨g', cap', cur, hv, hB, ?_, r⟩
    rw [hb.block g' (by omega)]
    exact hh

/-- The first k triples as numbers. -/
def gRows (l : List TD) (T U V : Nat → Tm) (bt bu bv : Nat → List Int) (k : Nat) : List (Int × Int × Int) := (List.range k).map fun j => ((idOf l (TB.mk (T j) (bt j)).td : Int), (idOf l (TB.mk (U j) (bu j)).td : Int), (idOf l (TB.mk (V j) (bv j)).td : Int))
theorem gRows_len (l : List TD) (T U V : Nat → Tm) (bt bu bv : Nat → List Int) (k : Nat) : (gRows l T U V bt bu bv k).length = k := by simp [gRows]
theorem gRows_succ (l : List TD) (T U V : Nat → Tm) (bt bu bv : Nat → List Int) (k : Nat) : gRows l T U V bt bu bv (k + 1) = gRows l T U V bt bu bv k ++ [((idOf l (TB.mk (T k) (bt k)).td : Int), (idOf l (TB.mk (U k) (bu k)).td : Int), (idOf l (TB.mk (V k) (bv k)).td : Int))] := by simp [gRows, List.range_succ]
end Go.Proofs.YtobnpfcgcoooeaaGreatDoor

/- StqA -/
namespace Go.Proofs.YtobnpfcgcoooeaaGreatDoor
open Go.RowKit Go.Deep
set_option maxRecDepth 100000

theorem graph_good {n : Nat} {T U V : Nat → Tm} {bt bu bv : Nat → List Int} {w : World} (h : graphOk n T U V bt bu bv = true) (h1 : Texts w n T bt) (h2 : Texts w n U bu) (h3 : Texts w n V bv) : n ≤ 60 ∧ ∀ y, InG n T U V bt bu bv y → y.good ∧ Bs w y.t.a y.t.len y.b := by
  simp only [graphOk, Bool.and_eq_true, decide_eq_true_eq, List.all_eq_true, List.mem_range] at h
  refine ⟨h.1, ?_⟩
  rintro y ⟨j, hj, hy⟩
  have hs := h.2 j hj
  simp only [stepOk, Bool.and_eq_true] at hs
  obtain ⟨t1, t2, t3⟩ := tripleOk_out hs.1
  rcases hy with rfl | rfl | rfl
  · exact ⟨⟨t1, (h1 j hj).byt⟩, h1 j hj⟩
  · exact ⟨⟨t2, (h2 j hj).byt⟩, h2 j hj⟩
  · exact ⟨⟨t3, (h3 j hj).byt⟩, h3 j hj⟩
theorem allT_good {n : Nat} {T U V : Nat → Tm} {bt bu bv : Nat → List Int} (h : ∀ y, InG n T U V bt bu bv y → y.good) : ∀ x ∈ allT T U V bt bu bv n, x.good := by
  intro x hx
  simp only [allT, List.mem_flatMap, List.mem_range, List.mem_cons, List.not_mem_nil, or_false] at hx
  obtain ⟨j, hj, hx⟩ := hx
  rcases hx with rfl | rfl | rfl
  · exact h _ ⟨j, hj, .inl rfl⟩
  · exact h _ ⟨j, hj, .inr (.inl rfl)⟩
  · exact h _ ⟨j, hj, .inr (.inr rfl)⟩

/-- A term by its number, from 1 on. -/
def tbAt (tb : List TB) (z : Int) : TB := (tb[(z - 1).toNat]?).getD ⟨Tm0, []⟩
def r3At (l : List (Int × Int × Int)) (i : Nat) : Int × Int × Int := (l[i]?).getD (0, 0, 0)
/-- The graph that an order of rows tells. -/
def sT (tb : List TB) (l : List (Int × Int × Int)) (i : Nat) : Tm := (tbAt tb (r3At l i).1).t
def sU (tb : List TB) (l : List (Int × Int × Int)) (i : Nat) : Tm := (tbAt tb (r3At l i).2.1).t
def sV (tb : List TB) (l : List (Int × Int × Int)) (i : Nat) : Tm := (tbAt tb (r3At l i).2.2).t
def sbt (tb : List TB) (l : List (Int × Int × Int)) (i : Nat) : List Int := (tbAt tb (r3At l i).1).b
def sbu (tb : List TB) (l : List (Int × Int × Int)) (i : Nat) : List Int := (tbAt tb (r3At l i).2.1).b
def sbv (tb : List TB) (l : List (Int × Int × Int)) (i : Nat) : List Int := (tbAt tb (r3At l i).2.2).b
/-- A row's numbers are numbers of n terms. -/
def inR (n : Nat) (r : Int × Int × Int) : Prop := (1 ≤ r.1 ∧ r.1 ≤ n) ∧ (1 ≤ r.2.1 ∧ r.2.1 ≤ n) ∧ (1 ≤ r.2.2 ∧ r.2.2 ≤ n)
def inRb (n : Nat) (r : Int × Int × Int) : Bool := (decide (1 ≤ r.1) && decide (r.1 ≤ n)) && (decide (1 ≤ r.2.1) && decide (r.2.1 ≤ n)) && (decide (1 ≤ r.2.2) && decide (r.2.2 ≤ n))
theorem inRb_iff {n : Nat} {r : Int × Int × Int} : inRb n r = true ↔ inR n r := by
  simp only [inRb, inR, Bool.and_eq_true, decide_eq_true_eq, and_assoc]
theorem inRb_not {n : Nat} {r : Int × Int × Int} (h : ¬ inR n r) : inRb n r = false := by
  cases e : inRb n r with
  | false => rfl
  | true => exact absurd (inRb_iff.1 e) h
def row0 (rs : List (List (Int × Int × Int))) : List (Int × Int × Int) := (rs[0]?).getD []
/-- Whether the graph may be. -/
def sOk (tb : List TB) (l : List (Int × Int × Int)) : Bool := graphOk l.length (sT tb l) (sU tb l) (sV tb l) (sbt tb l) (sbu tb l) (sbv tb l)
def sAll (tb : List TB) (l : List (Int × Int × Int)) : List TD := allT (sT tb l) (sU tb l) (sV tb l) (sbt tb l) (sbu tb l) (sbv tb l) l.length
def sRows (ts : List TD) (tb : List TB) (l : List (Int × Int × Int)) : List (Int × Int × Int) := gRows ts (sT tb l) (sU tb l) (sV tb l) (sbt tb l) (sbu tb l) (sbv tb l) l.length

/-- A store that may be. -/
structure Good (tb : List TB) (rs : List (List (Int × Int × Int))) : Prop where
  six : rs.length = 6
  rng : ∀ r ∈ row0 rs, inR tb.length r
  grf : sOk tb (row0 rs) = true
  trm : TermsOf (sAll tb (row0 rs)) (tb.map TB.td)
  row : ∀ k l, rs[k]? = some l → RowsOf k (sRows (tb.map TB.td) tb (row0 rs)) l
theorem sAll_good {tb : List TB} {l : List (Int × Int × Int)} (hb : ∀ x ∈ tb, Byt x.b) (h : sOk tb l = true) : l.length ≤ 60 ∧ ∀ y, InG l.length (sT tb l) (sU tb l) (sV tb l) (sbt tb l) (sbu tb l) (sbv tb l) y → y.good := by
  have hat : ∀ z, Byt (tbAt tb z).b := by
    intro z
    unfold tbAt
    cases e : tb[(z - 1).toNat]? with
    | none => exact Byt.nil
    | some x => exact hb x (List.mem_of_getElem? e)
  unfold sOk at h
  simp only [graphOk, Bool.and_eq_true, decide_eq_true_eq, List.all_eq_true, List.mem_range] at h
  refine ⟨h.1, ?_⟩
  rintro y ⟨j, hj, hy⟩
  have hs := h.2 j hj
  simp only [stepOk, Bool.and_eq_true] at hs
  obtain ⟨t1, t2, t3⟩ := tripleOk_out hs.1
  rcases hy with rfl | rfl | rfl
  · exact ⟨t1, hat _⟩
  · exact ⟨t2, hat _⟩
  · exact ⟨t3, hat _⟩

/-- A store may be where it is the one that was made of its graph. -/
theorem good_iff {tb : List TB} {rs : List (List (Int × Int × Int))} {r : List TD} {R : Nat → List (Int × Int × Int)} (hb : ∀ x ∈ tb, Byt x.b) (h6 : rs.length = 6) (hr : ∀ x ∈ row0 rs, inR tb.length x) (hg : sOk tb (row0 rs) = true)
    (ht : TermsOf (sAll tb (row0 rs)) r) (hR : ∀ k, k < 6 → RowsOf k (sRows r tb (row0 rs)) (R k)) : Good tb rs ↔ (r = tb.map TB.td ∧ ∀ k l, rs[k]? = some l → R k = l) := by
  have hgd := allT_good (sAll_good hb hg).2
  constructor
  · intro h
    have e : r = tb.map TB.td := ht.unique hgd h.trm
    subst e
    refine ⟨rfl, fun k l hl => ?_⟩
    have hk : k < 6 := by have := (List.getElem?_eq_some_iff.1 hl).1; omega
    exact (hR k hk).unique (h.row k l hl)
  · rintro ⟨rfl, h⟩
    refine ⟨h6, hr, hg, ht, fun k l hl => ?_⟩
    have hk : k < 6 := by have := (List.getElem?_eq_some_iff.1 hl).1; omega
    rw [← h k l hl]
    exact hR k hk
/-- All its terms may be. -/
theorem Good.terms {tb : List TB} {rs : List (List (Int × Int × Int))} (h : Good tb rs) (hb : ∀ x ∈ tb, Byt x.b) : ∀ x ∈ tb, x.good := by
  intro x hx
  have := (h.trm.mem x.td).1 (List.mem_map_of_mem (f := TB.td) hx)
  exact allT_good (sAll_good hb h.grf).2 _ this
end Go.Proofs.YtobnpfcgcoooeaaGreatDoor

/- GrwA -/
namespace Go.Proofs.YtobnpfcgcoooeaaGreatDoor
open Go.RowKit Go.Deep
set_option maxRecDepth 100000

/-- Nothing that was there is turned; blocks may lie behind it; draws may have gone on. -/
structure Gr (w w' : World) : Prop where
  bl : Below w.heap.size w w'
  dr : w.drawn ≤ w'.drawn
theorem Gr.refl (w : World) : Gr w w := ⟨Below.refl _ _, Nat.le_refl _⟩
theorem gr_alloc {w w' : World} (h : Gr w w') (o : Obj) : Gr w (w'.alloc o) := ⟨bl_alloc h.bl o, by simpa [World.alloc, -World.alloc_eq] using h.dr⟩
theorem gr_a {w : World} (o : Obj) : Gr w (w.alloc o) := gr_alloc (Gr.refl _) o
theorem gr_trans {w w' w'' : World} (h : Gr w w') (k : Gr w' w'') : Gr w w'' := ⟨bl_trans h.bl k.bl, Nat.le_trans h.dr k.dr⟩
theorem gr_drew {w w' : World} (h : Gr w w') : Gr w w'.drew := ⟨Below.drew h.bl, by have := h.dr; simp [World.drew, -World.drew_eq]; omega⟩
theorem gr_drewN {w w' : World} (h : Gr w w') (q : Nat) : Gr w (w'.drewN q) := ⟨below_drewN h.bl q, by have := h.dr; simp [World.drewN]; omega⟩
theorem Bs.gr {w w' : World} {a : Option Addr} {len : Nat} {bs : List Int} (h : Bs w a len bs) (hb : Gr w w') : Bs w' a len bs := h.below hb.bl
theorem At4.gr {w w' : World} {b : Nat} {v0 v1 v2 v3 : Value} (h : At4 w b v0 v1 v2 v3) (hb : Gr w w') : At4 w' b v0 v1 v2 v3 := h.below hb.bl
theorem gcell_keep {w w' : World} (hb : Gr w w') {p : Addr} {v : Value} (h : w.cell? p = some v) (hp : p.block < w.heap.size) : w'.cell? p = some v := cell_keep hb.bl h hp
theorem Gr.grown {w w' : World} (h : Gr w w') : ∃ q os, w' = Go.Sort.grow (w.drewN q) os := by
  obtain ⟨⟨d, os⟩, e⟩ := regrown_of_below h.bl
  have hd : w'.drawn = d := by rw [e]; rfl
  refine ⟨d - w.drawn, os, ?_⟩
  have h2 := h.dr
  rw [e]
  unfold redrawn World.drewN
  rw [show w.drawn + (d - w.drawn) = d by omega]
set_option maxRecDepth 10000 in
theorem implTermOk_gr (k n s : Int) (a : Option Addr) (len cap : Nat) (bs : List Int) (w : World) (hB : Bs w a len bs) (h1 : -9223372036854775808 ≤ n) (h2 : n ≤ 9223372036854775807) (h3 : -9223372036854775808 ≤ s) (h4 : s ≤ 9223372036854775807) :
    Calls Tryz.prog 31 #[.agg #[.int .i64 k, .slice a len cap, .int .i64 n, .int .i64 s]] w fun e w' => e = .returned (.bool (termOk k bs n s)) ∧ Gr w w' := by
  have hB1 : ∀ o1, Bs (w.alloc o1) a len bs := fun o1 => hB.gr (gr_alloc (Gr.refl _) _)
  have HL : Hid (bs.length = len) := hB.1
  have hlm := hB.2.1
  clear hB
  by_cases k0 : k = 0
  · subst k0
    generalize hg : termOk 0 bs n s = r
    have HG : Hid (termOk 0 bs n s = r) := hg
    clear hg
    go_enter Tryz.func31, Tryz.ntmps31
    go_wp2_with (go_at_call 55; refine (isName_any a len cap bs _ (hB1 _)).mono ?_; rintro e w1 ⟨rfl, rfl⟩)
    all_goals go_ret
    all_goals (refine ⟨congrArg (fun b => Ending.returned (Value.bool b)) ?_, gr_alloc (Gr.refl _) _⟩; rw [← HG.out]; clear HG; go_light; simp_all [termOk])
  by_cases k1 : k = 1
  · subst k1
    generalize hg : termOk 1 bs n s = r
    have HG : Hid (termOk 1 bs n s = r) := hg
    clear hg
    go_enter Tryz.func31, Tryz.ntmps31
    go_wp2_with (go_at_call 29; refine (within_any _ _ _ _).mono ?_; rintro e w1 ⟨rfl, rfl⟩)
    all_goals go_ret
    all_goals (refine ⟨congrArg (fun b => Ending.returned (Value.bool b)) ?_, gr_alloc (Gr.refl _) _⟩; have hg := HG.out; have hl := HL.out; rw [← hg, Bool.eq_iff_iff]; go_light; simp [termOk, -List.length_eq_zero_iff]; try omega)
  by_cases k2 : k = 2
  · subst k2
    generalize hg : termOk 2 bs n s = r
    have HG : Hid (termOk 2 bs n s = r) := hg
    clear hg
    go_enter Tryz.func31, Tryz.ntmps31
    go_wp2_with (go_at_call 56; refine (isText_any a len cap bs _ (hB1 _)).mono ?_; rintro e w1 ⟨rfl, rfl⟩)
    all_goals go_ret
    all_goals (refine ⟨congrArg (fun b => Ending.returned (Value.bool b)) ?_, gr_alloc (Gr.refl _) _⟩; rw [← HG.out]; clear HG; go_light; simp_all [termOk])
  by_cases k3 : k = 3
  · subst k3
    generalize hg : termOk 3 bs n s = r
    have HG : Hid (termOk 3 bs n s = r) := hg
    clear hg
    by_cases hl0 : len = 0
    · subst hl0
      go_enter Tryz.func31, Tryz.ntmps31
      go_wp2_with (first | (go_at_call 57; refine (decimal_any _ _ _ _ _ _ _).mono ?_; rintro e w1 ⟨rfl, o1, o2, rfl⟩) | (go_at_call 58; refine (decOk_any _ _ _ h1 h2 h3 h4).mono ?_; rintro e w2 ⟨rfl, o3, rfl⟩))
      go_ret
      refine ⟨congrArg (fun b => Ending.returned (Value.bool b)) ?_, ?_⟩
      · have hg := HG.out
        have hl := HL.out
        rw [← hg]
        simp [termOk, hl]
      · repeat (first | with_reducible exact Gr.refl _ | with_reducible apply gr_alloc | with_reducible apply gr_drew)
    · have hl0' : ((len : Int) == 0) = false := by simp; omega
      go_enter Tryz.func31, Tryz.ntmps31
      go_wp2
      go_ret
      refine ⟨congrArg (fun b => Ending.returned (Value.bool b)) ?_, ?_⟩
      · have hg := HG.out
        have hl := HL.out
        have hz : (bs.length == 0) = false := by simp only [beq_eq_false_iff_ne, ne_eq]; omega
        rw [← hg]
        simp [termOk, hz, -List.length_eq_zero_iff, -beq_eq_false_iff_ne]
      · repeat (first | with_reducible exact Gr.refl _ | with_reducible apply gr_alloc | with_reducible apply gr_drew)
  · have e : termOk k bs n s = false := by simp [termOk, k0, k1, k2, k3]
    rw [e]
    have g0 : (k == 0) = false := by simp; omega
    have g1 : (k == 1) = false := by simp; omega
    have g2 : (k == 2) = false := by simp; omega
    have g3 : (k == 3) = false := by simp; omega
    clear k0 k1 k2 k3 e
    go_enter Tryz.func31, Tryz.ntmps31
    go_wp2
    go_ret
    exact ⟨rfl, gr_alloc (Gr.refl _) _⟩

theorem decCompare_gr (n n' : Int) (s s' : Nat) (w : World) (hs : s ≤ 6) (h1 : -9223372036854775808 ≤ n) (h2 : n ≤ 9223372036854775807) (hs' : s' ≤ 6) (h1' : -9223372036854775808 ≤ n') (h2' : n' ≤ 9223372036854775807) :
    Calls Tryz.prog 101 #[.agg #[.int .i64 n, .int .i64 s], .agg #[.int .i64 n', .int .i64 s']] w fun e w' =>
      e = .returned (.int .i64 (cmpN n s n' s')) ∧ Gr w w' := by
  unfold cmpN
  go_enter Tryz.func101, Tryz.ntmps101
  go_wp2_with fail
  refine (parts_any n s _ hs h1 h2).mono ?_
  rintro e w1 ⟨rfl, q1, o1, rfl⟩
  go_wp2_with fail
  refine (parts_any n' s' _ hs' h1' h2').mono ?_
  rintro e w2 ⟨rfl, q2, o2, rfl⟩
  go_wp2_with fail
  refine (cmpInt_any _ _ _).mono ?_
  rintro e w3 ⟨rfl, rfl⟩
  go_wp2_with fail
  refine (cmpInt_any _ _ _).mono ?_
  rintro e w4 ⟨rfl, rfl⟩
  go_wp2_with fail
  refine (cmpOr_any _ _ _ _ (by simp [go_sem]; rfl) (by simp [go_sem]; rfl)).mono ?_
  rintro e w5 ⟨rfl, rfl⟩
  go_wp2
  go_ret
  refine ⟨rfl, ?_⟩
  repeat (first | with_reducible exact Gr.refl _ | with_reducible apply gr_alloc | with_reducible apply gr_drew | with_reducible apply gr_drewN)


theorem compareKind_gr (k n s k' n' s' : Int) (a a' : Option Addr) (len cap len' cap' : Nat) (w : World) :
    Calls Tryz.prog 75 #[.agg #[.int .i64 k, .slice a len cap, .int .i64 n, .int .i64 s], .agg #[.int .i64 k', .slice a' len' cap', .int .i64 n', .int .i64 s']] w fun e w' =>
      e = .returned (.int .i64 (cmpI k k')) ∧ Gr w w' := by
  go_enter Tryz.func75, Tryz.ntmps75
  go_wp2_with fail
  refine (cmpInt_any _ _ _).mono ?_
  rintro e w1 ⟨rfl, rfl⟩
  go_wp2
  go_ret
  refine ⟨rfl, ?_⟩
  repeat (first | with_reducible exact Gr.refl _ | with_reducible apply gr_alloc | with_reducible apply gr_drew | with_reducible apply gr_drewN)


theorem compareText_gr (k n s k' n' s' : Int) (a a' : Option Addr) (len cap len' cap' : Nat) (bs bs' : List Int) (w : World) (hB : Bs w a len bs) (hB' : Bs w a' len' bs') :
    Calls Tryz.prog 76 #[.agg #[.int .i64 k, .slice a len cap, .int .i64 n, .int .i64 s], .agg #[.int .i64 k', .slice a' len' cap', .int .i64 n', .int .i64 s']] w fun e w' =>
      e = .returned (.int .i64 (cmpB bs bs')) ∧ Gr w w' := by
  have h1 : ∀ o1 o2, Bs ((w.alloc o1).alloc o2) a len bs := fun o1 o2 => hB.gr (gr_alloc (gr_a _) _)
  have h2 : ∀ o1 o2, Bs ((w.alloc o1).alloc o2) a' len' bs' := fun o1 o2 => hB'.gr (gr_alloc (gr_a _) _)
  clear hB hB'
  go_enter Tryz.func76, Tryz.ntmps76
  go_wp2_with fail
  refine (bytesCompare_any a a' len cap len' cap' bs bs' _ (h1 _ _) (h2 _ _)).mono ?_
  rintro e w1 ⟨rfl, rfl⟩
  go_wp2
  go_ret
  exact ⟨rfl, gr_alloc (gr_a _) _⟩

set_option maxHeartbeats 1000000 in
theorem compareNumber_gr (k n k' n' : Int) (s s' : Nat) (a a' : Option Addr) (len cap len' cap' : Nat) (w : World) (hs : s ≤ 6) (h1 : -9223372036854775808 ≤ n) (h2 : n ≤ 9223372036854775807) (hs' : s' ≤ 6) (h1' : -9223372036854775808 ≤ n') (h2' : n' ≤ 9223372036854775807) :
    Calls Tryz.prog 77 #[.agg #[.int .i64 k, .slice a len cap, .int .i64 n, .int .i64 s], .agg #[.int .i64 k', .slice a' len' cap', .int .i64 n', .int .i64 s']] w fun e w' =>
      e = .returned (.int .i64 (cmpN n s n' s')) ∧ Gr w w' := by
  go_enter Tryz.func77, Tryz.ntmps77
  go_wp2_with fail
  go_region_with (first
    | (go_at_call 57; refine (decimal_any _ _ _ _ _ _ _).mono ?_; rintro e w1 ⟨rfl, o1, o2, rfl⟩)
    | (go_at_call 101; refine (decCompare_gr n n' s s' _ hs h1 h2 hs' h1' h2').mono ?_; rintro e w2 ⟨rfl, hb2⟩))
  all_goals (go_wp2; go_ret; refine ⟨rfl, gr_trans ?_ hb2⟩; repeat (first | with_reducible exact Gr.refl _ | with_reducible apply gr_alloc | with_reducible apply gr_drew | with_reducible apply gr_drewN))

set_option maxHeartbeats 1000000 in
theorem firstUnlike_gr (k n k' n' : Int) (s s' : Nat) (a a' : Option Addr) (len cap len' cap' : Nat) (bs bs' : List Int) (b : Nat) (w : World)
    (hB : Bs w a len bs) (hB' : Bs w a' len' bs') (hs : s ≤ 6) (h1 : -9223372036854775808 ≤ n) (h2 : n ≤ 9223372036854775807) (hs' : s' ≤ 6) (h1' : -9223372036854775808 ≤ n') (h2' : n' ≤ 9223372036854775807)
    (hb : b < w.heap.size) (f0 : w.cell? ⟨b, 0, none⟩ = some (.func (.func 75) #[] #[])) (f1 : w.cell? ⟨b, 1, none⟩ = some (.func (.func 76) #[] #[])) (f2 : w.cell? ⟨b, 2, none⟩ = some (.func (.func 77) #[] #[])) :
    Calls Tryz.prog 74 #[.agg #[.int .i64 k, .slice a len cap, .int .i64 n, .int .i64 s], .agg #[.int .i64 k', .slice a' len' cap', .int .i64 n', .int .i64 s'], .slice (some ⟨b, 0, none⟩) 3 3] w fun e w' =>
      e = .returned (.int .i64 (cmp3 (cmpI k k') (cmpB bs bs') (cmpN n s n' s'))) ∧ Gr w w' := by
  have hB2 : ∀ o1 o2, Bs ((w.alloc o1).alloc o2) a len bs := fun o1 o2 => hB.gr (gr_alloc (gr_a _) _)
  have hB2' : ∀ o1 o2, Bs ((w.alloc o1).alloc o2) a' len' bs' := fun o1 o2 => hB'.gr (gr_alloc (gr_a _) _)
  clear hB hB'
  have kind := fun w => compareKind_gr k n s k' n' s' a a' len cap len' cap' w
  have number := fun w => compareNumber_gr k n k' n' s s' a a' len cap len' cap' w hs h1 h2 hs' h1' h2'
  have text := fun w hB hB' => compareText_gr k n s k' n' s' a a' len cap len' cap' bs bs' w hB hB'
  generalize cmpI k k' = x at kind ⊢
  generalize cmpB bs bs' = y at text ⊢
  generalize cmpN n s n' s' = z at number ⊢
  go_enter Tryz.func74, Tryz.ntmps74
  go_wp2_with fail
  refine wp_loop_rounds 4 ?_
  rw [rounds_succ]
  go_wp2_with fail
  refine (kind _).mono ?_
  rintro e w1 ⟨rfl, hb1⟩
  have hw1 := gr_trans (gr_a _) (gr_trans (gr_a _) hb1)
  have hA1 := (At4.new w _ _ _ _ _).gr (gr_trans (gr_a _) hb1)
  have hX1 := (At4.at (w.alloc _) (w.heap.size + 1) _ _ _ _ _ (by simp)).gr hb1
  have hB1 := (hB2 _ _).gr hb1
  have hB1' := (hB2' _ _).gr hb1
  have g1 := gcell_keep hw1 f1 hb
  have g2 := gcell_keep hw1 f2 hb
  have hbl := Nat.lt_of_lt_of_le hb hw1.bl.size
  clear hB2 hB2' hb1 f0 f1 f2 kind
  obtain ⟨a0, a1, a2, a3, a4⟩ := id hA1
  obtain ⟨x0, x1, x2, x3, x4⟩ := id hX1
  by_cases hx : x = 0
  · subst hx
    go_wp2_with fail
    rw [rounds_succ]
    go_wp2_with fail
    refine (text _ hB1 hB1').mono ?_
    rintro e w2 ⟨rfl, hb2⟩
    have hw2 := gr_trans hw1 hb2
    have hA2 := hA1.gr hb2
    have hX2 := hX1.gr hb2
    have g3 := gcell_keep hb2 g2 hbl
    clear hB1 hB1' g1 g2 hw1 hA1 hX1 hbl hb2 text a0 a1 a2 a3 a4 x0 x1 x2 x3 x4
    obtain ⟨a0, a1, a2, a3, a4⟩ := id hA2
    obtain ⟨x0, x1, x2, x3, x4⟩ := id hX2
    by_cases hy : y = 0
    · subst hy
      go_wp2_with fail
      rw [rounds_succ]
      go_wp2_with fail
      refine (number _).mono ?_
      rintro e w3 ⟨rfl, hb3⟩
      have hw3 := gr_trans hw2 hb3
      clear hw2 hA2 hX2 g3 number a0 a1 a2 a3 a4 x0 x1 x2 x3 x4
      by_cases hz : z = 0
      · subst hz
        go_wp2_with fail
        rw [rounds_succ]
        go_wp2
        go_ret
        exact ⟨rfl, hw3⟩
      · have hz' : (z != 0) = true := by simp; omega
        clear hz
        go_wp2
        go_ret
        exact ⟨rfl, hw3⟩
    · have hy' : (y != 0) = true := by simp; omega
      have ec : Hid (cmp3 0 y z = y) := by show _ = _; simp [cmp3, orI, hy]
      clear hy
      go_wp2
      go_ret
      exact ⟨by rw [ec.out]; rfl, hw2⟩
  · have hx' : (x != 0) = true := by simp; omega
    have ec : Hid (cmp3 x y z = x) := by show _ = _; simp [cmp3, orI, hx]
    clear hx text
    go_wp2
    go_ret
    exact ⟨by rw [ec.out]; rfl, hw1⟩


set_option maxHeartbeats 1000000 in
theorem implCompare_gr (k n s k' n' s' : Int) (a a' : Option Addr) (len cap len' cap' : Nat) (bs bs' : List Int) (w : World)
    (hB : Bs w a len bs) (hB' : Bs w a' len' bs') (h1 : -9223372036854775808 ≤ n) (h2 : n ≤ 9223372036854775807) (h3 : -9223372036854775808 ≤ s) (h4 : s ≤ 9223372036854775807) (h1' : -9223372036854775808 ≤ n') (h2' : n' ≤ 9223372036854775807) (h3' : -9223372036854775808 ≤ s') (h4' : s' ≤ 9223372036854775807) :
    Calls Tryz.prog 42 #[.agg #[.int .i64 k, .slice a len cap, .int .i64 n, .int .i64 s], .agg #[.int .i64 k', .slice a' len' cap', .int .i64 n', .int .i64 s']] w fun e w' =>
      e = .returned (.int .i64 (cmpT (termOk k bs n s) (termOk k' bs' n' s') (cmp3 (cmpI k k') (cmpB bs bs') (cmpN n s.toNat n' s'.toNat)))) ∧ Gr w w' := by
  have ok1 := fun w hB => implTermOk_gr k n s a len cap bs w hB h1 h2 h3 h4
  have ok2 := fun w hB => implTermOk_gr k' n' s' a' len' cap' bs' w hB h1' h2' h3' h4'
  go_enter Tryz.func42, Tryz.ntmps42
  have hB2 : ∀ o1 o2, Bs ((w.alloc o1).alloc o2).drew a len bs := fun o1 o2 => hB.gr (gr_drew (gr_alloc (gr_a _) _))
  have hB2' : ∀ o1 o2, Bs ((w.alloc o1).alloc o2).drew a' len' bs' := fun o1 o2 => hB'.gr (gr_drew (gr_alloc (gr_a _) _))
  have tok1 : True := trivial
  clear hB hB'
  go_wp2_with fail
  go_region_held3 (fun w' => w'.cell? ⟨w.heap.size, 0, none⟩ = some (.int .i64 k) ∧ w'.cell? ⟨w.heap.size, 1, none⟩ = some (.slice a len cap) ∧ w'.cell? ⟨w.heap.size, 2, none⟩ = some (.int .i64 n) ∧ w'.cell? ⟨w.heap.size, 3, none⟩ = some (.int .i64 s) ∧ w'.cell? ⟨w.heap.size + 1, 0, none⟩ = some (.int .i64 k') ∧ w'.cell? ⟨w.heap.size + 1, 1, none⟩ = some (.slice a' len' cap') ∧ w'.cell? ⟨w.heap.size + 1, 2, none⟩ = some (.int .i64 n') ∧ w'.cell? ⟨w.heap.size + 1, 3, none⟩ = some (.int .i64 s')) (simp [*, go_sem])
    (first
      | (go_at_call 31; have _t := tok1; refine (ok1 _ (hB2 _ _)).mono ?_; rintro e w1 ⟨rfl, hb1⟩; clear tok1; have hw1 := gr_trans (gr_drew (gr_alloc (gr_a _) _)) hb1; have hA1 := (At4.new w (.int .i64 k) (.slice a len cap) (.int .i64 n) (.int .i64 s) 37).gr (gr_trans (gr_drew (gr_a _)) hb1); have hX1 := (At4.at (w.alloc (.cells #[.int .i64 k, .slice a len cap, .int .i64 n, .int .i64 s] 37)) (w.heap.size + 1) (.int .i64 k') (.slice a' len' cap') (.int .i64 n') (.int .i64 s') 37 (by simp)).gr (gr_trans (gr_drew (Gr.refl _)) hb1); have hB1 := (hB2 _ _).gr hb1; have hB1' := (hB2' _ _).gr hb1; clear hb1; obtain ⟨a0, a1, a2, a3, a4⟩ := id hA1; obtain ⟨x0, x1, x2, x3, x4⟩ := id hX1)
      | (go_at_call 31; refine (ok2 _ hB1').mono ?_; rintro e w2 ⟨rfl, hb2⟩; have hw2 := gr_trans hw1 hb2; have hA2 := hA1.gr hb2; have hX2 := hX1.gr hb2; have hB3 := hB1.gr hb2; have hB3' := hB1'.gr hb2; clear hb2 hw1 hA1 hX1 hB1 hB1' a0 a1 a2 a3 a4 x0 x1 x2 x3 x4; obtain ⟨a0, a1, a2, a3, a4⟩ := id hA2; obtain ⟨x0, x1, x2, x3, x4⟩ := id hX2))
  by_cases e1 : termOk k bs n s = true
  · by_cases e2 : termOk k' bs' n' s' = true
    · obtain ⟨b1, b2⟩ := termOk_scale e1
      obtain ⟨b1', b2'⟩ := termOk_scale e2
      obtain ⟨t, rfl⟩ : ∃ t : Nat, s = t := ⟨s.toNat, by omega⟩
      obtain ⟨t', rfl⟩ : ∃ t : Nat, s' = t := ⟨s'.toNat, by omega⟩
      clear ok1 ok2 hB2 hB2'
      go_wp2_with fail
      refine (firstUnlike_gr k n k' n' t t' a a' len cap len' cap' bs bs' w2.heap.size _ (hB3.gr (gr_a _)) (hB3'.gr (gr_a _)) (by omega) h1 h2 (by omega) h1' h2' (by simp) (by simp [go_sem]) (by simp [go_sem]) (by simp [go_sem])).mono ?_
      rintro e w3 ⟨rfl, hb3⟩
      have hw3 := gr_trans hw2 (gr_trans (gr_a _) hb3)
      have ec : Hid (cmpT (termOk k bs n t) (termOk k' bs' n' t') (cmp3 (cmpI k k') (cmpB bs bs') (cmpN n (t : Int).toNat n' (t' : Int).toNat)) = cmp3 (cmpI k k') (cmpB bs bs') (cmpN n t n' t')) := by
        show _ = _
        simp [cmpT, e1, e2]
      clear hb3
      go_wp2
      go_ret
      exact ⟨by rw [ec.out]; rfl, hw3⟩
    · have e2' : termOk k' bs' n' s' = false := by simpa using e2
      have ec : Hid (∀ c, cmpT (termOk k bs n s) (termOk k' bs' n' s') c = 1) := by intro c; simp [cmpT, e1, e2']
      clear ok1 ok2 hB2 hB2' e2
      go_wp2
      go_ret
      exact ⟨by rw [ec.out]; rfl, hw2⟩
  · have e1' : termOk k bs n s = false := by simpa using e1
    clear e1
    by_cases e2 : termOk k' bs' n' s' = true
    · have ec : Hid (∀ c, cmpT (termOk k bs n s) (termOk k' bs' n' s') c = -1) := by intro c; simp [cmpT, e1', e2]
      clear ok1 ok2 hB2 hB2'
      go_wp2
      go_ret
      exact ⟨by rw [ec.out]; rfl, hw2⟩
    · have e2' : termOk k' bs' n' s' = false := by simpa using e2
      have ec : Hid (∀ c, cmpT (termOk k bs n s) (termOk k' bs' n' s') c = 0) := by intro c; simp [cmpT, e1', e2']
      clear ok1 ok2 hB2 hB2' e2
      go_wp2
      go_ret
      exact ⟨by rw [ec.out]; rfl, hw2⟩
end Go.Proofs.YtobnpfcgcoooeaaGreatDoor
