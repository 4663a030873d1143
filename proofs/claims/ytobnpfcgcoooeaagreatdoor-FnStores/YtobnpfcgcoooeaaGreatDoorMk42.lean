/- Texts put together: GdrL StxB -/
import Derived.Test.YtobnpfcgcoooeaaGreatDoorMk41
import Derived.Test.YtobnpfcgcoooeaaGreatDoorMk08
import Derived.Test.YtobnpfcgcoooeaaGreatDoorMk21
import Derived.Test.YtobnpfcgcoooeaaGreatDoorMk10
import Derived.Test.YtobnpfcgcoooeaaGreatDoorShs
import Derived.Deep.Upon
/- GdrL -/
namespace Go.Proofs.YtobnpfcgcoooeaaGreatDoor
open Go.RowKit Go.Deep
set_option maxRecDepth 100000

def at1 (l : List G1) (i : Nat) : G1 := l[i]?.getD ⟨⟨0, none, 0, 0, 0, 0⟩, ⟨0, none, 0, 0, 0, 0⟩, ⟨0, none, 0, 0, 0, 0⟩, [], [], []⟩
theorem at1_mem {l : List G1} {i : Nat} (h : i < l.length) : l[i]? = some (at1 l i) ∧ at1 l i ∈ l := by
  have e : l[i]? = some l[i] := List.getElem?_eq_getElem h
  have e2 : at1 l i = l[i] := by simp [at1, e]
  rw [e2]
  exact ⟨e, List.getElem_mem h⟩
theorem OwnG.rows {w : World} {B : Nat} {a : Option Addr} {n c : Nat} {l : List G1} (h : OwnG w B (.slice a n c) l) : Rows w a n (fun i => (at1 l i).t) (fun i => (at1 l i).u) (fun i => (at1 l i).v) := by
  have hn := h.len
  rcases h.form with ⟨e, h0⟩ | ⟨g, c', e, _, hlt, _, h3⟩
  · subst h0
    exact .inl hn
  · simp only [Value.slice.injEq] at e
    refine .inr ⟨g, 0, e.1, hlt, fun i hi => ?_⟩
    have hc := flatG_cells (l := l) (w := w) (g := g) (off := 0) (fun j u hu => by rw [Nat.zero_add]; exact h3 j u hu) (at1_mem (show i < l.length by omega)).1
    exact ⟨⟨hc 0 _ rfl, hc 1 _ rfl, hc 2 _ rfl, hc 3 _ rfl⟩, ⟨hc 4 _ rfl, hc 5 _ rfl, hc 6 _ rfl, hc 7 _ rfl⟩, ⟨hc 8 _ rfl, hc 9 _ rfl, hc 10 _ rfl, hc 11 _ rfl⟩⟩
/-- What DrawStoreOf answers. -/
def GDrawn (w : World) (e : Ending) (w' : World) : Prop :=
  ∃ (a : Option Addr) (n cap : Nat) (T U V : Nat → Tm) (bt bu bv : Nat → List Int), e = .returned (.agg #[.slice a n cap]) ∧ n ≤ 61 ∧ AllFit n T U V ∧ Rows w' a n T U V ∧ Texts w' n T bt ∧ Texts w' n U bu ∧ Texts w' n V bv ∧ Below w.heap.size w w'
theorem BentG.drawn {g : Nat} {a : Option Addr} {len cap : Nat} {w0 w : World} {e : Ending} {w' : World} (h : BentG g a len cap w e w') (h0 : Below w0.heap.size w0 w) (hg : w0.heap.size ≤ g) : GDrawn w0 e w' := by
  obtain ⟨v, l, rfl, hO, hl, hG, hP, _⟩ := h
  obtain ⟨b, n, c, rfl⟩ := hO.slice
  have hn := hO.len
  refine ⟨b, n, c, _, _, _, (fun i => (at1 l i).bt), (fun i => (at1 l i).bu), (fun i => (at1 l i).bv), rfl, by omega, ?_, hO.rows, ?_, ?_, ?_, h0.trans (hP.below hg h0.size)⟩
  · exact fun i hi => have m := hG _ (at1_mem (show i < l.length by omega)).2; ⟨m.t.fit, m.u.fit, m.v.fit⟩
  · exact fun i hi => (hG _ (at1_mem (show i < l.length by omega)).2).t.bs
  · exact fun i hi => (hG _ (at1_mem (show i < l.length by omega)).2).u.bs
  · exact fun i hi => (hG _ (at1_mem (show i < l.length by omega)).2).v.bs
set_option maxHeartbeats 4000000 in
theorem drawStoreOf_any (a : Option Addr) (len cap : Nat) (w : World) (hlen : len ≤ 9223372036854775807) (hC : Code w a len) :
    Calls Tryz.prog 4 #[.slice a len cap] w (GDrawn w) := by
  have NW := fun w h => l1New_any a len cap w hlen h
  have HC : Hid (∀ o, Code (w.alloc o) a len) := by
    intro o
    rcases hC with hc | ⟨b, off, ha, hlt, hc⟩
    · exact .inl hc
    · refine .inr ⟨b, off, ha, Nat.lt_of_lt_of_le hlt (by simp), fun i hi => ?_⟩
      rw [(bl_a (w := w) o).cell (p := ⟨b, off + i, none⟩) hlt]
      exact hc i hi
  clear hC
  go_enter Tryz.func4, Tryz.ntmps4
  go_wp2_with fail
  refine (NW _ (HC.out _)).mono ?_
  rintro e w1 ⟨rfl, hb1, hC1⟩
  have x1 : w1.cell? ⟨w.heap.size, 0, none⟩ = some (.slice none 0 0) := (hb1.cell (p := ⟨w.heap.size, 0, none⟩) (by simp)).trans (by simp [go_sem])
  have x2 : w1.frozen? ⟨w.heap.size, 0, none⟩ = false := ((Past.of_below hb1 : Past 0 _ w1) |> fun _ => (World.frozen?_of_block (hb1.block w.heap.size (by simp)))).trans (by simp [go_sem])
  have hs1 := hb1.size
  simp at hs1 hC1
  have hw1 : Below w.heap.size w w1 := bl_trans (bl_a _) hb1
  clear hb1 NW HC
  go_wp2_with fail
  refine (l2bent_any _ a len cap _ hlen hC1).mono ?_
  rintro e w2 ⟨v, l, rfl, hO, hl, hG, hP, hC2⟩
  obtain ⟨b, n, c, rfl⟩ := hO.slice
  have y1 := (hP.cell (p := ⟨w.heap.size, 0, none⟩) (by show w.heap.size < _; omega) (by show w.heap.size ≠ w.heap.size + 1; omega)).trans x1
  have y2 := (hP.frozen (p := ⟨w.heap.size, 0, none⟩) (by show w.heap.size < _; omega) (by show w.heap.size ≠ w.heap.size + 1; omega)).trans x2
  have HB : Hid (GDrawn w (.returned (.agg #[.slice b n c])) (w2.setCell ⟨w.heap.size, 0, none⟩ (.slice b n c))) := by
    have hQ : Past w.heap.size w2 (w2.setCell ⟨w.heap.size, 0, none⟩ (.slice b n c)) := (Past.refl w.heap.size w2).set 0 _
    have hP' : Below w.heap.size w (w2.setCell ⟨w.heap.size, 0, none⟩ (.slice b n c)) := (hw1.trans (hP.below (by omega) hw1.size)).setCell (p := ⟨w.heap.size, 0, none⟩) (Nat.le_refl _) _
    have hn := hO.len
    have hO' := hO.past hQ (by omega)
    have hG' := fun y hy => (hG y hy).past hQ (by omega)
    exact ⟨b, n, c, _, _, _, (fun i => (at1 l i).bt), (fun i => (at1 l i).bu), (fun i => (at1 l i).bv), rfl, by omega, fun i hi => have m := hG' _ (at1_mem (show i < l.length by omega)).2; ⟨m.t.fit, m.u.fit, m.v.fit⟩, hO'.rows, fun i hi => (hG' _ (at1_mem (show i < l.length by omega)).2).t.bs, fun i hi => (hG' _ (at1_mem (show i < l.length by omega)).2).u.bs, fun i hi => (hG' _ (at1_mem (show i < l.length by omega)).2).v.bs, hP'⟩
  clear hO hG hP hC2 x1 x2 hw1 hC1
  go_wp2_with fail
  have y0 := set_same y1 (v := .slice b n c)
  exact bodyPost_ret (v := .agg #[.slice b n c]) (by simp [results, Tryz.results4, go_sem, y0]) rfl HB.out
end Go.Proofs.YtobnpfcgcoooeaaGreatDoor

/- StxB -/
namespace Go.Proofs.YtobnpfcgcoooeaaGreatDoor
open Go.RowKit Go.Deep Go.Sort Go.Lib
set_option maxRecDepth 100000

/-- append of rows to rows of the call's own. -/
theorem appRs {ops : Array Oper} {rest : List Oper} {o : Oper} {a : Act} {Q : Exit → Act → World → Prop} {w : World} (hgd : o.guard = none) (s x : Operand)
    (ho : o.op = .call { callee := .builtin .append, args := #[s, x], argTypes := #[38, 38] })
    (B : Nat) (v : Value) (us : List (Int × Int × Int)) (hs : a.eval s = v) (HO : Hid (OwnRR w B v us))
    (ad : Addr) (m c : Nat) (bs : List (Int × Int × Int)) (hx : a.eval x = .slice (some ad) m c) (hl : bs.length = m) (HN : Hid (∀ j u, (flat3 bs)[j]? = some u → w.cell? (ad.add j) = some u))
    (hm : 0 < m) (N : Nat) (hN : us.length + m = N) (zs : List (Int × Int × Int)) (hz : us ++ bs = zs) (hle : N ≤ 1000000000) (hB : B ≤ w.heap.size)
    (h : ∀ g cap w', Hid (OwnRR w' B (.slice (some ⟨g, 0, none⟩) N cap) zs) → Hid (Below B w w') → wpList Tryz.prog ops Q rest (a.put o.dst (.slice (some ⟨g, 0, none⟩) N cap)) w') :
    wpList Tryz.prog ops Q (o :: rest) a w := by
  obtain ⟨i0, hi0, hzz⟩ := Option.map_eq_some_iff.1 Tryz.info45
  simp only [Prod.mk.injEq] at hzz
  obtain ⟨hi2, hi1, hi3⟩ := hzz
  subst hN hz
  refine wpList_append_lies _ hgd s x 38 ho B 45 i0 (.agg #[.int .i64 0, .int .i64 0, .int .i64 0]) 3 24 Tryz.underlying38 hi0 hi2 hi1 hi3 rfl (by omega) v us.length (flat3 us) hs HO.out.1 ad m c (flat3 bs) hx (by rw [flat3_len, hl]) HN.out (flat3_one bs) hm (by unfold maxLen; omega) (by omega) hB _ rfl ?_
  intro g cap w' hown hgr hat hlt
  have hown' : w'.ownsRow B 45 3 (.slice (some ⟨g, 0, none⟩) (us.length + m) cap) (us ++ bs).length (flat3 (us ++ bs)) := by
    rw [flat3_append, List.length_append, hl]
    exact hown
  refine h g cap w' ⟨hown', fun g' hg' => ?_⟩ ?_
  · have : g = g' := by simpa [Value.ownBlock] using hg'
    subst this
    rcases hown.2 with ⟨hv, _⟩ | ⟨g0, c0, cur, hv, hb, _⟩
    · cases hv
    · cases hv; exact ⟨hb, hlt⟩
  · rcases HO.out.1.2 with ⟨hv, _⟩ | ⟨g0, c0, cur, hv, hb, _⟩
    · subst hv
      exact ⟨hgr.os, hgr.tape, hgr.output, hgr.size, fun b hb => hgr.block b (by omega) (by simp [Value.ownBlock])⟩
    · subst hv
      exact ⟨hgr.os, hgr.tape, hgr.output, hgr.size, fun b hb' => hgr.block b (by omega) (by intro e; have : b = g0 := (by simpa [Value.ownBlock] using e); omega)⟩

/-- append of no rows. -/
theorem appR0 {ops : Array Oper} {rest : List Oper} {o : Oper} {a : Act} {Q : Exit → Act → World → Prop} {w : World} (hgd : o.guard = none) (s x : Operand)
    (ho : o.op = .call { callee := .builtin .append, args := #[s, x], argTypes := #[38, 38] })
    (base : Option Addr) (c : Nat) (hs : a.eval s = .slice base 0 c) (y : Option Addr) (c' : Nat) (hx : a.eval x = .slice y 0 c')
    (h : wpList Tryz.prog ops Q rest (a.put o.dst (.slice base 0 c)) w) : wpList Tryz.prog ops Q (o :: rest) a w := by
  obtain ⟨i0, hi0, hzz⟩ := Option.map_eq_some_iff.1 Tryz.info45
  refine wpList_plain hgd fun _ hK => ?_
  have hsrc : Src Tryz.prog i0.size 38 (.slice y 0 c') 0 [] w := by
    refine ⟨.inl ⟨_, Tryz.underlying38⟩, fun w' => by simp [Builtin.lenOf], ?_, ?_, by simp, fun u hu => by cases hu⟩
    · cases y with
      | none => simp [Builtin.firstCells]
      | some a => simp [Builtin.firstCells]; rfl
    · cases y with
      | none => simp [Builtin.firstCells]
      | some a => simp [Builtin.firstCells]; rfl
  have hr := run_append_nothing (P := Tryz.prog) w 38 38 o.type 45 i0 Tryz.underlying38 hi0 base 0 c (by omega) (.slice y 0 c') hsrc
  unfold Oper.wp execOp
  simp only [ho, resolve, invoke, builtin, Sem.run_bind, Sem.run_pure, Result.andThen_ok, List.map_toArray, List.map_cons, List.map_nil, hs, hx, hr]
  exact hK _ _ h

theorem flat3_piece {l : List (Int × Int × Int)} {f m j : Nat} {u : Value} (hu : (flat3 ((l.drop f).take m))[j]? = some u) : (flat3 l)[f * 3 + j]? = some u := by
  have hj : j < ((l.drop f).take m).length * 3 := by
    have := (List.getElem?_eq_some_iff.1 hu).1
    rwa [flat3_len] at this
  have hi : j / 3 < ((l.drop f).take m).length := by omega
  have hi' := hi
  rw [List.length_take, List.length_drop] at hi'
  have hc : j % 3 < 3 := Nat.mod_lt _ (by omega)
  have e : j = j / 3 * 3 + j % 3 := by omega
  rw [e, flat3_get _ _ _ hi hc] at hu
  have e2 : f * 3 + j = (f + j / 3) * 3 + j % 3 := by omega
  rw [e2, flat3_get l (f + j / 3) (j % 3) (by omega) hc]
  simpa using hu
theorem addr_add (b off j : Nat) : (⟨b, off, none⟩ : Addr).add j = ⟨b, off + j, none⟩ := by
  by_cases h0 : j = 0 <;> simp [Addr.add, h0]

theorem list_range {α : Type} (d : α) (l : List α) : l = (List.range l.length).map fun i => l[i]?.getD d := by
  apply List.ext_getElem
  · simp
  · intro i h1 h2
    simp [List.getElem?_eq_getElem h1]
theorem countP_at {α : Type} (d : α) (f : α → Bool) (l : List α) : (List.range l.length).countP (fun i => f (l[i]?.getD d)) = l.countP f := by
  have h := congrArg (List.countP f) (list_range d l)
  rw [List.countP_map] at h
  exact h.symm

/-- What the closures of a scan see: the order, the rows, the keys, in their boxes. -/
structure SC (W : World) (bo br bk o : Nat) (ar : Option Addr) (capR : Nat) (l : List (Int × Int × Int)) (pk : Option Addr) (capK : Nat) (ks : List Int) : Prop where
  lo : bo < W.heap.size
  lr : br < W.heap.size
  lk : bk < W.heap.size
  c0 : W.cell? ⟨bo, 0, none⟩ = some (.int .i64 o)
  c1 : W.cell? ⟨br, 0, none⟩ = some (.slice ar l.length capR)
  c2 : W.cell? ⟨bk, 0, none⟩ = some (.slice pk ks.length capK)
  hR : RRow W ar l
  hI : ks.length = 0 ∨ ∃ b off, pk = some ⟨b, off, none⟩ ∧ b < W.heap.size ∧ Ints W b off ks
theorem SC.grown {W : World} {bo br bk o : Nat} {ar : Option Addr} {capR : Nat} {l : List (Int × Int × Int)} {pk : Option Addr} {capK : Nat} {ks : List Int} (h : SC W bo br bk o ar capR l pk capK ks) (q : Nat) (os : Array Obj) : SC (grow (W.drewN q) os) bo br bk o ar capR l pk capK ks := by
  have hs : W.heap.size ≤ (grow (W.drewN q) os).heap.size := by simp
  refine ⟨Nat.lt_of_lt_of_le h.lo hs, Nat.lt_of_lt_of_le h.lr hs, Nat.lt_of_lt_of_le h.lk hs, Go.cell_grown h.lo h.c0 q os, Go.cell_grown h.lr h.c1 q os, Go.cell_grown h.lk h.c2 q os, ?_, ?_⟩
  · rcases h.hR with e | ⟨b, off, e, hb, hc⟩
    · exact .inl e
    · exact .inr ⟨b, off, e, Nat.lt_of_lt_of_le hb hs, fun j u hu => Go.cell_grown hb (hc j u hu) q os⟩
  · rcases h.hI with e | ⟨b, off, e, hb, hc⟩
    · exact .inl e
    · exact .inr ⟨b, off, e, Nat.lt_of_lt_of_le hb hs, fun j hj => Go.cell_grown hb (hc j hj) q os⟩
theorem RRow.at3 {w : World} {ar : Option Addr} {l : List (Int × Int × Int)} (h : RRow w ar l) {i : Nat} {x : Int × Int × Int} (hx : l[i]? = some x) : ∃ b off, ar = some ⟨b, off, none⟩ ∧ b < w.heap.size ∧ w.cell? ⟨b, off + i * 3, none⟩ = some (.int .i64 x.1) ∧ w.cell? ⟨b, off + i * 3 + 1, none⟩ = some (.int .i64 x.2.1) ∧ w.cell? ⟨b, off + i * 3 + 2, none⟩ = some (.int .i64 x.2.2) := by
  obtain ⟨hi, rfl⟩ := List.getElem?_eq_some_iff.1 hx
  rcases h with ⟨_, rfl⟩ | ⟨b, off, e, hb, hc⟩
  · simp at hi
  · refine ⟨b, off, e, hb, ?_, ?_, ?_⟩
    · exact hc (i * 3) _ (by have := flat3_get l i 0 hi (by omega); rw [Nat.add_zero] at this; rw [this]; rfl)
    · have := hc (i * 3 + 1) _ (by rw [flat3_get l i 1 hi (by omega)]; rfl)
      rwa [← Nat.add_assoc] at this
    · have := hc (i * 3 + 2) _ (by rw [flat3_get l i 2 hi (by omega)]; rfl)
      rwa [← Nat.add_assoc] at this

theorem search1_any {W : World} {bo br bk o : Nat} {ar : Option Addr} {capR : Nat} {l : List (Int × Int × Int)} {pk : Option Addr} {capK : Nat} {ks : List Int} (h : SC W bo br bk o ar capR l pk capK ks) (ho : o < 6) (hl : l.length ≤ 1048576) (hk : ks.length ≤ 3) (hs : l.Pairwise (fun x y => rcmp o x y ≤ 0)) :
    Calls Tryz.prog 51 #[.int .i64 l.length, .func (.func 52) #[] #[.pointer (some ⟨bo, 0, none⟩), .pointer (some ⟨br, 0, none⟩), .pointer (some ⟨bk, 0, none⟩)]] W fun e w' => e = .returned (.int .i64 (l.countP fun x => decide (kcmp o ks x < 0) : Nat)) ∧ ∃ q os, w' = grow (W.drewN q) os := by
  have hS := Any.sort_Search Tryz.search 52 #[.pointer (some ⟨bo, 0, none⟩), .pointer (some ⟨br, 0, none⟩), .pointer (some ⟨bk, 0, none⟩)] l.length (fun i => decide (0 ≤ kcmp o ks (l[i]?.getD (0, 0, 0)))) W (enters_of Tryz.func52 (by kernel_rfl) rfl) (by omega)
    (fun m os i hi => by
      have h' := h.grown m os
      obtain ⟨x, hx⟩ : ∃ x, l[i]? = some x := ⟨_, List.getElem?_eq_getElem hi⟩
      obtain ⟨b, off, rfl, hb, e0, e1, e2⟩ := h'.hR.at3 hx
      have := scanC1_any bo br bk o b off capR l.length x pk capK ks.length ks i _ ho hi rfl hk h'.lo h'.lr h'.lk hb h'.c0 h'.c1 h'.c2 e0 e1 e2 h'.hI
      rw [hx]
      exact this)
    (fun a b hab hb hp => by
      have ea : l[a]? = some l[a] := List.getElem?_eq_getElem (by omega)
      have eb : l[b]? = some l[b] := List.getElem?_eq_getElem hb
      simp only [ea, eb, Option.getD_some, decide_eq_true_eq] at hp ⊢
      by_cases e : a = b
      · subst e; exact hp
      · exact (kcmp_mono hk (List.pairwise_iff_getElem.1 hs a b (by omega) hb (by omega))).1 hp)
  have e : (List.range l.length).countP (fun i => !decide (0 ≤ kcmp o ks (l[i]?.getD (0, 0, 0)))) = l.countP fun x => decide (kcmp o ks x < 0) := by
    rw [countP_at (0, 0, 0) (fun x => !decide (0 ≤ kcmp o ks x)) l]
    refine List.countP_congr fun x _ => ?_
    simp
  rw [e] at hS
  exact hS
theorem search2_any {W : World} {bo br bk o : Nat} {ar : Option Addr} {capR : Nat} {l : List (Int × Int × Int)} {pk : Option Addr} {capK : Nat} {ks : List Int} (h : SC W bo br bk o ar capR l pk capK ks) (ho : o < 6) (hl : l.length ≤ 1048576) (hk : ks.length ≤ 3) (hs : l.Pairwise (fun x y => rcmp o x y ≤ 0)) :
    Calls Tryz.prog 51 #[.int .i64 l.length, .func (.func 54) #[] #[.pointer (some ⟨bo, 0, none⟩), .pointer (some ⟨br, 0, none⟩), .pointer (some ⟨bk, 0, none⟩)]] W fun e w' => e = .returned (.int .i64 (l.countP fun x => decide (kcmp o ks x ≤ 0) : Nat)) ∧ ∃ q os, w' = grow (W.drewN q) os := by
  have hS := Any.sort_Search Tryz.search 54 #[.pointer (some ⟨bo, 0, none⟩), .pointer (some ⟨br, 0, none⟩), .pointer (some ⟨bk, 0, none⟩)] l.length (fun i => decide (0 < kcmp o ks (l[i]?.getD (0, 0, 0)))) W (enters_of Tryz.func54 (by kernel_rfl) rfl) (by omega)
    (fun m os i hi => by
      have h' := h.grown m os
      obtain ⟨x, hx⟩ : ∃ x, l[i]? = some x := ⟨_, List.getElem?_eq_getElem hi⟩
      obtain ⟨b, off, rfl, hb, e0, e1, e2⟩ := h'.hR.at3 hx
      have := scanC2_any bo br bk o b off capR l.length x pk capK ks.length ks i _ ho hi rfl hk h'.lo h'.lr h'.lk hb h'.c0 h'.c1 h'.c2 e0 e1 e2 h'.hI
      rw [hx]
      exact this)
    (fun a b hab hb hp => by
      have ea : l[a]? = some l[a] := List.getElem?_eq_getElem (by omega)
      have eb : l[b]? = some l[b] := List.getElem?_eq_getElem hb
      simp only [ea, eb, Option.getD_some, decide_eq_true_eq] at hp ⊢
      by_cases e : a = b
      · subst e; exact hp
      · exact (kcmp_mono hk (List.pairwise_iff_getElem.1 hs a b (by omega) hb (by omega))).2 hp)
  have e : (List.range l.length).countP (fun i => !decide (0 < kcmp o ks (l[i]?.getD (0, 0, 0)))) = l.countP fun x => decide (kcmp o ks x ≤ 0) := by
    rw [countP_at (0, 0, 0) (fun x => !decide (0 < kcmp o ks x)) l]
    refine List.countP_congr fun x _ => ?_
    simp
  rw [e] at hS
  exact hS

/-- What scan answers: rows of its own. -/
def ScanRes (w : World) (L : List (Int × Int × Int)) (e : Ending) (w' : World) : Prop := ∃ a cap, e = .returned (.slice a L.length cap) ∧ OwnRR w' w.heap.size (.slice a L.length cap) L ∧ Below w.heap.size w w'

set_option maxHeartbeats 4000000 in
theorem scan_any (o : Nat) (ar : Option Addr) (capR : Nat) (l : List (Int × Int × Int)) (pk : Option Addr) (capK : Nat) (ks : List Int) (w : World) (ho : o < 6) (hl : l.length ≤ 1048576) (hcap : l.length ≤ capR) (hk : ks.length ≤ 3) (hR : RRow w ar l) (hI : ks.length = 0 ∨ ∃ b off, pk = some ⟨b, off, none⟩ ∧ b < w.heap.size ∧ Ints w b off ks) (hs : l.Pairwise (fun x y => rcmp o x y ≤ 0)) :
    Calls Tryz.prog 30 #[.int .i64 o, .slice ar l.length capR, .slice pk ks.length capK] w (ScanRes w (scanL o ks l)) := by
  have HM : Hid _ := scanL_mid hk hs
  have hle : (l.countP fun x => decide (kcmp o ks x < 0)) ≤ l.countP fun x => decide (kcmp o ks x ≤ 0) := countP_mono_le (kcmp o ks) l
  have hln : (l.countP fun x => decide (kcmp o ks x ≤ 0)) ≤ l.length := List.countP_le_length
  have HSC : Hid (∀ W, SC W w.heap.size (w.heap.size + 1) (w.heap.size + 1 + 1) o ar capR l pk capK ks → (Calls Tryz.prog 51 #[.int .i64 l.length, .func (.func 52) #[] #[.pointer (some ⟨w.heap.size, 0, none⟩), .pointer (some ⟨w.heap.size + 1, 0, none⟩), .pointer (some ⟨w.heap.size + 1 + 1, 0, none⟩)]] W fun e w' => e = .returned (.int .i64 (l.countP fun x => decide (kcmp o ks x < 0) : Nat)) ∧ ∃ q os, w' = grow (W.drewN q) os) ∧
      Calls Tryz.prog 51 #[.int .i64 l.length, .func (.func 54) #[] #[.pointer (some ⟨w.heap.size, 0, none⟩), .pointer (some ⟨w.heap.size + 1, 0, none⟩), .pointer (some ⟨w.heap.size + 1 + 1, 0, none⟩)]] W fun e w' => e = .returned (.int .i64 (l.countP fun x => decide (kcmp o ks x ≤ 0) : Nat)) ∧ ∃ q os, w' = grow (W.drewN q) os) := fun W h => ⟨search1_any h ho hl hk hs, search2_any h ho hl hk hs⟩
  obtain ⟨W0, hW0⟩ : ∃ W0, W0 = ((w.alloc (.cells #[.int .i64 o] 55)).alloc (.cells #[.slice ar l.length capR] 38)).alloc (.cells #[.slice pk ks.length capK] 43) := ⟨_, rfl⟩
  have hB0 : Below w.heap.size w W0 := by rw [hW0]; exact bl_alloc (bl_alloc (bl_a _) _) _
  have hSC0 : SC W0 w.heap.size (w.heap.size + 1) (w.heap.size + 1 + 1) o ar capR l pk capK ks := by
    refine ⟨by rw [hW0]; simp; omega, by rw [hW0]; simp, by rw [hW0]; simp, by rw [hW0]; simp [go_sem], by rw [hW0]; simp [go_sem], by rw [hW0]; simp [go_sem], hR.below hB0, ?_⟩
    rcases hI with e | ⟨b, off, e, hb, hc⟩
    · exact .inl e
    · exact .inr ⟨b, off, e, Nat.lt_of_lt_of_le hb hB0.size, fun j hj => (hB0.cell (p := ⟨b, off + j, none⟩) hb).trans (hc j hj)⟩
  have HS0 : Hid (SC W0 w.heap.size (w.heap.size + 1) (w.heap.size + 1 + 1) o ar capR l pk capK ks) := hSC0
  have HB0 : Hid (Below w.heap.size w W0) := hB0
  have h1 := (HSC.out W0 hSC0).1
  have HL : Hid ((scanL o ks l).length = (l.countP fun x => decide (kcmp o ks x ≤ 0)) - l.countP fun x => decide (kcmp o ks x < 0)) := by
    show _ = _
    rw [← HM.out, List.length_take, List.length_drop]
    omega
  generalize (l.countP fun x => decide (kcmp o ks x < 0)) = f1 at *
  generalize (l.countP fun x => decide (kcmp o ks x ≤ 0)) = f2 at *
  clear hSC0 hB0 hI hR hs
  obtain ⟨n, hn⟩ : ∃ n, n = l.length := ⟨_, rfl⟩
  have HN : Hid (n = l.length) := hn
  rw [← hn] at h1 hl hcap hln hW0 ⊢
  obtain ⟨k, hk'⟩ : ∃ k, k = ks.length := ⟨_, rfl⟩
  have HK : Hid (k = ks.length) := hk'
  rw [← hk'] at hW0 hk ⊢
  clear hn hk'
  go_enter Tryz.func30, Tryz.ntmps30
  go_wp2_with fail
  rw [← hW0]
  refine h1.mono ?_
  rintro e w1 ⟨rfl, q1, os1, rfl⟩
  have HS1 : Hid (SC (grow (W0.drewN q1) os1) w.heap.size (w.heap.size + 1) (w.heap.size + 1 + 1) o ar capR l pk capK ks) := HS0.out.grown q1 os1
  have HB1 : Hid (Below w.heap.size w (grow (W0.drewN q1) os1)) := HB0.out.trans (below_grown_sl w.heap.size W0 q1 os1 HB0.out.size)
  clear h1 hW0 HS0 HB0
  generalize grow (W0.drewN q1) os1 = W1 at HS1 HB1 ⊢
  have h2 := (HSC.out W1 HS1.out).2
  rw [← HN.out] at h2
  have c1 := HS1.out.c1
  rw [← HN.out] at c1
  go_wp2_with fail
  refine h2.mono ?_
  rintro e w2 ⟨rfl, q2, os2, rfl⟩
  have HS2 : Hid (SC (grow (W1.drewN q2) os2) w.heap.size (w.heap.size + 1) (w.heap.size + 1 + 1) o ar capR l pk capK ks) := HS1.out.grown q2 os2
  have HB2 : Hid (Below w.heap.size w (grow (W1.drewN q2) os2)) := HB1.out.trans (below_grown_sl w.heap.size W1 q2 os2 HB1.out.size)
  clear h2 c1 HS1 HB1 HSC
  generalize grow (W1.drewN q2) os2 = W2 at HS2 HB2 ⊢
  have c1 : ∀ o, (W2.alloc o).cell? ⟨w.heap.size + 1, 0, none⟩ = some (.slice ar n capR) := fun o => by
    rw [HN.out]
    exact ((bl_a o).cell (p := ⟨w.heap.size + 1, 0, none⟩) HS2.out.lr).trans HS2.out.c1
  have hW2 : w.heap.size ≤ W2.heap.size := HB2.out.size
  by_cases hm : f1 < f2
  · obtain ⟨b, off, ea, hb, hc⟩ : ∃ b off, ar = some ⟨b, off, none⟩ ∧ b < W2.heap.size ∧ ∀ j u, (flat3 l)[j]? = some u → W2.cell? ⟨b, off + j, none⟩ = some u := by
      rcases HS2.out.hR with ⟨_, e⟩ | h
      · rw [e] at HN
        have := HN.out
        simp at this
        omega
      · exact h
    subst ea
    have HO : Hid (OwnRR (W2.alloc (.cells #[] 45)) w.heap.size (.slice (some ⟨W2.heap.size, 0, none⟩) 0 0) []) := by
      refine ⟨⟨rfl, .inr ⟨W2.heap.size, 0, #[], rfl, hW2, Go.heap_alloc_new _ _, Nat.le_refl _, Nat.zero_le _, rfl, rfl⟩⟩, fun g hg => ?_⟩
      have : W2.heap.size = g := by simpa [Value.ownBlock] using hg
      subst this
      exact ⟨hW2, by simp⟩
    have HNW : Hid (∀ j u, (flat3 (scanL o ks l))[j]? = some u → (W2.alloc (.cells #[] 45)).cell? ((⟨b, off + f1 * 3, none⟩ : Addr).add j) = some u) := fun j u hu => by
      rw [← HM.out] at hu
      rw [addr_add, Nat.add_assoc]
      exact ((bl_a _).cell (p := ⟨b, off + (f1 * 3 + j), none⟩) hb).trans (hc _ u (flat3_piece hu))
    have hs2 : w.heap.size ≤ (W2.alloc (.cells #[] 45)).heap.size := by simp; omega
    have hfc : ¬ f1 = capR := by omega
    have hfz : (f1 : Int) ≤ (f2 : Int) := by omega
    have hfz2 : (f2 : Int) ≤ (capR : Int) := by omega
    clear hc
    go_wp2_with (refine appRs rfl (.tmp 17) (.tmp 21) rfl w.heap.size (.slice (some ⟨W2.heap.size, 0, none⟩) 0 0) [] rfl HO ⟨b, off + f1 * 3, none⟩ (f2 - f1) (capR - f1) (scanL o ks l) rfl HL.out HNW (by omega) (f2 - f1) (by simp) (scanL o ks l) (by simp) (by omega) hs2 ?_; intro g3 c3 w3 HR3 HB3)
    go_ret
    refine ⟨some ⟨g3, 0, none⟩, c3, by rw [HL.out]; rfl, by rw [HL.out]; exact HR3.out, (bl_alloc HB2.out _).trans HB3.out⟩
  · obtain rfl : f1 = f2 := by omega
    have HE : Hid (scanL o ks l = []) := List.eq_nil_of_length_eq_zero (by rw [HL.out]; omega)
    have hOwn : OwnRR (W2.alloc (.cells #[] 45)) w.heap.size (.slice (some ⟨W2.heap.size, 0, none⟩) 0 0) [] := by
      refine ⟨⟨rfl, .inr ⟨W2.heap.size, 0, #[], rfl, hW2, Go.heap_alloc_new _ _, Nat.le_refl _, Nat.zero_le _, rfl, rfl⟩⟩, fun g hg => ?_⟩
      have : W2.heap.size = g := by simpa [Value.ownBlock] using hg
      subst this
      exact ⟨hW2, by simp⟩
    have HO : Hid (OwnRR (W2.alloc (.cells #[] 45)) w.heap.size (.slice (some ⟨W2.heap.size, 0, none⟩) 0 0) []) := hOwn
    clear hOwn
    have hfz2 : (f1 : Int) ≤ (capR : Int) := by omega
    go_wp2_with (refine appR0 rfl (.tmp 17) (.tmp 21) rfl (some ⟨W2.heap.size, 0, none⟩) 0 rfl _ _ rfl ?_)
    all_goals go_ret
    all_goals exact ⟨some ⟨W2.heap.size, 0, none⟩, 0, by rw [HE.out]; rfl, by rw [HE.out]; exact HO.out, bl_alloc HB2.out _⟩
end Go.Proofs.YtobnpfcgcoooeaaGreatDoor
