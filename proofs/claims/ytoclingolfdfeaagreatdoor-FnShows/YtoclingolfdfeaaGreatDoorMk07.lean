/- Texts put together: GdrA GdrB GdrD GdrE DrwE OpnC RdC RdD ShwI -/
import Derived.Test.YtoclingolfdfeaaGreatDoorMk06
import Derived.Test.YtoclingolfdfeaaGreatDoorMk03
import Derived.Test.YtoclingolfdfeaaGreatDoorMk04
import Derived.Deep.Upon
import Derived.Test.YtoclingolfdfeaaGreatDoorMk05
import Derived.Test.YtoclingolfdfeaaGreatDoorMk01
import Derived.Test.YtoclingolfdfeaaGreatDoorShf
import Derived.BigQuiet
import Derived.Test.YtoclingolfdfeaaGreatDoorMk02
import Derived.WalkSmall
/- GdrA -/
namespace Go.Proofs.YtoclingolfdfeaaGreatDoor
open Go.RowKit Go.Deep
set_option maxRecDepth 100000

/-- The cells of a triple. -/
def e12 (t u v : Tm) : List Value := [.int .i64 t.k, .slice t.a t.len t.cap, .int .i64 t.n, .int .i64 t.s, .int .i64 u.k, .slice u.a u.len u.cap, .int .i64 u.n, .int .i64 u.s, .int .i64 v.k, .slice v.a v.len v.cap, .int .i64 v.n, .int .i64 v.s]
/-- A triple in a block of its own, which may be written. -/
structure B12 (w : World) (b : Nat) (t u v : Tm) : Prop where
  lt : b < w.heap.size
  c : ∀ j x, (e12 t u v)[j]? = some x → w.cell? ⟨b, j, none⟩ = some x
  f : ∀ j, j < 12 → w.frozen? ⟨b, j, none⟩ = false
theorem B12.cells {w : World} {b : Nat} {t u v : Tm} (h : B12 w b t u v) :
    (w.cell? ⟨b, 0, none⟩ = some (.int .i64 t.k) ∧ w.cell? ⟨b, 1, none⟩ = some (.slice t.a t.len t.cap) ∧ w.cell? ⟨b, 2, none⟩ = some (.int .i64 t.n) ∧ w.cell? ⟨b, 3, none⟩ = some (.int .i64 t.s)) ∧
    (w.cell? ⟨b, 4, none⟩ = some (.int .i64 u.k) ∧ w.cell? ⟨b, 5, none⟩ = some (.slice u.a u.len u.cap) ∧ w.cell? ⟨b, 6, none⟩ = some (.int .i64 u.n) ∧ w.cell? ⟨b, 7, none⟩ = some (.int .i64 u.s)) ∧
    (w.cell? ⟨b, 8, none⟩ = some (.int .i64 v.k) ∧ w.cell? ⟨b, 9, none⟩ = some (.slice v.a v.len v.cap) ∧ w.cell? ⟨b, 10, none⟩ = some (.int .i64 v.n) ∧ w.cell? ⟨b, 11, none⟩ = some (.int .i64 v.s)) :=
  ⟨⟨h.c 0 _ rfl, h.c 1 _ rfl, h.c 2 _ rfl, h.c 3 _ rfl⟩, ⟨h.c 4 _ rfl, h.c 5 _ rfl, h.c 6 _ rfl, h.c 7 _ rfl⟩, ⟨h.c 8 _ rfl, h.c 9 _ rfl, h.c 10 _ rfl, h.c 11 _ rfl⟩⟩
theorem B12.past {w w' : World} {g b : Nat} {t u v : Tm} (h : B12 w b t u v) (hb : Past g w w') (hn : b ≠ g) : B12 w' b t u v :=
  ⟨Nat.lt_of_lt_of_le h.lt hb.size, fun j x hx => (hb.cell (p := ⟨b, j, none⟩) h.lt hn).trans (h.c j x hx), fun j hj => (hb.frozen (p := ⟨b, j, none⟩) h.lt hn).trans (h.f j hj)⟩
theorem B12.below {w w' : World} {b : Nat} {t u v : Tm} (h : B12 w b t u v) (hb : Below w.heap.size w w') : B12 w' b t u v :=
  ⟨Nat.lt_of_lt_of_le h.lt hb.size, fun j x hx => (hb.cell (p := ⟨b, j, none⟩) h.lt).trans (h.c j x hx), fun j hj => (hb.frozen (p := ⟨b, j, none⟩) h.lt).trans (h.f j hj)⟩
theorem B12.new (w : World) (t u v : Tm) (T : TypeId) : B12 (w.alloc (.cells #[.int .i64 t.k, .slice t.a t.len t.cap, .int .i64 t.n, .int .i64 t.s, .int .i64 u.k, .slice u.a u.len u.cap, .int .i64 u.n, .int .i64 u.s, .int .i64 v.k, .slice v.a v.len v.cap, .int .i64 v.n, .int .i64 v.s] T)) w.heap.size t u v := by
  refine ⟨by simp, fun j x hx => ?_, fun j _ => by simp [go_sem]⟩
  have : (w.alloc (.cells (e12 t u v).toArray T)).cell? ⟨w.heap.size, j, none⟩ = (e12 t u v)[j]? := by simp [go_sem]
  exact this.trans hx
/-- A term that was drawn: its numbers are of 64 bits, its text lies from B on and below C. -/
structure DT (w : World) (B C : Nat) (t : Tm) (b : List Int) : Prop where
  fit : t.fits
  len : t.len ≤ 200
  bs : Bs w t.a t.len b
  at_ : t.len = 0 ∨ ∃ g, t.a = some ⟨g, 0, none⟩ ∧ B ≤ g ∧ g < C
  le : C ≤ w.heap.size
theorem DT.keep {w w' : World} {B C : Nat} {t : Tm} {b : List Int} (h : DT w B C t b) (hs : w.heap.size ≤ w'.heap.size) (hu : ∀ c, B ≤ c → c < C → w'.heap[c]? = w.heap[c]?) : DT w' B C t b := by
  obtain ⟨b1, b2, b3, b4⟩ := h.bs
  refine ⟨h.fit, h.len, ⟨b1, b2, b3, ?_⟩, h.at_, Nat.le_trans h.le hs⟩
  rcases b4 with b4 | ⟨c, off, e, hl, hc⟩
  · exact .inl b4
  · rcases h.at_ with h0 | ⟨g, ea, hB, hC⟩
    · exact .inl h0
    · rw [ea] at e
      simp only [Option.some.injEq, Addr.mk.injEq] at e
      obtain ⟨e1, e2, _⟩ := e
      subst e1 e2
      exact .inr ⟨g, 0, ea, Nat.lt_of_lt_of_le hl hs, fun i hi => (World.cell?_of_block (w := w) (a := ⟨g, 0 + i, none⟩) (hu g hB hC)).trans (hc i hi)⟩
theorem DT.past {w w' : World} {B C c : Nat} {t : Tm} {b : List Int} (h : DT w B C t b) (hp : Past c w w') (hc : c < B ∨ C ≤ c) : DT w' B C t b := h.keep hp.size (fun d h1 h2 => hp.block d (Nat.lt_of_lt_of_le h2 h.le) (by omega))
theorem DT.below {w w' : World} {B C : Nat} {t : Tm} {b : List Int} (h : DT w B C t b) (hb : Below w.heap.size w w') : DT w' B C t b := h.keep hb.size (fun d _ h2 => hb.block d (Nat.lt_of_lt_of_le h2 h.le))
theorem DT.mono {w : World} {B B' C C' : Nat} {t : Tm} {b : List Int} (h : DT w B C t b) (hB : B' ≤ B) (hC : C ≤ C') (hw : C' ≤ w.heap.size) : DT w B' C' t b :=
  ⟨h.fit, h.len, h.bs, by
    rcases h.at_ with h0 | ⟨g, ea, h1, h2⟩
    · exact .inl h0
    · exact .inr ⟨g, ea, by omega, by omega⟩, hw⟩
end Go.Proofs.YtoclingolfdfeaaGreatDoor

/- GdrB -/
namespace Go.Proofs.YtoclingolfdfeaaGreatDoor
open Go.RowKit Go.Deep
set_option maxRecDepth 100000

theorem Cur.set_new {w : World} {g : Nat} {a : Option Addr} {len cap : Nat} (h : Cur w g a len cap) {c : Nat} (hc : c ≠ g) (hcode : len = 0 ∨ ∀ p, a = some p → p.block ≠ c) (i : Nat) (v : Value) : Cur (w.setCell ⟨c, i, none⟩ v) g a len cap := by
  have e : ∀ j, (w.setCell ⟨c, i, none⟩ v).cell? ⟨g, j, none⟩ = w.cell? ⟨g, j, none⟩ := fun j => World.cell?_of_block (Below.heap_setCell _ _ _ _ (fun h => hc h.symm))
  have f : ∀ j, (w.setCell ⟨c, i, none⟩ v).frozen? ⟨g, j, none⟩ = w.frozen? ⟨g, j, none⟩ := fun j => World.frozen?_setCell _ _ _ _
  refine ⟨by simpa using h.lt, (e 0).trans h.c0, ?_, ?_, (f 1).trans h.f1, (f 2).trans h.f2, ?_⟩
  · obtain ⟨k, hk, hc1⟩ := h.c1
    exact ⟨k, hk, (e 1).trans hc1⟩
  · obtain ⟨k, hc2⟩ := h.c2
    exact ⟨k, (e 2).trans hc2⟩
  · rcases h.code with h0 | ⟨b, off, ea, hb, hbg, hx⟩
    · exact .inl h0
    · rcases hcode with h0 | hne
      · exact .inl h0
      · refine .inr ⟨b, off, ea, by simpa using hb, hbg, fun j hj => ?_⟩
        rw [World.cell?_of_block (w := w) (a := ⟨b, off + j, none⟩) (Below.heap_setCell _ _ _ _ (hne _ ea))]
        exact hx j hj
end Go.Proofs.YtoclingolfdfeaaGreatDoor

/- GdrD -/
namespace Go.Proofs.YtoclingolfdfeaaGreatDoor
open Go.RowKit Go.Deep
set_option maxRecDepth 100000

/-- What the model's comparison answers of any two terms with small scales. -/
def cmpW (t t' : Tm) (b b' : List Int) : Int :=
  if t.k = t'.k then (if t.k = 1 then sideI (decide (t.n < t'.n)) (decide (t.n > t'.n)) else if t.k = 3 then cmpN t.n t.s.toNat t'.n t'.s.toNat else cmpB b b') else sideI (decide (t.k < t'.k)) true
def w3 (t u v t' u' v' : Tm) (bt bu bv bt' bu' bv' : List Int) : Int := cmp3 (cmpW t t' bt bt') (cmpW u u' bu bu') (cmpW v v' bv bv')
end Go.Proofs.YtoclingolfdfeaaGreatDoor

/- GdrE -/
namespace Go.Proofs.YtoclingolfdfeaaGreatDoor
open Go.RowKit Go.Deep
set_option maxRecDepth 100000

/-- A triple with its texts. -/
structure G1 where
  t : Tm
  u : Tm
  v : Tm
  bt : List Int
  bu : List Int
  bv : List Int
def eG (x : G1) : List Value := e12 x.t x.u x.v
theorem eG_len (x : G1) : (eG x).length = 12 := rfl
def flatG (l : List G1) : List Value := l.flatMap eG
theorem flatG_len (l : List G1) : (flatG l).length = l.length * 12 := flatMap_len eG 12 eG_len l
theorem flatG_append (l m : List G1) : flatG (l ++ m) = flatG l ++ flatG m := by simp [flatG]
theorem flatG_get (l : List G1) (i c : Nat) (hi : i < l.length) (hc : c < 12) : (flatG l)[i * 12 + c]? = (eG l[i])[c]? := flatMap_get eG 12 eG_len l i c hi hc
theorem flatG_one (l : List G1) : ∀ u ∈ flatG l, u.oneCell' = true := by
  intro u hu
  obtain ⟨x, _, hx⟩ := List.mem_flatMap.1 hu
  simp only [eG, e12, List.mem_cons, List.not_mem_nil, or_false] at hx
  rcases hx with rfl | rfl | rfl | rfl | rfl | rfl | rfl | rfl | rfl | rfl | rfl | rfl <;> rfl
/-- A row of triples of the call's own, or none as yet. -/
def OwnG (w : World) (B : Nat) (v : Value) (l : List G1) : Prop := w.ownsRow B 36 12 v l.length (flatG l) ∧ ∀ g, v.ownBlock = some g → B ≤ g ∧ g < w.heap.size
theorem OwnG.nil (w : World) (B : Nat) : OwnG w B (.slice none 0 0) [] := ⟨World.ownsRow_nil _ _ _ _, fun g h => by cases h⟩
theorem OwnG.past {w w' : World} {B g : Nat} {v : Value} {l : List G1} (h : OwnG w B v l) (hp : Past g w w') (hg : g < B) : OwnG w' B v l := by
  obtain ⟨⟨h1, h2⟩, hl⟩ := h
  refine ⟨⟨h1, ?_⟩, fun c hc => ⟨(hl c hc).1, Nat.lt_of_lt_of_le (hl c hc).2 hp.size⟩⟩
  rcases h2 with h2 | ⟨g', cap', cur, hv, hB, hh, r⟩
  · exact .inl h2
  · refine .inr ⟨g', cap', cur, hv, hB, ?_, r⟩
    rw [hp.block g' (hl g' (by rw [hv]; rfl)).2 (by omega)]
    exact hh
theorem OwnG.below {w w' : World} {B : Nat} {v : Value} {l : List G1} (h : OwnG w B v l) (hb : Below w.heap.size w w') : OwnG w' B v l := by
  obtain ⟨⟨h1, h2⟩, hl⟩ := h
  refine ⟨⟨h1, ?_⟩, fun c hc => ⟨(hl c hc).1, Nat.lt_of_lt_of_le (hl c hc).2 hb.size⟩⟩
  rcases h2 with h2 | ⟨g', cap', cur, hv, hB, hh, r⟩
  · exact .inl h2
  · refine .inr ⟨g', cap', cur, hv, hB, ?_, r⟩
    rw [hb.block g' (hl g' (by rw [hv]; rfl)).2]
    exact hh
theorem OwnG.base {w : World} {B B' : Nat} {v : Value} {l : List G1} (h : OwnG w B' v l) (hB : B ≤ B') : OwnG w B v l := by
  obtain ⟨⟨h1, h2⟩, hl⟩ := h
  refine ⟨⟨h1, ?_⟩, fun c hc => ⟨Nat.le_trans hB (hl c hc).1, (hl c hc).2⟩⟩
  rcases h2 with h2 | ⟨g', cap', cur, hv, hb, r⟩
  · exact .inl h2
  · exact .inr ⟨g', cap', cur, hv, Nat.le_trans hB hb, r⟩
/-- Its form: nil, or a block whose cells are the triples'. -/
theorem OwnG.form {w : World} {B : Nat} {v : Value} {l : List G1} (h : OwnG w B v l) : (v = .slice none 0 0 ∧ l = []) ∨ ∃ g cap, v = .slice (some ⟨g, 0, none⟩) l.length cap ∧ B ≤ g ∧ g < w.heap.size ∧ l.length ≤ cap ∧ ∀ j u, (flatG l)[j]? = some u → w.cell? ⟨g, j, none⟩ = some u := by
  rcases h.1.2 with ⟨hv, h0⟩ | ⟨g, cap, cur, hv, hB, hh, hle, _, hsz, htk⟩
  · exact .inl ⟨hv, List.eq_nil_of_length_eq_zero h0⟩
  · refine .inr ⟨g, cap, hv, hB, (h.2 g (by rw [hv]; rfl)).2, hle, fun j u hu => ?_⟩
    have hj := (List.getElem?_eq_some_iff.1 hu).1
    rw [flatG_len] at hj
    rw [← htk, List.getElem?_take, if_pos hj] at hu
    simp only [World.cell?, hh]
    simpa using hu
theorem Tryz.infoG36 : (Tryz.prog.info? 36).map (fun i => (i.zero, i.size, i.bytes)) = some (some (.agg #[.int .i64 0, .slice none 0 0, .int .i64 0, .int .i64 0, .int .i64 0, .slice none 0 0, .int .i64 0, .int .i64 0, .int .i64 0, .slice none 0 0, .int .i64 0, .int .i64 0]), 12, 144) := by kernel_rfl
/-- append of triples to a row of the call's own. -/
theorem appGs {ops : Array Oper} {rest : List Oper} {o : Oper} {a : Act} {Q : Exit → Act → World → Prop} {w : World} (hgd : o.guard = none) (s x : Operand)
    (ho : o.op = .call { callee := .builtin .append, args := #[s, x], argTypes := #[28, 28] })
    (B : Nat) (v : Value) (us : List G1) (hs : a.eval s = v) (HO : Hid (OwnG w B v us))
    (ad : Addr) (m c : Nat) (bs : List G1) (hx : a.eval x = .slice (some ad) m c) (hl : bs.length = m) (HN : Hid (∀ j u, (flatG bs)[j]? = some u → w.cell? (ad.add j) = some u))
    (hm : 0 < m) (N : Nat) (hN : us.length + m = N) (zs : List G1) (hz : us ++ bs = zs) (hle : N ≤ 1000000000) (hB : B ≤ w.heap.size)
    (h : ∀ g cap w', Hid (OwnG w' B (.slice (some ⟨g, 0, none⟩) N cap) zs) → Hid (w.grownBy w' v.ownBlock) → Hid (Below B w w') → wpList Tryz.prog ops Q rest (a.put o.dst (.slice (some ⟨g, 0, none⟩) N cap)) w') :
    wpList Tryz.prog ops Q (o :: rest) a w := by
  obtain ⟨i0, hi0, hzz⟩ := Option.map_eq_some_iff.1 Tryz.infoG36
  simp only [Prod.mk.injEq] at hzz
  obtain ⟨hi2, hi1, hi3⟩ := hzz
  subst hN hz
  refine wpList_append_lies _ hgd s x 28 ho B 36 i0 _ 12 144 Tryz.underlying28 hi0 hi2 hi1 hi3 rfl (by omega) v us.length (flatG us) hs HO.out.1 ad m c (flatG bs) hx (by rw [flatG_len, hl]) HN.out (flatG_one bs) hm (by unfold maxLen; omega) (by omega) hB _ rfl ?_
  intro g cap w' hown hgr hat hlt
  have hown' : w'.ownsRow B 36 12 (.slice (some ⟨g, 0, none⟩) (us.length + m) cap) (us ++ bs).length (flatG (us ++ bs)) := by
    rw [flatG_append, List.length_append, hl]
    exact hown
  refine h g cap w' ⟨hown', fun g' hg' => ?_⟩ hgr ?_
  · have : g = g' := by simpa [Value.ownBlock] using hg'
    subst this
    rcases hown.2 with ⟨hv, _⟩ | ⟨g0, c0, cur, hv, hb, _⟩
    · cases hv
    · cases hv; exact ⟨hb, hlt⟩
  · rcases HO.out.1.2 with ⟨hv, _⟩ | ⟨g0, c0, cur, hv, hb, _⟩
    · subst hv
      exact ⟨hgr.os, hgr.tape, hgr.output, hgr.size, fun b hb => hgr.block b (by omega) (by simp [Value.ownBlock])⟩
    · subst hv
      exact ⟨hgr.os, hgr.tape, hgr.output, hgr.size, fun b hb' => hgr.block b (by omega) (by intro e; have : b = g0 := (by simpa [Value.ownBlock] using e); omega)⟩
end Go.Proofs.YtoclingolfdfeaaGreatDoor

/- DrwE -/
namespace Go.Proofs.YtoclingolfdfeaaGreatDoor
open Go.RowKit Go.Deep

/-- A term's parts, with its text's place. -/
structure Tq where
  k : Int
  a : Option Addr
  len : Nat
  cap : Nat
  bs : List Int
  n : Int
  s : Int
/-- Its numbers are of 64 bits, its text is there. -/
def Tq.at (t : Tq) (w : World) : Prop := (-9223372036854775808 ≤ t.n ∧ t.n ≤ 9223372036854775807) ∧ (-9223372036854775808 ≤ t.s ∧ t.s ≤ 9223372036854775807) ∧ Bs w t.a t.len t.bs
theorem Tq.at.below {t : Tq} {w w' : World} (h : t.at w) (hb : Below w.heap.size w w') : t.at w' := ⟨h.1, h.2.1, h.2.2.below hb⟩

/-- What a drawn term is. -/
def OneRes (w : World) (e : Ending) (w' : World) : Prop := ∃ t : Tq, e = .returned (.agg #[.int .i64 t.k, .slice t.a t.len t.cap, .int .i64 t.n, .int .i64 t.s]) ∧ t.at w' ∧ Below w.heap.size w w'
theorem DrawShow_any (a : Option Addr) (len cap : Nat) (w : World) (hlen : len ≤ 9223372036854775807) (hC : Code w a len) :
    Calls Tryz.prog 6 #[.slice a len cap] w fun e w' => OneRes w e w' := by
  have NW := fun w h => l1New_any a len cap w hlen h
  have HC : Hid (∀ o, Code (w.alloc o) a len) := fun o => by
    rcases hC with h | ⟨b, off, ha, hlt, hc⟩
    · exact .inl h
    · refine .inr ⟨b, off, ha, by simp; omega, fun i hi => ?_⟩
      rw [(bl_a (w := w) o).cell (p := ⟨b, off + i, none⟩) hlt]
      exact hc i hi
  clear hC
  go_enter Tryz.func6, Tryz.ntmps6
  go_wp2_with fail
  refine (NW _ (HC.out _)).mono ?_
  rintro e w1 ⟨rfl, hb1, hC1⟩
  have hR1 := (Own4.at w w.heap.size (.int .i64 0) (.slice none 0 0) (.int .i64 0) (.int .i64 0) 24 rfl).below hb1
  have hs1 := hb1.size
  simp at hs1 hC1
  have hw1 := bl_trans (bl_a _) hb1
  clear hb1 NW HC
  go_wp2_with fail
  refine (l1bent_any _ a len cap _ hlen hC1).mono ?_
  rintro e w2 ⟨⟨k, n, s, ta, tl, tc, bs, rfl, hn, hsc, htl, hT⟩, hP2, hC2⟩
  have hR2 := hR1.past hP2 (by omega)
  have hw2 : Below w.heap.size w w2 := hw1.trans (hP2.below (by omega) hw1.size)
  have HT : Hid (BTx w2 w1.heap.size ta tl bs) := hT
  have HW : Hid (Below w.heap.size w w2) := hw2
  obtain ⟨⟨o0, o1, o2, o3, o4⟩, f0, f1, f2, f3⟩ := id hR2
  clear hT hP2 hC2 hC1 hR1 hR2 hw1 hw2
  go_wp2
  refine bodyPost_ret (v := .agg #[.int .i64 k, .slice ta tl tc, .int .i64 n, .int .i64 s]) (by simp [results, Tryz.results6, go_sem, *]) rfl ⟨⟨k, ta, tl, tc, bs, n, s⟩, rfl, ⟨hn, hsc, ?_⟩, ?_⟩
  · exact (HT.out.past (((((Past.refl w.heap.size w2).set 0 _).set 1 _).set 2 _).set 3 _) (by omega)).1
  · exact bl_set (bl_set (bl_set (bl_set HW.out (Nat.le_refl _) _) (Nat.le_refl _) _) (Nat.le_refl _) _) (Nat.le_refl _) _

end Go.Proofs.YtoclingolfdfeaaGreatDoor

/- OpnC -/
namespace Go.Proofs.YtoclingolfdfeaaGreatDoor
open Go.ChangeShapes Go.WideShapes Go.ChangeAt Go.RowKit Go.Joins

set_option maxRecDepth 100000 in
theorem open_code {H : Type} {enc : TypeId × Value → H} {W : World} {b0 : Nat} {v : Value} {d : DataW H} {p : List MemPlace}
    (hv : Value.okWide Tryz.prog W .any b0 22 v) (h : DataW.Trod enc Tryz.prog W 0 (fun _ => true) true 22 v d p) :
    ∃ (a : Option Addr) (len cap : Nat), v = .slice a len cap ∧ len ≤ 9223372036854775807 ∧ Code W a len := by
  obtain ⟨a1, len, cap, rfl⟩ := okWide_slice Tryz.underlying22 hv
  obtain ⟨fuel, hf⟩ := h
  refine ⟨a1, len, cap, rfl, ?_⟩
  rcases open_ints Tryz.underlying22 Tryz.underlying5 Tryz.cells5 hf with ⟨hcs, _⟩ | ⟨x, l, c, zs, hcs, _, hl, hm, hz, _, hcell, hwz⟩
  · simp [Value.cells] at hcs
    obtain ⟨rfl, rfl, rfl⟩ := hcs
    exact ⟨by omega, .inl rfl⟩
  · simp [Value.cells] at hcs
    obtain ⟨rfl, rfl, rfl⟩ := hcs
    simp only [if_true] at hz
    refine ⟨by unfold maxLen at hm; omega, ?_⟩
    by_cases h0 : len = 0
    · exact .inl h0
    right
    obtain ⟨b, off, spot⟩ := x
    have hc0 := hcell 0 (by omega)
    have hspot : spot = none := by simpa [Addr.add] using World.cell?_spot hc0
    subst hspot
    refine ⟨b, off, rfl, by simpa [Addr.add] using cell_lt hc0, fun i hi => ?_⟩
    have h := hcell i (by omega)
    have ea : (⟨b, off, none⟩ : Addr).add i = ⟨b, off + i, none⟩ := by
      by_cases h0 : i = 0 <;> simp [Addr.add, h0]
    rw [ea] at h
    have hil : i < zs.length := by omega
    have hb := bounds_u8 (hwz _ (List.getElem_mem hil))
    refine ⟨zs[i], ?_, hb.1, hb.2⟩
    rw [h, List.getD_eq_getElem?_getD, List.getElem?_eq_getElem hil]
    rfl
end Go.Proofs.YtoclingolfdfeaaGreatDoor

/- RdC -/
namespace Go.Proofs.YtoclingolfdfeaaGreatDoor
open Go.RowKit Go.Deep
set_option maxRecDepth 100000

/-- What a text says, between its signs. -/
def unq : Bool → List Int → List Int
  | _, [] => []
  | true, b :: r => b :: unq false r
  | false, [_] => []
  | false, b :: c :: r => if b = 92 then unq true (c :: r) else b :: unq false (c :: r)
theorem unq_esc (tx : List Int) : unq false (esc tx ++ [34]) = tx := by
  induction tx with
  | nil => rfl
  | cons b tx ih =>
    have e : esc (b :: tx) = (if b = 34 ∨ b = 92 then [92, b] else [b]) ++ esc tx := rfl
    obtain ⟨c, r, hc⟩ : ∃ c r, esc tx ++ [34] = c :: r := by
      cases h : esc tx with
      | nil => exact ⟨34, [], rfl⟩
      | cons c r => exact ⟨c, r ++ [34], rfl⟩
    rw [e]
    split
    · simp only [List.cons_append, List.nil_append]
      rw [unq, if_pos rfl, unq, ih]
    · rename_i h
      simp only [List.cons_append, List.nil_append]
      rw [hc, unq, if_neg (by omega), ← hc, ih]
theorem unq_byt : ∀ (l : List Int) (f : Bool), Byt l → Byt (unq f l)
  | [], f, _ => by cases f <;> exact Byt.nil
  | b :: r, true, h => Byt.cons (h b (List.mem_cons_self ..)) (unq_byt r false fun x hx => h x (List.mem_cons_of_mem _ hx))
  | [_], false, _ => Byt.nil
  | b :: c :: r, false, h => by
    rw [unq]
    split
    · exact unq_byt (c :: r) true fun x hx => h x (List.mem_cons_of_mem _ hx)
    · exact Byt.cons (h b (List.mem_cons_self ..)) (unq_byt (c :: r) false fun x hx => h x (List.mem_cons_of_mem _ hx))
theorem unq_len : ∀ (l : List Int) (f : Bool), (unq f l).length ≤ l.length
  | [], f => by cases f <;> simp [unq]
  | b :: r, true => by have := unq_len r false; simp [unq]; omega
  | [_], false => by simp [unq]
  | b :: c :: r, false => by
    have h1 := unq_len (c :: r) true
    have h2 := unq_len (c :: r) false
    rw [unq]
    split <;> simp at * <;> omega
theorem nums_byt (s : ByteArray) : Byt (numsOf s) := by
  intro x hx
  simp only [numsOf, List.mem_map] at hx
  obtain ⟨b, _, rfl⟩ := hx
  have := b.toNat_lt
  omega

/-- A row of bytes that may not be there yet. -/
def OwnB (w : World) (B : Nat) (v : Value) (bs : List Int) : Prop := w.ownsRow B 5 1 v bs.length (bs.map (Value.int .u8)) ∧ ((v = .slice none 0 0 ∧ bs = []) ∨ ∃ g cap, v = .slice (some ⟨g, 0, none⟩) bs.length cap ∧ Row8 w B g bs.length cap bs)
theorem OwnB.nil (w : World) (B : Nat) : OwnB w B (.slice none 0 0) [] := ⟨World.ownsRow_nil _ _ _ _, .inl ⟨rfl, rfl⟩⟩
theorem OwnB.of {w : World} {B g n cap : Nat} {bs : List Int} (h : Row8 w B g n cap bs) : OwnB w B (.slice (some ⟨g, 0, none⟩) n cap) bs := by
  have e := h.len
  subst e
  exact ⟨h.1, .inr ⟨g, cap, rfl, h⟩⟩
theorem OwnB.below {w w' : World} {B : Nat} {v : Value} {bs : List Int} (h : OwnB w B v bs) (hb : Below w.heap.size w w') : OwnB w' B v bs := by
  rcases h.2 with ⟨rfl, rfl⟩ | ⟨g, cap, rfl, hr⟩
  · exact OwnB.nil _ _
  · exact OwnB.of (hr.below hb)
theorem OwnB.tx {w w0 : World} {v : Value} {bs : List Int} (h : OwnB w w0.heap.size v bs) (hy : Byt bs) (hl : bs.length ≤ 1048576) (hb : Below w0.heap.size w0 w) : TxRes w0 bs (.returned v) w := by
  rcases h.2 with ⟨rfl, rfl⟩ | ⟨g, cap, rfl, hr⟩
  · exact ⟨none, 0, rfl, Nw.nil _ _, hb⟩
  · exact ⟨_, cap, rfl, hr.nw hy hl, hb⟩

set_option maxHeartbeats 1000000 in
theorem unquoted_any (s : ByteArray) (w : World) (h1 : 1 ≤ s.size) (hs : s.size ≤ 1048576) :
    Calls Tryz.prog 143 #[.string s] w fun e w' => TxRes w (unq false ((numsOf s).drop 1)) e w' := by
  have HY : Hid (Byt (unq false ((numsOf s).drop 1))) := unq_byt _ _ fun x hx => nums_byt s x (List.mem_of_mem_drop hx)
  have hL := unq_len ((numsOf s).drop 1) false
  rw [List.length_drop, numsOf_len] at hL
  generalize hE : unq false ((numsOf s).drop 1) = E at *
  have HE : Hid (unq false ((numsOf s).drop 1) = E) := hE
  have HL : Hid (E.length ≤ 1048576) := by show _ ≤ _; omega
  clear hE hL
  go_enter Tryz.func143, Tryz.ntmps143
  go_wp2_with fail
  go_loopw [3, 4] (fun x i wr => ∃ (k : Nat) (p : List Int) (a : Option Addr) (cap : Nat), 1 ≤ k ∧ k ≤ s.size ∧ i = .int .i64 k ∧ x = .slice a p.length cap ∧ p.length ≤ k ∧ Hid (OwnB wr w.heap.size (.slice a p.length cap) p) ∧ p ++ unq false ((numsOf s).drop k) = E ∧ Hid (Below w.heap.size w wr))
    (fun _ i _ => s.size - (intOf i).toNat)
  case atStart => exact ⟨1, [], none, 0, by omega, h1, rfl, rfl, by simp, OwnB.nil _ _, HE.out, Below.refl _ _⟩
  case round =>
    obtain ⟨k, p, a, cap, hk1, hk, rfl, rfl, hp, HO, hH, HB⟩ := hrel
    have HH : Hid (p ++ unq false ((numsOf s).drop k) = E) := hH
    clear hH HE
    by_cases hlt : k < s.size - 1
    · have HD : Hid ((numsOf s).drop k = ((s[k].toNat : Nat) : Int) :: (numsOf s).drop (k + 1)) := nums_drop s k (by omega)
      have HD2 : Hid ((numsOf s).drop (k + 1) = ((s[k + 1].toNat : Nat) : Int) :: (numsOf s).drop (k + 1 + 1)) := nums_drop s (k + 1) (by omega)
      have hlt1 : k < s.size := by omega
      have hlt2 : k + 1 < s.size := by omega
      have hb1 : (k : Int) < (s.size : Int) - 1 := by omega
      obtain ⟨n, hn⟩ : ∃ n, n = p.length := ⟨_, rfl⟩
      have HN : Hid (p.length = n) := hn.symm
      rw [← hn] at HO hp ⊢
      have HRx : ∀ y : Int, Hid ((wr.alloc (.cells #[.int .u8 y] 5)).ownsRow w.heap.size 5 1 (.slice a n cap) n (p.map (Value.int .u8))) := fun y => by
        have := (HO.out.below (bl_a (.cells #[.int .u8 y] 5))).1
        rw [HN.out] at this
        exact this
      have HBx : ∀ y : Int, Hid (Below w.heap.size w (wr.alloc (.cells #[.int .u8 y] 5))) := fun y => bl_alloc HB.out _
      clear hn HO
      generalize hx : ((s[k].toNat : Nat) : Int) = x at *
      by_cases h92 : x = 92
      · subst h92
        generalize hy : ((s[k + 1].toNat : Nat) : Int) = y at *
        go_wp2_with (refine app8 rfl (.tmp 18) (.tmp 22) rfl w.heap.size _ n p rfl (HRx _) ⟨wr.heap.size, 0, none⟩ 1 _ [y] rfl rfl (one_news wr y) (by omega) (n + 1) rfl _ rfl (by omega) (HBx y).out.size ?_; intro g3 cap3 w3 HR3 HG3 HA3 HW3)
        go_roundw
        case rel =>
          refine ⟨k + 2, p ++ [y], some ⟨g3, 0, none⟩, cap3, by omega, by omega, by go_num, ?_, ?_, ?_, ?_, ?_⟩
          · rw [List.length_append, HN.out]; rfl
          · have := HN.out; rw [List.length_append]; simp; omega
          · have := OwnB.of HR3.out; rw [List.length_append, HN.out]; exact this
          · have e := HH.out; rw [HD.out, HD2.out, unq, if_pos rfl, unq] at e; rw [← e]; simp
          · exact (HBx y).out.trans HW3.out
        case measure => simp [intOf]; omega
      · have h92' : (x == 92) = false := by simp [h92]
        go_wp2_with (refine app8 rfl (.tmp 18) (.tmp 22) rfl w.heap.size _ n p rfl (HRx _) ⟨wr.heap.size, 0, none⟩ 1 _ [x] rfl rfl (one_news wr x) (by omega) (n + 1) rfl _ rfl (by omega) (HBx x).out.size ?_; intro g3 cap3 w3 HR3 HG3 HA3 HW3)
        go_roundw
        case rel =>
          refine ⟨k + 1, p ++ [x], some ⟨g3, 0, none⟩, cap3, by omega, by omega, by go_num, ?_, ?_, ?_, ?_, ?_⟩
          · rw [List.length_append, HN.out]; rfl
          · have := HN.out; rw [List.length_append]; simp; omega
          · have := OwnB.of HR3.out; rw [List.length_append, HN.out]; exact this
          · have e := HH.out; rw [HD.out, HD2.out, unq, if_neg h92, ← HD2.out] at e; rw [← e]; simp
          · exact (HBx x).out.trans HW3.out
        case measure => simp [intOf]; omega
    · have e : unq false ((numsOf s).drop k) = [] := by
        by_cases h2 : k < s.size
        · rw [nums_drop s k h2, nums_end s (k + 1) (by omega), unq]
        · rw [nums_end s k h2, unq]
      have e2 := HH.out
      rw [e, List.append_nil] at e2
      subst e2
      have hb1 : ¬ (k : Int) < (s.size : Int) - 1 := by omega
      clear HH e
      go_wp2_with fail
      go_ret
      exact HO.out.tx HY.out HL.out HB.out
end Go.Proofs.YtoclingolfdfeaaGreatDoor

/- RdD -/
namespace Go.Proofs.YtoclingolfdfeaaGreatDoor
open Go.RowKit Go.Deep
set_option maxRecDepth 100000

def numsU (l : List UInt8) : List Int := l.map (fun b => (b.toNat : Int))
theorem numsOf_u (s : ByteArray) : numsOf s = numsU s.data.toList := rfl
theorem numsU_46 (b : UInt8) : (b == 46) = decide ((b.toNat : Int) = 46) := by
  rw [Bool.eq_iff_iff, beq_iff_eq, decide_eq_true_eq]
  constructor
  · rintro rfl; rfl
  · intro h
    apply UInt8.toNat_inj.1
    have : b.toNat = 46 := by omega
    rw [this]
    rfl
theorem index_cut (l : List UInt8) : (Lib.indexByte l 46 = -1 ∧ cutDot (numsU l) = (numsU l, [])) ∨ ∃ i : Nat, Lib.indexByte l 46 = i ∧ i < l.length ∧ cutDot (numsU l) = ((numsU l).take i, (numsU l).drop (i + 1)) := by
  induction l with
  | nil => exact .inl ⟨rfl, rfl⟩
  | cons b l ih =>
    have eN : numsU (b :: l) = (b.toNat : Int) :: numsU l := rfl
    rw [Lib.indexByte, numsU_46, eN, cutDot]
    by_cases hb : (b.toNat : Int) = 46
    · right
      refine ⟨0, by simp [hb], by simp, by simp [hb]⟩
    · rw [if_neg hb]
      rcases ih with ⟨h1, h2⟩ | ⟨i, h1, h2, h3⟩
      · left
        refine ⟨by simp [hb, h1], by rw [h2]⟩
      · right
        refine ⟨i + 1, ?_, by simp; omega, by rw [h3]; rfl⟩
        have hne : ((i : Int) == -1) = false := by simp
        rw [h1]
        simp [hb, hne]
def CutRes (s : ByteArray) (w : World) (e : Ending) (w' : World) : Prop := ∃ a b q, e = .returned (.tuple #[.string a, .string b, .bool q]) ∧ numsOf a = (cutDot (numsOf s)).1 ∧ numsOf b = (cutDot (numsOf s)).2 ∧ Below w.heap.size w w'
theorem cut1_any (s : ByteArray) (w : World) (hs : s.size ≤ 1048576) :
    Calls Tryz.prog 174 #[.string s, .string ⟨#[46]⟩] w (CutRes s w) := by
  have I := Tryz.stringslite_Index_one s 46
  have HC := index_cut s.data.toList
  have hm : (Tryz.prog).follows .mixedOrders = true := by kernel_rfl
  generalize Lib.indexByte s.data.toList 46 = ix at *
  rcases HC with ⟨rfl, h2⟩ | ⟨i, rfl, h2, h3⟩
  · have HC : Hid (cutDot (numsOf s) = (numsOf s, [])) := h2
    clear h2
    go_enter Tryz.func174, Tryz.ntmps174
    go_wp2_with (first | (go_at_call 178; refine (I _).mono ?_; rintro e w1 ⟨rfl, rfl⟩))
    refine bodyPost_ret (v := .tuple #[.string s, .string ⟨#[]⟩, .bool false]) (by simp [results, Tryz.results174, go_sem]) rfl ?_
    refine ⟨s, ⟨#[]⟩, false, rfl, ?_, ?_, Below.refl _ _⟩
    · rw [HC.out]
    · rw [HC.out]; rfl
  · have HC : Hid (cutDot (numsOf s) = ((numsOf s).take i, (numsOf s).drop (i + 1))) := h3
    have hi : i < s.size := by simpa using h2
    clear h2 h3
    go_enter Tryz.func174, Tryz.ntmps174
    go_wp2_with (first | (go_at_call 178; refine (I _).mono ?_; rintro e w1 ⟨rfl, rfl⟩))
    go_quiet (fail)
    all_goals go_wp2_with fail
    refine bodyPost_ret (v := .tuple #[.string (s.extract 0 i), .string (s.extract (i + 1) s.size), .bool true]) (by simp [results, Tryz.results174, go_sem]) rfl ?_
    refine ⟨_, _, true, rfl, ?_, ?_, below_drewN (Below.refl _ _) _⟩
    · rw [HC.out, nums_extract]; simp
    · rw [HC.out, nums_extract, List.take_of_length_le]
      rw [List.length_drop, numsOf_len]
      omega
theorem cut_any (s : ByteArray) (w : World) (hs : s.size ≤ 1048576) :
    Calls Tryz.prog 165 #[.string s, .string ⟨#[46]⟩] w (CutRes s w) := by
  go_enter Tryz.func165, Tryz.ntmps165
  go_wp2_with fail
  refine (cut1_any s _ hs).mono ?_
  rintro e w1 ⟨a, b, q, rfl, h1, h2, h3⟩
  have H1 : Hid (numsOf a = (cutDot (numsOf s)).1) := h1
  have H2 : Hid (numsOf b = (cutDot (numsOf s)).2) := h2
  have H3 : Hid (Below w.heap.size w w1) := h3
  clear h1 h2 h3
  go_wp2_with fail
  refine bodyPost_ret (v := .tuple #[.string a, .string b, .bool q]) (by simp [results, Tryz.results165, go_sem]) rfl ?_
  exact ⟨a, b, q, rfl, H1.out, H2.out, H3.out⟩

/-- The library's errors lie where they should. -/
def Errs (w : World) : Prop := 4 < w.heap.size ∧ 5 < w.heap.size ∧ (∃ t p, w.cell? ⟨4, 0, none⟩ = some (.iface t p)) ∧ ∃ t p, w.cell? ⟨5, 0, none⟩ = some (.iface t p)
theorem Errs.below {w w' : World} (h : Errs w) (hb : Below w.heap.size w w') : Errs w' := by
  obtain ⟨h1, h2, ⟨t, p, h3⟩, t', p', h4⟩ := h
  exact ⟨Nat.lt_of_lt_of_le h1 hb.size, Nat.lt_of_lt_of_le h2 hb.size, ⟨t, p, (hb.cell (p := ⟨4, 0, none⟩) h1).trans h3⟩, t', p', (hb.cell (p := ⟨5, 0, none⟩) h2).trans h4⟩
/-- What Atoi answers: a number and no error, or an error. -/
def AtoiRes (s : ByteArray) (w : World) (e : Ending) (w' : World) : Prop :=
  (∃ v, Lib.atoiAll s.data.toList = .ok v ∧ e = .returned (.tuple #[.int .i64 v, .nilIface]) ∧ Below w.heap.size w w') ∨ (∃ v t p, (∀ u, Lib.atoiAll s.data.toList ≠ .ok u) ∧ e = .returned (.tuple #[.int .i64 v, .iface t p]) ∧ Below w.heap.size w w')
theorem atoi_any (s : ByteArray) (w : World) (hs : s.size ≤ 1048576) (hE : Errs w) : Calls Tryz.prog 166 #[.string s] w (AtoiRes s w) := by
  obtain ⟨_, _, ⟨t1, p1, h3⟩, t2, p2, h4⟩ := hE
  cases h : Lib.atoiAll s.data.toList with
  | ok v =>
    refine (Tryz.strconv_Atoi_ok s (by omega) v h w).mono ?_
    rintro e w' ⟨rfl, rfl | ⟨t, rfl⟩⟩
    · exact .inl ⟨v, h, rfl, Below.refl _ _⟩
    · exact .inl ⟨v, h, rfl, bytesWorld_below _ _ _⟩
  | «syntax» =>
    refine (Tryz.strconv_Atoi_syntax s (by omega) h _ w h3 (.inr ⟨t1, p1, rfl⟩)).mono ?_
    rintro e w' ⟨N, rfl, _, _, hb⟩
    exact .inr ⟨_, _, _, fun u => by rw [h]; simp, rfl, hb⟩
  | range =>
    refine (Tryz.strconv_Atoi_range s (by omega) h _ w h4 (.inr ⟨t2, p2, rfl⟩)).mono ?_
    rintro e w' ⟨N, rfl, _, _, hb⟩
    exact .inr ⟨_, _, _, fun u => by rw [h]; simp, rfl, hb⟩

theorem parse_dig : ∀ (l : List UInt8) (acc : Nat), (∀ x ∈ numsU l, 48 ≤ x ∧ x ≤ 57) → acc * 10 ^ l.length + valL (numsU l) ≤ 9000000000000000000 → Lib.parseUint10 acc l = .ok (acc * 10 ^ l.length + valL (numsU l))
  | [], acc, _, _ => by simp [Lib.parseUint10, numsU, valL]
  | c :: r, acc, hd, hb => by
    have hc := hd (c.toNat : Int) (List.mem_cons_self ..)
    have e : acc * 10 ^ (c :: r).length + valL (numsU (c :: r)) = (acc * 10 + (c.toNat - 48)) * 10 ^ r.length + valL (numsU r) := by
      have e1 : valL (numsU (c :: r)) = (c.toNat - 48) * 10 ^ r.length + valL (numsU r) := by
        have := valL_append [(c.toNat : Int)] (numsU r)
        have e2 : numsU (c :: r) = [(c.toNat : Int)] ++ numsU r := rfl
        rw [e2, this]
        have e3 : valL [(c.toNat : Int)] = c.toNat - 48 := by simp [valL]; omega
        have e4 : (numsU r).length = r.length := by simp [numsU]
        rw [e3, e4]
      rw [e1, List.length_cons, Nat.pow_succ, Nat.add_mul, Nat.mul_assoc, Nat.mul_comm 10]
      omega
    rw [e] at hb ⊢
    have hp : 1 ≤ 10 ^ r.length := Nat.pow_pos (by omega)
    have hle : acc * 10 + (c.toNat - 48) ≤ (acc * 10 + (c.toNat - 48)) * 10 ^ r.length := Nat.le_mul_of_pos_right _ hp
    rw [Lib.parseUint10, if_pos (by omega), if_neg (by omega), if_neg (by omega), parse_dig r _ (fun x hx => hd x (List.mem_cons_of_mem _ hx)) hb]
theorem atoi_digits {l : List UInt8} {D : List Int} (hl : numsU l = D) (h0 : D ≠ []) (hd : ∀ x ∈ D, 48 ≤ x ∧ x ≤ 57) (hb : valL D ≤ 9000000000000000000) : Lib.atoiAll l = .ok (valL D : Nat) := by
  subst hl
  cases l with
  | nil => exact absurd rfl h0
  | cons c r =>
    have hc := hd (c.toNat : Int) (List.mem_cons_self ..)
    have hp := parse_dig (c :: r) 0 hd (by simpa using hb)
    have hn : ¬ (c.toNat = 43 ∨ c.toNat = 45) := by omega
    have hn2 : ¬ c.toNat = 45 := by omega
    have e : Lib.parseMag (c :: r) = .ok (valL (numsU (c :: r))) := by
      unfold Lib.parseMag
      rw [if_neg (by simp), hp]
      simp
    simp only [Lib.atoiAll]
    rw [if_neg hn, e]
    simp [hn2]
    omega
theorem atoi_minus {l : List UInt8} {D : List Int} (hl : numsU l = 45 :: D) (h0 : D ≠ []) (hd : ∀ x ∈ D, 48 ≤ x ∧ x ≤ 57) (hb : valL D ≤ 9000000000000000000) : Lib.atoiAll l = .ok (-(valL D : Nat)) := by
  cases l with
  | nil => simp [numsU] at hl
  | cons c r =>
    have e0 : (c.toNat : Int) = 45 ∧ numsU r = D := by simpa [numsU] using hl
    obtain ⟨hc, rfl⟩ := e0
    have hc : c.toNat = 45 := by omega
    have hr : r ≠ [] := fun e => h0 (by rw [e]; rfl)
    have hp := parse_dig r 0 hd (by simpa using hb)
    have e : Lib.parseMag r = .ok (valL (numsU r)) := by
      unfold Lib.parseMag
      rw [if_neg hr, hp]
      simp
    unfold Lib.atoiAll
    simp only [hc, or_true, if_true, e]
    simp
    omega
end Go.Proofs.YtoclingolfdfeaaGreatDoor

/- ShwI -/
namespace Go.Proofs.YtoclingolfdfeaaGreatDoor
open Go.RowKit Go.Deep
set_option maxRecDepth 100000

/-- The library's table of powers of ten lies as it is written. -/
def Tab (w : World) : Prop := Lib.TabIs Tryz.prog w "internal/strconv.uint64pow10" .u64 Lib.pow10Tab
theorem tab_lt {w : World} (h : Tab w) : ∃ g, Tryz.prog.globalNamed "internal/strconv.uint64pow10" = some g ∧ g < w.heap.size := by
  unfold Tab Lib.TabIs World.var? at h
  cases hg : Tryz.prog.globalNamed "internal/strconv.uint64pow10" with
  | none => rw [hg] at h; cases h
  | some g =>
    refine ⟨g, rfl, ?_⟩
    apply Classical.byContradiction
    intro hn
    rw [hg] at h
    simp only [Option.bind_some] at h
    rw [Array.getElem?_eq_none (by omega)] at h
    cases h
theorem Tab.below {w w' : World} (h : Tab w) (hb : Below w.heap.size w w') : Tab w' := by
  obtain ⟨g, hg, hlt⟩ := tab_lt h
  exact var?_below hb hg hlt h

theorem below_grow (w : World) (k : Nat) (os : Array Obj) : Below w.heap.size w (Go.Sort.grow (w.drewN k) os) := by
  have h0 : Below w.heap.size w (w.drewN k) := below_drewN (Below.refl _ _) k
  refine ⟨h0.os, h0.tape, h0.output, ?_, fun b hb => ?_⟩
  · simp
  · rw [Go.Sort.heap_grow_old _ _ (by simpa using hb)]
    exact h0.block b hb

theorem decDigits_nums (n : Nat) : (Lib.decDigits n).map (fun b => (b.toNat : Int)) = digitsL n := by
  induction n using Nat.strongRecOn with
  | ind n ih =>
    rw [Lib.decDigits]
    split
    · rename_i h
      rw [digitsL_small h]
      simp
      omega
    · rename_i h
      rw [digitsL_step h, List.map_append, ih (n / 10) (by omega)]
      simp
      omega

/-- What a text is told as. -/
def StrRes (w : World) (bs : List Int) (e : Ending) (w' : World) : Prop := ∃ s, e = .returned (.string s) ∧ numsOf s = bs ∧ Below w.heap.size w w'
theorem itoa_any (n : Int) (w : World) (h0 : 0 ≤ n) (h1 : n ≤ 9223372036854775807) (ht : Tab w) :
    Calls Tryz.prog 29 #[.int .i64 n] w fun e w' => StrRes w (digitsL n.toNat) e w' := by
  refine (Tryz.strconv_Itoa n (by omega) h1 w ht).mono ?_
  rintro e w' ⟨rfl, k, os, rfl⟩
  refine ⟨_, rfl, ?_, below_grow _ _ _⟩
  have hn : ¬ n < 0 := by omega
  simp only [numsOf, Lib.itoa, hn, if_false]
  exact decDigits_nums n.toNat

theorem repeatL_nums (c : Nat) : (Lib.repeatL [48] c).map (fun b : UInt8 => (b.toNat : Int)) = List.replicate c 48 := by
  induction c with
  | zero => rfl
  | succ c ih =>
    rw [Lib.repeatL, List.map_append, ih, List.replicate_succ]
    rfl
theorem repeat0_any (c : Nat) (w : World) (h : c ≤ 1000) :
    Calls Tryz.prog 65 #[.string ⟨#[48]⟩, .int .i64 c] w fun e w' => StrRes w (List.replicate c 48) e w' := by
  refine (Tryz.strings_Repeat ⟨#[48]⟩ c w (by omega) (by show 1 * c ≤ _; omega)).mono ?_
  rintro e w' ⟨rfl, hb⟩
  exact ⟨_, rfl, by simp only [numsOf]; exact repeatL_nums c, hb⟩

theorem size_pos (n : Int) (w : World) (h : 0 ≤ n) : Calls Tryz.prog 64 #[.int .i64 n] w fun e w' => e = .returned (.int .i64 n) ∧ w' = w := by
  go_enter Tryz.func64, Tryz.ntmps64
  go_wp2
  go_ret
  exact ⟨rfl, rfl⟩
theorem size_neg (n : Int) (w : World) (h : 0 < n) (h1 : n ≤ 9223372036854775807) : Calls Tryz.prog 64 #[.int .i64 (-n)] w fun e w' => e = .returned (.int .i64 n) ∧ w' = w := by
  go_enter Tryz.func64, Tryz.ntmps64
  go_wp2
  go_ret
  exact ⟨rfl, rfl⟩

/-- A box of two. -/
def At2 (w : World) (b : Nat) (v0 v1 : Value) : Prop := b < w.heap.size ∧ w.cell? ⟨b, 0, none⟩ = some v0 ∧ w.cell? ⟨b, 1, none⟩ = some v1
theorem At2.below {w w' : World} {b : Nat} {v0 v1 : Value} (h : At2 w b v0 v1) (hb : Below w.heap.size w w') : At2 w' b v0 v1 := by
  obtain ⟨hl, h0, h1⟩ := h
  exact ⟨Nat.lt_of_lt_of_le hl hb.size, (hb.cell (p := ⟨b, 0, none⟩) hl).trans h0, (hb.cell (p := ⟨b, 1, none⟩) hl).trans h1⟩
theorem At2.new (w : World) (v0 v1 : Value) (t : TypeId) : At2 (w.alloc (.cells #[v0, v1] t)) w.heap.size v0 v1 := by
  refine ⟨by simp, by simp [go_sem], by simp [go_sem]⟩

theorem p10_nat (s : Nat) : p10 s = ((10 ^ s : Nat) : Int) := by
  induction s with
  | zero => rfl
  | succ s ih =>
    rw [Nat.pow_succ]
    simp only [p10, ih]
    omega
theorem numsOf_nil : numsOf ⟨#[]⟩ = [] := rfl

set_option maxHeartbeats 1000000 in
theorem text_pos (n : Int) (s : Nat) (w : World) (hs : s ≤ 6) (hn : 0 ≤ n) (hn' : n ≤ 1000000000000000) (ht : Tab w) :
    Calls Tryz.prog 32 #[.agg #[.int .i64 n, .int .i64 s]] w fun e w' => StrRes w (numL n s) e w' := by
  have P := fun w => tenTo_any s w hs
  have hp := p10_pos s
  have hp6 := p10_le hs
  have d0 : 0 ≤ n / p10 s := Int.ediv_nonneg hn (by omega)
  have d1 : n / p10 s ≤ n := Int.ediv_le_self _ hn
  have m0 : 0 ≤ n % p10 s := Int.emod_nonneg _ (by omega)
  have m1 : n % p10 s < p10 s := Int.emod_lt_of_pos _ (by omega)
  have I1 := fun w ht => itoa_any (n / p10 s) w d0 (by omega) ht
  have I2 := fun w ht => itoa_any (n % p10 s) w m0 (by omega) ht
  have hL1 := digitsL_len 16 (n / p10 s).toNat (by omega)
  have hL2 : s ≠ 0 → (digitsL (n % p10 s).toNat).length ≤ s := fun h0 => by
    have := digitsL_len (s - 1) (n % p10 s).toNat (by have := p10_nat s; rw [show s - 1 + 1 = s by omega]; omega)
    omega
  have HA := At2.new w (.int .i64 n) (.int .i64 s) 52
  have HT : Hid (Tab (w.alloc (.cells #[.int .i64 n, .int .i64 s] 52))) := ht.below (bl_a _)
  have SZ := fun w => size_pos n w hn
  unfold numL
  generalize digitsL (n / p10 s).toNat = d at *
  generalize digitsL (n % p10 s).toNat = f at *
  go_enter Tryz.func32, Tryz.ntmps32
  go_wp2_with fail
  refine (P _).mono ?_
  rintro e w1 ⟨rfl, rfl⟩
  go_wp2_with fail
  refine (SZ _).mono ?_
  rintro e w1 ⟨rfl, rfl⟩
  go_wp2_with fail
  refine (I1 _ HT.out).mono ?_
  rintro e w2 ⟨s1, rfl, hs1, hb1⟩
  obtain ⟨ha0, ha1, ha2⟩ := HA.below hb1
  have HB2 : Hid (Below w.heap.size w w2) := bl_trans (bl_a _) hb1
  have HT2 : Hid (Tab w2) := HT.out.below hb1
  have HS1 : Hid (numsOf s1 = d) := hs1
  have hz1 : s1.size ≤ 17 := by rw [← numsOf_len, hs1]; omega
  clear hb1 hs1 HT HA I1 P
  by_cases hs0 : s = 0
  · go_wp2_with fail
    go_ret
    refine ⟨_, rfl, ?_, HB2.out⟩
    simp [HS1.out, numsOf_append, numsOf_nil]
  · go_wp2_with fail
    refine (SZ _).mono ?_
    rintro e w3 ⟨rfl, rfl⟩
    go_wp2_with fail
    refine (I2 _ HT2.out).mono ?_
    rintro e w4 ⟨s2, rfl, hs2, hb4⟩
    have ha4 := (hb4.cell (p := ⟨w.heap.size, 1, none⟩) ha0).trans ha2
    have HB4 : Hid (Below w.heap.size w w4) := bl_trans HB2.out hb4
    have hz : s2.size = f.length := by rw [← numsOf_len, hs2]
    have HS2 : Hid (numsOf s2 = f) := hs2
    clear hb4 hs2 I2 HT2 SZ
    have hf := hL2 hs0
    have R : ∀ c : Int, c = ((s - f.length : Nat) : Int) → ∀ w, Calls Tryz.prog 65 #[.string ⟨#[48]⟩, .int .i64 c] w fun e w' => StrRes w (List.replicate (s - f.length) 48) e w' := fun c hc w => by
      rw [hc]
      exact repeat0_any (s - f.length) w (by omega)
    go_wp2_with fail
    refine (R _ (by omega) _).mono ?_
    rintro e w5 ⟨s3, rfl, hs3, hb5⟩
    have hz3 : s3.size ≤ 6 := by rw [← numsOf_len, hs3]; simp; omega
    have HB5 : Hid (Below w.heap.size w w5) := bl_trans HB4.out hb5
    have HS3 : Hid (numsOf s3 = List.replicate (s - f.length) 48) := hs3
    clear hb5 hs3 R
    go_wp2_with fail
    go_ret
    refine ⟨_, rfl, ?_, HB5.out⟩
    simp only [numsOf_append, numsOf_nil, HS1.out, HS2.out, HS3.out]
    simp [numsOf]
set_option maxHeartbeats 1000000 in
theorem text_neg (n : Int) (s : Nat) (w : World) (hs : s ≤ 6) (hn1 : 0 < n) (hn' : n ≤ 1000000000000000) (ht : Tab w) :
    Calls Tryz.prog 32 #[.agg #[.int .i64 (-n), .int .i64 s]] w fun e w' => StrRes w (45 :: numL n s) e w' := by
  have hn : 0 ≤ n := by omega
  have P := fun w => tenTo_any s w hs
  have hp := p10_pos s
  have hp6 := p10_le hs
  have d0 : 0 ≤ n / p10 s := Int.ediv_nonneg hn (by omega)
  have d1 : n / p10 s ≤ n := Int.ediv_le_self _ hn
  have m0 : 0 ≤ n % p10 s := Int.emod_nonneg _ (by omega)
  have m1 : n % p10 s < p10 s := Int.emod_lt_of_pos _ (by omega)
  have I1 := fun w ht => itoa_any (n / p10 s) w d0 (by omega) ht
  have I2 := fun w ht => itoa_any (n % p10 s) w m0 (by omega) ht
  have hL1 := digitsL_len 16 (n / p10 s).toNat (by omega)
  have hL2 : s ≠ 0 → (digitsL (n % p10 s).toNat).length ≤ s := fun h0 => by
    have := digitsL_len (s - 1) (n % p10 s).toNat (by have := p10_nat s; rw [show s - 1 + 1 = s by omega]; omega)
    omega
  have HA := At2.new w (.int .i64 (-n)) (.int .i64 s) 52
  have HT : Hid (Tab (w.alloc (.cells #[.int .i64 (-n), .int .i64 s] 52))) := ht.below (bl_a _)
  have SZ := fun w => size_neg n w hn1 (by omega)
  unfold numL
  generalize digitsL (n / p10 s).toNat = d at *
  generalize digitsL (n % p10 s).toNat = f at *
  go_enter Tryz.func32, Tryz.ntmps32
  go_wp2_with fail
  refine (P _).mono ?_
  rintro e w1 ⟨rfl, rfl⟩
  go_wp2_with fail
  refine (SZ _).mono ?_
  rintro e w1 ⟨rfl, rfl⟩
  go_wp2_with fail
  refine (I1 _ HT.out).mono ?_
  rintro e w2 ⟨s1, rfl, hs1, hb1⟩
  obtain ⟨ha0, ha1, ha2⟩ := HA.below hb1
  have HB2 : Hid (Below w.heap.size w w2) := bl_trans (bl_a _) hb1
  have HT2 : Hid (Tab w2) := HT.out.below hb1
  have HS1 : Hid (numsOf s1 = d) := hs1
  have hz1 : s1.size ≤ 17 := by rw [← numsOf_len, hs1]; omega
  clear hb1 hs1 HT HA I1 P
  by_cases hs0 : s = 0
  · go_wp2_with fail
    go_ret
    refine ⟨_, rfl, ?_, HB2.out⟩
    simp [HS1.out, numsOf_append]
    rfl
  · go_wp2_with fail
    refine (SZ _).mono ?_
    rintro e w3 ⟨rfl, rfl⟩
    go_wp2_with fail
    refine (I2 _ HT2.out).mono ?_
    rintro e w4 ⟨s2, rfl, hs2, hb4⟩
    have ha4 := (hb4.cell (p := ⟨w.heap.size, 1, none⟩) ha0).trans ha2
    have HB4 : Hid (Below w.heap.size w w4) := bl_trans HB2.out hb4
    have hz : s2.size = f.length := by rw [← numsOf_len, hs2]
    have HS2 : Hid (numsOf s2 = f) := hs2
    clear hb4 hs2 I2 HT2 SZ
    have hf := hL2 hs0
    have R : ∀ c : Int, c = ((s - f.length : Nat) : Int) → ∀ w, Calls Tryz.prog 65 #[.string ⟨#[48]⟩, .int .i64 c] w fun e w' => StrRes w (List.replicate (s - f.length) 48) e w' := fun c hc w => by
      rw [hc]
      exact repeat0_any (s - f.length) w (by omega)
    go_wp2_with fail
    refine (R _ (by omega) _).mono ?_
    rintro e w5 ⟨s3, rfl, hs3, hb5⟩
    have hz3 : s3.size ≤ 6 := by rw [← numsOf_len, hs3]; simp; omega
    have HB5 : Hid (Below w.heap.size w w5) := bl_trans HB4.out hb5
    have HS3 : Hid (numsOf s3 = List.replicate (s - f.length) 48) := hs3
    clear hb5 hs3 R
    go_wp2_with fail
    go_ret
    refine ⟨_, rfl, ?_, HB5.out⟩
    simp only [numsOf_append, HS1.out, HS2.out, HS3.out]
    simp [numsOf]
end Go.Proofs.YtoclingolfdfeaaGreatDoor
