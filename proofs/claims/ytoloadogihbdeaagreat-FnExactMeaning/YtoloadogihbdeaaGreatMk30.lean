import Derived.Test.YtoloadogihbdeaaGreatMk10
import Derived.Test.YtoloadogihbdeaaGreatMk29
namespace Go.Proofs.YtoloadogihbdeaaGreat
open Go.RowKit Go.Deep
set_option maxHeartbeats 40000000
set_option maxRecDepth 100000
theorem Box.mg {B C : Nat} {w w' : World} {b : Nat} {L : List Value} (h : Box w b L) (hm : Mg B C w w') (hC : C ≤ b) : Box w' b L :=
 ⟨Nat.lt_of_lt_of_le h.1 hm.size, fun c u hu => (World.cell?_of_block (w := w) (a := ⟨b, c, none⟩) (hm.block b h.1 (.inr hC))).trans (h.2 c u hu)⟩
theorem Mkd.nx {B C : Nat} {w w' : World} {A : List MC} {k m b : Int} (h : Mkd B C w w' A k m) (h0 : 0 ≤ k) (h1 : k ≤ b) {l : Int} (h2 : (A.length : Int) ≤ l) : 0 ≤ m ∧ m ≤ b + l := by
 have := h.q
 omega
theorem lenNx {A : List MC} {k m b l : Int} (h : m = k + (A.length : Int)) (h0 : 0 ≤ k) (h1 : k ≤ b) (h2 : (A.length : Int) ≤ l) : 0 ≤ m ∧ m ≤ b + l := by omega
theorem len3 {A L M : List MC} (h1 : ((A.length : Nat) : Int) ≤ 2097152) (h2 : ((L.length : Nat) : Int) ≤ 2097152) (h3 : ((M.length : Nat) : Int) ≤ 2097152) : ((A ++ L ++ M).length : Int) ≤ 6291456 := by
 rw [List.length_append, List.length_append]
 omega
theorem hdApp {A L : List MC} {k q m : Int} (h : q = k + ((A.length : Nat) : Int)) (h2 : m = q + (L.length : Int)) : m = k + (((A ++ L).length : Nat) : Int) := by
 rw [List.length_append]
 omega
def HdB (w : World) (L : List MC) (k : Int) (e : Ending) (w' : World) : Prop := ∃ q : Int, e = .returned (.int .i64 q) ∧ Hd (q = k + (L.length : Int)) ∧ ¬ q < 0 ∧ Bl w w' ∧ KB w w'
theorem HdX.b {w w' : World} {L : List MC} {k : Int} {e : Ending} (hk : 0 ≤ k) (h : HdX w L k e w') : HdB w L k e w' := by
 obtain ⟨q, h1, h2, rfl⟩ := h
 exact ⟨q, h1, h2, by have := h2.o; omega, Below.refl _ _, KB.refl _⟩
theorem txl {B C : Nat} {w : World} {a : Option Addr} {len : Nat} (h : TxM B C w a len) : ((txC a len).length : Int) ≤ 1048576 := by
 rw [txC_len]
 have := h.1
 omega
theorem mkTerm (B C : Nat) (t : TB) (k : Int) (w : World) (hC : C ≤ w.heap.size) (hk : 0 ≤ k) (hk2 : k ≤ 72057594037927936) (ht : TxM B C w t.t.a t.t.len) :
 Calls Tryz.prog 98 #[.agg #[.int .i64 t.t.k, .slice t.t.a t.t.len t.t.cap, .int .i64 t.t.n, .int .i64 t.t.s], .int .i64 k] w (MkX B C w (txC t.t.a t.t.len) k) := by
 have HZ1 : Hd (∀ (W : World) (k : Int), KB w W → C ≤ W.heap.size → 0 ≤ k → k ≤ 288230376151711744 → Cl 49 #[.slice t.t.a t.t.len t.t.cap, .int .i64 k] W (MkX B C W (txC t.t.a t.t.len) k)) := fun W k q hC h0 h1 => markText_x B C t.t.a t.t.len t.t.cap k W (ht.kb q) h0 (Int.le_trans h1 (by decide))
 have HL1 : Hd (((txC t.t.a t.t.len).length : Int) ≤ 1048576) := txl ht
 have HX0 := iH (Box.new w #[.int .i64 t.t.k, .slice t.t.a t.t.len t.t.cap, .int .i64 t.t.n, .int .i64 t.t.s] 35 (0, 0))
 have M0 := iH ((Mkd.refl B C w k).box hC #[.int .i64 t.t.k, .slice t.t.a t.t.len t.t.cap, .int .i64 t.t.n, .int .i64 t.t.s] 35)
 have HCw := iH hC
 have n0 := hk
 have b0 := hk2
 clear hC
 go_in
 go_upto_region 1 with fail
 generalize (w.alloc _) = W0 at *
 have ld := HX0.o.2 1 _ rfl
 go_wp2_with fail
 refine (HZ1.o W0 k M0.o.kb (Nat.le_trans HCw.o M0.o.mid.size) n0 (Int.le_trans b0 (by decide))).mono ?_
 rintro e W1 ⟨q1, rfl, h⟩
 have M1 := iH (M0.o.app h rfl)
 have HX1 := iH (HX0.o.mg h.mid HCw.o)
 obtain ⟨n1, b1⟩ := h.nx n0 b0 HL1.o
 clear h ld M0 HX0
 go_wp2
 go_ret
 exact ⟨q1, rfl, M1.o.cast (by simp only [List.nil_append])⟩
theorem mkExpr (B C : Nat) (e : ET) (k : Int) (w : World) (hC : C ≤ w.heap.size) (hk : 0 ≤ k) (hk2 : k ≤ 18014398509481984) (hv : TxM B C w e.d.v.a e.d.v.len) (ht : TxM B C w e.d.t.t.a e.d.t.t.len) (hke : KM B C w e) (hl : (e.ms.length : Int) ≤ 1099511627776) :
 Calls Tryz.prog 48 #[.agg e.d.ar, .int .i64 k] w (MkX B C w ((txC e.d.v.a e.d.v.len ++ txC e.d.t.t.a e.d.t.t.len ++ e.ms)) k) := by
 have HZ1 : Hd (∀ (W : World) (k : Int), KB w W → C ≤ W.heap.size → 0 ≤ k → k ≤ 72057594037927936 → Cl 49 #[.slice e.d.v.a e.d.v.len e.d.v.cap, .int .i64 k] W (MkX B C W (txC e.d.v.a e.d.v.len) k)) := fun W k q hC h0 h1 => markText_x B C e.d.v.a e.d.v.len e.d.v.cap k W (hv.kb q) h0 (Int.le_trans h1 (by decide))
 have HL1 : Hd (((txC e.d.v.a e.d.v.len).length : Int) ≤ 1048576) := txl hv
 have HZ2 : Hd (∀ (W : World) (k : Int), KB w W → C ≤ W.heap.size → 0 ≤ k → k ≤ 72057594037927936 → Cl 98 #[.agg #[.int .i64 e.d.t.t.k, .slice e.d.t.t.a e.d.t.t.len e.d.t.t.cap, .int .i64 e.d.t.t.n, .int .i64 e.d.t.t.s], .int .i64 k] W (MkX B C W (txC e.d.t.t.a e.d.t.t.len) k)) := fun W k q hC h0 h1 => mkTerm B C e.d.t k W hC h0 (Int.le_trans h1 (by decide)) (ht.kb q)
 have HL2 : Hd (((txC e.d.t.t.a e.d.t.t.len).length : Int) ≤ 1048576) := txl ht
 have HZ3 : Hd (∀ (W : World) (k : Int), KB w W → C ≤ W.heap.size → 0 ≤ k → k ≤ 72057594037927936 → Cl 99 #[.slice e.d.ka e.d.n e.d.kc, .int .i64 k] W (MkX B C W (e.ms) k)) := fun W k q hC h0 h1 => markKids_x B C e W k h0 (by omega) (hke.kb q)
 have HL3 : Hd (((e.ms).length : Int) ≤ 1099511627776) := hl
 have HX0 := iH (Box.new w e.d.ar 42 (0, 0))
 have M0 := iH ((Mkd.refl B C w k).box hC e.d.ar 42)
 have HCw := iH hC
 have n0 := hk
 have b0 := hk2
 clear hC
 go_in
 go_upto_region 1 with fail
 generalize (w.alloc _) = W0 at *
 have ld := HX0.o.2 2 _ rfl
 go_wp2_with fail
 refine (HZ1.o W0 k M0.o.kb (Nat.le_trans HCw.o M0.o.mid.size) n0 (Int.le_trans b0 (by decide))).mono ?_
 rintro e W1 ⟨q1, rfl, h⟩
 have M1 := iH (M0.o.app h rfl)
 have HX1 := iH (HX0.o.mg h.mid HCw.o)
 obtain ⟨n1, b1⟩ := h.nx n0 b0 HL1.o
 clear h ld M0 HX0
 have ld : W1.rangeAt w.heap.size 3 [.int .i64 e.d.t.t.k, .slice e.d.t.t.a e.d.t.t.len e.d.t.t.cap, .int .i64 e.d.t.t.n, .int .i64 e.d.t.t.s] := HX1.o.range 3 _ rfl
 go_wp2_with (with_reducible refine wpv_at ?_; refine ldr rfl rfl rfl Tryz.underlying35 ld rfl ?_; try simp only [Act.put, sA, zA, cA])
 refine (HZ2.o W1 q1 M1.o.kb (Nat.le_trans HCw.o M1.o.mid.size) n1 (Int.le_trans b1 (by decide))).mono ?_
 rintro e W2 ⟨q2, rfl, h⟩
 have M2 := iH (M1.o.app h rfl)
 have HX2 := iH (HX1.o.mg h.mid HCw.o)
 obtain ⟨n2, b2⟩ := h.nx n1 b1 HL2.o
 clear h ld M1 HX1
 have ld := HX2.o.2 7 _ rfl
 go_wp2_with fail
 refine (HZ3.o W2 q2 M2.o.kb (Nat.le_trans HCw.o M2.o.mid.size) n2 (Int.le_trans b2 (by decide))).mono ?_
 rintro e W3 ⟨q3, rfl, h⟩
 have M3 := iH (M2.o.app h rfl)
 have HX3 := iH (HX2.o.mg h.mid HCw.o)
 obtain ⟨n3, b3⟩ := h.nx n2 b2 HL3.o
 clear h ld M2 HX2
 go_wp2
 go_ret
 exact ⟨q3, rfl, M3.o.cast (by simp only [List.nil_append])⟩
theorem mkItem (B C : Nat) (x : IB) (k : Int) (w : World) (hC : C ≤ w.heap.size) (hk : 0 ≤ k) (hk2 : k ≤ 18014398509481984) (hv : TxM B C w x.v.a x.v.len) (ht : TxM B C w x.t.t.a x.t.t.len) :
 Calls Tryz.prog 100 #[.agg x.ar, .int .i64 k] w (MkX B C w ((txC x.v.a x.v.len ++ txC x.t.t.a x.t.t.len)) k) := by
 have HZ1 : Hd (∀ (W : World) (k : Int), KB w W → C ≤ W.heap.size → 0 ≤ k → k ≤ 72057594037927936 → Cl 49 #[.slice x.v.a x.v.len x.v.cap, .int .i64 k] W (MkX B C W (txC x.v.a x.v.len) k)) := fun W k q hC h0 h1 => markText_x B C x.v.a x.v.len x.v.cap k W (hv.kb q) h0 (Int.le_trans h1 (by decide))
 have HL1 : Hd (((txC x.v.a x.v.len).length : Int) ≤ 1048576) := txl hv
 have HZ2 : Hd (∀ (W : World) (k : Int), KB w W → C ≤ W.heap.size → 0 ≤ k → k ≤ 72057594037927936 → Cl 98 #[.agg #[.int .i64 x.t.t.k, .slice x.t.t.a x.t.t.len x.t.t.cap, .int .i64 x.t.t.n, .int .i64 x.t.t.s], .int .i64 k] W (MkX B C W (txC x.t.t.a x.t.t.len) k)) := fun W k q hC h0 h1 => mkTerm B C x.t k W hC h0 (Int.le_trans h1 (by decide)) (ht.kb q)
 have HL2 : Hd (((txC x.t.t.a x.t.t.len).length : Int) ≤ 1048576) := txl ht
 have HX0 := iH (Box.new w x.ar 37 (0, 0))
 have M0 := iH ((Mkd.refl B C w k).box hC x.ar 37)
 have HCw := iH hC
 have n0 := hk
 have b0 := hk2
 clear hC
 go_in
 go_upto_region 1 with fail
 generalize (w.alloc _) = W0 at *
 have ld := HX0.o.2 0 _ rfl
 go_wp2_with fail
 refine (HZ1.o W0 k M0.o.kb (Nat.le_trans HCw.o M0.o.mid.size) n0 (Int.le_trans b0 (by decide))).mono ?_
 rintro e W1 ⟨q1, rfl, h⟩
 have M1 := iH (M0.o.app h rfl)
 have HX1 := iH (HX0.o.mg h.mid HCw.o)
 obtain ⟨n1, b1⟩ := h.nx n0 b0 HL1.o
 clear h ld M0 HX0
 have ld : W1.rangeAt w.heap.size 1 [.int .i64 x.t.t.k, .slice x.t.t.a x.t.t.len x.t.t.cap, .int .i64 x.t.t.n, .int .i64 x.t.t.s] := HX1.o.range 1 _ rfl
 go_wp2_with (with_reducible refine wpv_at ?_; refine ldr rfl rfl rfl Tryz.underlying35 ld rfl ?_; try simp only [Act.put, sA, zA, cA])
 refine (HZ2.o W1 q1 M1.o.kb (Nat.le_trans HCw.o M1.o.mid.size) n1 (Int.le_trans b1 (by decide))).mono ?_
 rintro e W2 ⟨q2, rfl, h⟩
 have M2 := iH (M1.o.app h rfl)
 have HX2 := iH (HX1.o.mg h.mid HCw.o)
 obtain ⟨n2, b2⟩ := h.nx n1 b1 HL2.o
 clear h ld M1 HX1
 go_wp2
 go_ret
 exact ⟨q2, rfl, M2.o.cast (by simp only [List.nil_append])⟩
structure IMk (B C : Nat) (w : World) (x : IB) : Prop where
 v : TxM B C w x.v.a x.v.len
 t : TxM B C w x.t.t.a x.t.t.len
theorem IMk.kb {B C : Nat} {w w' : World} {x : IB} (h : IMk B C w x) (k : KB w w') : IMk B C w' x := ⟨h.v.kb k, h.t.kb k⟩
theorem IMk.len {B C : Nat} {w : World} {x : IB} (h : IMk B C w x) : (((txC x.v.a x.v.len ++ txC x.t.t.a x.t.t.len).length : Nat) : Int) ≤ 2097152 := by
 have := txl h.v
 have := txl h.t
 rw [List.length_append]
 omega
structure EMk (B C : Nat) (w : World) (e : ET) : Prop where
 v : TxM B C w e.d.v.a e.d.v.len
 t : TxM B C w e.d.t.t.a e.d.t.t.len
 k : KM B C w e
 l : (e.ms.length : Int) ≤ 1099511627776
theorem EMk.kb {B C : Nat} {w w' : World} {e : ET} (h : EMk B C w e) (k : KB w w') : EMk B C w' e := ⟨h.v.kb k, h.t.kb k, h.k.kb k, h.l⟩
theorem EMk.len {B C : Nat} {w : World} {e : ET} (h : EMk B C w e) : (((txC e.d.v.a e.d.v.len ++ txC e.d.t.t.a e.d.t.t.len ++ e.ms).length : Nat) : Int) ≤ 2199023255552 := by
 have := txl h.v
 have := txl h.t
 have := h.l
 rw [List.length_append, List.length_append]
 omega
theorem mkPat (B C : Nat) (p : PB) (k : Int) (w : World) (hC : C ≤ w.heap.size) (hk : 0 ≤ k) (hk2 : k ≤ 4503599627370496) (g1 : IMk B C w p.s) (g2 : IMk B C w p.p) (g3 : IMk B C w p.o) :
 Calls Tryz.prog 52 #[.agg p.ar, .int .i64 k] w (MkX B C w (((txC p.s.v.a p.s.v.len ++ txC p.s.t.t.a p.s.t.t.len) ++ (txC p.p.v.a p.p.v.len ++ txC p.p.t.t.a p.p.t.t.len) ++ (txC p.o.v.a p.o.v.len ++ txC p.o.t.t.a p.o.t.t.len))) k) := by
 have HZ1 : Hd (∀ (W : World) (k : Int), KB w W → C ≤ W.heap.size → 0 ≤ k → k ≤ 18014398509481984 → Cl 100 #[.agg p.s.ar, .int .i64 k] W (MkX B C W ((txC p.s.v.a p.s.v.len ++ txC p.s.t.t.a p.s.t.t.len)) k)) := fun W k q hC h0 h1 => mkItem B C p.s k W hC h0 (Int.le_trans h1 (by decide)) (g1.v.kb q) (g1.t.kb q)
 have HL1 : Hd ((((txC p.s.v.a p.s.v.len ++ txC p.s.t.t.a p.s.t.t.len)).length : Int) ≤ 2097152) := g1.len
 have HZ2 : Hd (∀ (W : World) (k : Int), KB w W → C ≤ W.heap.size → 0 ≤ k → k ≤ 18014398509481984 → Cl 100 #[.agg p.p.ar, .int .i64 k] W (MkX B C W ((txC p.p.v.a p.p.v.len ++ txC p.p.t.t.a p.p.t.t.len)) k)) := fun W k q hC h0 h1 => mkItem B C p.p k W hC h0 (Int.le_trans h1 (by decide)) (g2.v.kb q) (g2.t.kb q)
 have HL2 : Hd ((((txC p.p.v.a p.p.v.len ++ txC p.p.t.t.a p.p.t.t.len)).length : Int) ≤ 2097152) := g2.len
 have HZ3 : Hd (∀ (W : World) (k : Int), KB w W → C ≤ W.heap.size → 0 ≤ k → k ≤ 18014398509481984 → Cl 100 #[.agg p.o.ar, .int .i64 k] W (MkX B C W ((txC p.o.v.a p.o.v.len ++ txC p.o.t.t.a p.o.t.t.len)) k)) := fun W k q hC h0 h1 => mkItem B C p.o k W hC h0 (Int.le_trans h1 (by decide)) (g3.v.kb q) (g3.t.kb q)
 have HL3 : Hd ((((txC p.o.v.a p.o.v.len ++ txC p.o.t.t.a p.o.t.t.len)).length : Int) ≤ 2097152) := g3.len
 have HX0 := iH (Box.new w p.ar 39 (0, 0))
 have M0 := iH ((Mkd.refl B C w k).box hC p.ar 39)
 have HCw := iH hC
 have n0 := hk
 have b0 := hk2
 clear hC
 go_in
 go_upto_region 1 with fail
 generalize (w.alloc _) = W0 at *
 have ld : W0.rangeAt w.heap.size 0 p.s.cl := HX0.o.range 0 _ rfl
 go_wp2_with (with_reducible refine wpv_at ?_; refine ldr rfl rfl rfl Tryz.underlying37 ld rfl ?_; try simp only [Act.put, sA, zA, cA])
 refine (HZ1.o W0 k M0.o.kb (Nat.le_trans HCw.o M0.o.mid.size) n0 (Int.le_trans b0 (by decide))).mono ?_
 rintro e W1 ⟨q1, rfl, h⟩
 have M1 := iH (M0.o.app h rfl)
 have HX1 := iH (HX0.o.mg h.mid HCw.o)
 obtain ⟨n1, b1⟩ := h.nx n0 b0 HL1.o
 clear h ld M0 HX0
 have ld : W1.rangeAt w.heap.size 5 p.p.cl := HX1.o.range 5 _ rfl
 go_wp2_with (with_reducible refine wpv_at ?_; refine ldr rfl rfl rfl Tryz.underlying37 ld rfl ?_; try simp only [Act.put, sA, zA, cA])
 refine (HZ2.o W1 q1 M1.o.kb (Nat.le_trans HCw.o M1.o.mid.size) n1 (Int.le_trans b1 (by decide))).mono ?_
 rintro e W2 ⟨q2, rfl, h⟩
 have M2 := iH (M1.o.app h rfl)
 have HX2 := iH (HX1.o.mg h.mid HCw.o)
 obtain ⟨n2, b2⟩ := h.nx n1 b1 HL2.o
 clear h ld M1 HX1
 have ld : W2.rangeAt w.heap.size 10 p.o.cl := HX2.o.range 10 _ rfl
 go_wp2_with (with_reducible refine wpv_at ?_; refine ldr rfl rfl rfl Tryz.underlying37 ld rfl ?_; try simp only [Act.put, sA, zA, cA])
 refine (HZ3.o W2 q2 M2.o.kb (Nat.le_trans HCw.o M2.o.mid.size) n2 (Int.le_trans b2 (by decide))).mono ?_
 rintro e W3 ⟨q3, rfl, h⟩
 have M3 := iH (M2.o.app h rfl)
 have HX3 := iH (HX2.o.mg h.mid HCw.o)
 obtain ⟨n3, b3⟩ := h.nx n2 b2 HL3.o
 clear h ld M2 HX2
 go_wp2
 go_ret
 exact ⟨q3, rfl, M3.o.cast (by simp only [List.nil_append])⟩
structure AMk (B C : Nat) (w : World) (y : AT) : Prop where
 p : PX B C w y.d.pa y.d.pn y.d.pat
 e : EMk B C w y.d.e
 v : TxM B C w y.d.v.a y.d.v.len
 t : TsX B C w y.d.ta y.d.tb.length (tbN y.d.tb)
 k : BM B C w y
 pl : ((patM y.d.pa y.d.pn y.d.pat).length : Int) ≤ 1099511627776
 tl : ((termM y.d.ta y.d.tb).length : Int) ≤ 1099511627776
 kl : (y.ms.length : Int) ≤ 1099511627776
def AT.tms (y : AT) : List MC := (patM y.d.pa y.d.pn y.d.pat ++ (txC y.d.e.d.v.a y.d.e.d.v.len ++ txC y.d.e.d.t.t.a y.d.e.d.t.t.len ++ y.d.e.ms) ++ txC y.d.v.a y.d.v.len ++ termM y.d.ta y.d.tb ++ y.ms)
theorem AMk.kb {B C : Nat} {w w' : World} {y : AT} (h : AMk B C w y) (k : KB w w') : AMk B C w' y := ⟨h.p.kb k, h.e.kb k, h.v.kb k, h.t.kb k, h.k.kb k, h.pl, h.tl, h.kl⟩
structure PMk (B C : Nat) (w : World) (y : PT) : Prop where
 s : IMk B C w y.d.p.s
 p : IMk B C w y.d.p.p
 o : IMk B C w y.d.p.o
 e : EMk B C w y.d.e
 v : TxM B C w y.d.v.a y.d.v.len
 t : TsX B C w y.d.ta y.d.tb.length (tbN y.d.tb)
 k : QM2 B C w y
 tl : ((termM y.d.ta y.d.tb).length : Int) ≤ 1099511627776
 kl : (y.ms.length : Int) ≤ 1099511627776
theorem mkAlg (B C : Nat) (y : AT) (k : Int) (w : World) (hC : C ≤ w.heap.size) (hk : 0 ≤ k) (hk2 : k ≤ 1125899906842624) (h : AMk B C w y) :
 Calls Tryz.prog 13 #[.agg y.d.ar, .int .i64 k] w (MkX B C w ((patM y.d.pa y.d.pn y.d.pat ++ (txC y.d.e.d.v.a y.d.e.d.v.len ++ txC y.d.e.d.t.t.a y.d.e.d.t.t.len ++ y.d.e.ms) ++ txC y.d.v.a y.d.v.len ++ termM y.d.ta y.d.tb ++ y.ms)) k) := by
 have HZ1 : Hd (∀ (W : World) (k : Int), KB w W → C ≤ W.heap.size → 0 ≤ k → k ≤ 4503599627370496 → Cl 47 #[.slice y.d.pa y.d.pn y.d.pc, .int .i64 k] W (MkX B C W (patM y.d.pa y.d.pn y.d.pat) k)) := fun W k q hC h0 h1 => markPats_x B C y.d.pa y.d.pc y.d.pn y.d.pat k W h0 (by have := h.pl; omega) (h.p.kb q)
 have HL1 : Hd (((patM y.d.pa y.d.pn y.d.pat).length : Int) ≤ 1099511627776) := h.pl
 have HZ2 : Hd (∀ (W : World) (k : Int), KB w W → C ≤ W.heap.size → 0 ≤ k → k ≤ 4503599627370496 → Cl 48 #[.agg y.d.e.d.ar, .int .i64 k] W (MkX B C W ((txC y.d.e.d.v.a y.d.e.d.v.len ++ txC y.d.e.d.t.t.a y.d.e.d.t.t.len ++ y.d.e.ms)) k)) := fun W k q hC h0 h1 => mkExpr B C y.d.e k W hC h0 (Int.le_trans h1 (by decide)) (h.e.v.kb q) (h.e.t.kb q) (h.e.k.kb q) h.e.l
 have HL2 : Hd ((((txC y.d.e.d.v.a y.d.e.d.v.len ++ txC y.d.e.d.t.t.a y.d.e.d.t.t.len ++ y.d.e.ms)).length : Int) ≤ 2199023255552) := h.e.len
 have HZ3 : Hd (∀ (W : World) (k : Int), KB w W → C ≤ W.heap.size → 0 ≤ k → k ≤ 4503599627370496 → Cl 49 #[.slice y.d.v.a y.d.v.len y.d.v.cap, .int .i64 k] W (MkX B C W (txC y.d.v.a y.d.v.len) k)) := fun W k q hC h0 h1 => markText_x B C y.d.v.a y.d.v.len y.d.v.cap k W (h.v.kb q) h0 (Int.le_trans h1 (by decide))
 have HL3 : Hd (((txC y.d.v.a y.d.v.len).length : Int) ≤ 1048576) := txl h.v
 have HZ4 : Hd (∀ (W : World) (k : Int), KB w W → C ≤ W.heap.size → 0 ≤ k → k ≤ 4503599627370496 → Cl 50 #[.slice y.d.ta y.d.tb.length y.d.tc, .int .i64 k] W (MkX B C W (termM y.d.ta y.d.tb) k)) := fun W k q hC h0 h1 => markTerms_x B C y.d.ta y.d.tc y.d.tb k W h0 (by have := h.tl; omega) (h.t.kb q)
 have HL4 : Hd (((termM y.d.ta y.d.tb).length : Int) ≤ 1099511627776) := h.tl
 have HZ5 : Hd (∀ (W : World) (k : Int), KB w W → C ≤ W.heap.size → 0 ≤ k → k ≤ 4503599627370496 → Cl 51 #[.slice y.d.ka y.d.n y.d.kc, .int .i64 k] W (MkX B C W (y.ms) k)) := fun W k q hC h0 h1 => markAlgS_t B C y W k h0 (by have := h.kl; omega) (h.k.kb q)
 have HL5 : Hd (((y.ms).length : Int) ≤ 1099511627776) := h.kl
 have HX0 := iH (Box.new w y.d.ar 52 (0, 0))
 have M0 := iH ((Mkd.refl B C w k).box hC y.d.ar 52)
 have HCw := iH hC
 have n0 := hk
 have b0 := hk2
 clear hC
 go_in
 go_upto_region 1 with fail
 generalize (w.alloc _) = W0 at *
 have ld := HX0.o.2 1 _ rfl
 go_wp2_with fail
 refine (HZ1.o W0 k M0.o.kb (Nat.le_trans HCw.o M0.o.mid.size) n0 (Int.le_trans b0 (by decide))).mono ?_
 rintro e W1 ⟨q1, rfl, h⟩
 have M1 := iH (M0.o.app h rfl)
 have HX1 := iH (HX0.o.mg h.mid HCw.o)
 obtain ⟨n1, b1⟩ := h.nx n0 b0 HL1.o
 clear h ld M0 HX0
 have ld : W1.rangeAt w.heap.size 2 y.d.e.d.cl := HX1.o.range 2 _ rfl
 go_wp2_with (with_reducible refine wpv_at ?_; refine ldr rfl rfl rfl Tryz.underlying42 ld rfl ?_; try simp only [Act.put, sA, zA, cA])
 refine (HZ2.o W1 q1 M1.o.kb (Nat.le_trans HCw.o M1.o.mid.size) n1 (Int.le_trans b1 (by decide))).mono ?_
 rintro e W2 ⟨q2, rfl, h⟩
 have M2 := iH (M1.o.app h rfl)
 have HX2 := iH (HX1.o.mg h.mid HCw.o)
 obtain ⟨n2, b2⟩ := h.nx n1 b1 HL2.o
 clear h ld M1 HX1
 have ld := HX2.o.2 10 _ rfl
 go_wp2_with fail
 refine (HZ3.o W2 q2 M2.o.kb (Nat.le_trans HCw.o M2.o.mid.size) n2 (Int.le_trans b2 (by decide))).mono ?_
 rintro e W3 ⟨q3, rfl, h⟩
 have M3 := iH (M2.o.app h rfl)
 have HX3 := iH (HX2.o.mg h.mid HCw.o)
 obtain ⟨n3, b3⟩ := h.nx n2 b2 HL3.o
 clear h ld M2 HX2
 have ld := HX3.o.2 11 _ rfl
 go_wp2_with fail
 refine (HZ4.o W3 q3 M3.o.kb (Nat.le_trans HCw.o M3.o.mid.size) n3 (Int.le_trans b3 (by decide))).mono ?_
 rintro e W4 ⟨q4, rfl, h⟩
 have M4 := iH (M3.o.app h rfl)
 have HX4 := iH (HX3.o.mg h.mid HCw.o)
 obtain ⟨n4, b4⟩ := h.nx n3 b3 HL4.o
 clear h ld M3 HX3
 have ld := HX4.o.2 12 _ rfl
 go_wp2_with fail
 refine (HZ5.o W4 q4 M4.o.kb (Nat.le_trans HCw.o M4.o.mid.size) n4 (Int.le_trans b4 (by decide))).mono ?_
 rintro e W5 ⟨q5, rfl, h⟩
 have M5 := iH (M4.o.app h rfl)
 have HX5 := iH (HX4.o.mg h.mid HCw.o)
 obtain ⟨n5, b5⟩ := h.nx n4 b4 HL5.o
 clear h ld M4 HX4
 go_wp2
 go_ret
 exact ⟨q5, rfl, M5.o.cast (by simp only [List.nil_append])⟩
theorem mkPlan (B C : Nat) (y : PT) (k : Int) (w : World) (hC : C ≤ w.heap.size) (hk : 0 ≤ k) (hk2 : k ≤ 1125899906842624) (h : PMk B C w y) :
 Calls Tryz.prog 15 #[.agg y.d.ar, .int .i64 k] w (MkX B C w ((((txC y.d.p.s.v.a y.d.p.s.v.len ++ txC y.d.p.s.t.t.a y.d.p.s.t.t.len) ++ (txC y.d.p.p.v.a y.d.p.p.v.len ++ txC y.d.p.p.t.t.a y.d.p.p.t.t.len) ++ (txC y.d.p.o.v.a y.d.p.o.v.len ++ txC y.d.p.o.t.t.a y.d.p.o.t.t.len)) ++ (txC y.d.e.d.v.a y.d.e.d.v.len ++ txC y.d.e.d.t.t.a y.d.e.d.t.t.len ++ y.d.e.ms) ++ txC y.d.v.a y.d.v.len ++ termM y.d.ta y.d.tb ++ y.ms)) k) := by
 have HZ1 : Hd (∀ (W : World) (k : Int), KB w W → C ≤ W.heap.size → 0 ≤ k → k ≤ 4503599627370496 → Cl 52 #[.agg y.d.p.ar, .int .i64 k] W (MkX B C W (((txC y.d.p.s.v.a y.d.p.s.v.len ++ txC y.d.p.s.t.t.a y.d.p.s.t.t.len) ++ (txC y.d.p.p.v.a y.d.p.p.v.len ++ txC y.d.p.p.t.t.a y.d.p.p.t.t.len) ++ (txC y.d.p.o.v.a y.d.p.o.v.len ++ txC y.d.p.o.t.t.a y.d.p.o.t.t.len))) k)) := fun W k q hC h0 h1 => mkPat B C y.d.p k W hC h0 (Int.le_trans h1 (by decide)) (h.s.kb q) (h.p.kb q) (h.o.kb q)
 have HL1 : Hd (((((txC y.d.p.s.v.a y.d.p.s.v.len ++ txC y.d.p.s.t.t.a y.d.p.s.t.t.len) ++ (txC y.d.p.p.v.a y.d.p.p.v.len ++ txC y.d.p.p.t.t.a y.d.p.p.t.t.len) ++ (txC y.d.p.o.v.a y.d.p.o.v.len ++ txC y.d.p.o.t.t.a y.d.p.o.t.t.len))).length : Int) ≤ 6291456) := len3 h.s.len h.p.len h.o.len
 have HZ2 : Hd (∀ (W : World) (k : Int), KB w W → C ≤ W.heap.size → 0 ≤ k → k ≤ 4503599627370496 → Cl 48 #[.agg y.d.e.d.ar, .int .i64 k] W (MkX B C W ((txC y.d.e.d.v.a y.d.e.d.v.len ++ txC y.d.e.d.t.t.a y.d.e.d.t.t.len ++ y.d.e.ms)) k)) := fun W k q hC h0 h1 => mkExpr B C y.d.e k W hC h0 (Int.le_trans h1 (by decide)) (h.e.v.kb q) (h.e.t.kb q) (h.e.k.kb q) h.e.l
 have HL2 : Hd ((((txC y.d.e.d.v.a y.d.e.d.v.len ++ txC y.d.e.d.t.t.a y.d.e.d.t.t.len ++ y.d.e.ms)).length : Int) ≤ 2199023255552) := h.e.len
 have HZ3 : Hd (∀ (W : World) (k : Int), KB w W → C ≤ W.heap.size → 0 ≤ k → k ≤ 4503599627370496 → Cl 49 #[.slice y.d.v.a y.d.v.len y.d.v.cap, .int .i64 k] W (MkX B C W (txC y.d.v.a y.d.v.len) k)) := fun W k q hC h0 h1 => markText_x B C y.d.v.a y.d.v.len y.d.v.cap k W (h.v.kb q) h0 (Int.le_trans h1 (by decide))
 have HL3 : Hd (((txC y.d.v.a y.d.v.len).length : Int) ≤ 1048576) := txl h.v
 have HZ4 : Hd (∀ (W : World) (k : Int), KB w W → C ≤ W.heap.size → 0 ≤ k → k ≤ 4503599627370496 → Cl 50 #[.slice y.d.ta y.d.tb.length y.d.tc, .int .i64 k] W (MkX B C W (termM y.d.ta y.d.tb) k)) := fun W k q hC h0 h1 => markTerms_x B C y.d.ta y.d.tc y.d.tb k W h0 (by have := h.tl; omega) (h.t.kb q)
 have HL4 : Hd (((termM y.d.ta y.d.tb).length : Int) ≤ 1099511627776) := h.tl
 have HZ5 : Hd (∀ (W : World) (k : Int), KB w W → C ≤ W.heap.size → 0 ≤ k → k ≤ 4503599627370496 → Cl 53 #[.slice y.d.ka y.d.n y.d.kc, .int .i64 k] W (MkX B C W (y.ms) k)) := fun W k q hC h0 h1 => markPlanS_t B C y W k h0 (by have := h.kl; omega) (h.k.kb q)
 have HL5 : Hd (((y.ms).length : Int) ≤ 1099511627776) := h.kl
 have HX0 := iH (Box.new w y.d.ar 46 (0, 0))
 have M0 := iH ((Mkd.refl B C w k).box hC y.d.ar 46)
 have HCw := iH hC
 have n0 := hk
 have b0 := hk2
 clear hC
 go_in
 go_upto_region 1 with fail
 generalize (w.alloc _) = W0 at *
 have ld : W0.rangeAt w.heap.size 2 y.d.p.cl := HX0.o.range 2 _ rfl
 go_wp2_with (with_reducible refine wpv_at ?_; refine ldr rfl rfl rfl Tryz.underlying39 ld rfl ?_; try simp only [Act.put, sA, zA, cA])
 refine (HZ1.o W0 k M0.o.kb (Nat.le_trans HCw.o M0.o.mid.size) n0 (Int.le_trans b0 (by decide))).mono ?_
 rintro e W1 ⟨q1, rfl, h⟩
 have M1 := iH (M0.o.app h rfl)
 have HX1 := iH (HX0.o.mg h.mid HCw.o)
 obtain ⟨n1, b1⟩ := h.nx n0 b0 HL1.o
 clear h ld M0 HX0
 have ld : W1.rangeAt w.heap.size 17 y.d.e.d.cl := HX1.o.range 17 _ rfl
 go_wp2_with (with_reducible refine wpv_at ?_; refine ldr rfl rfl rfl Tryz.underlying42 ld rfl ?_; try simp only [Act.put, sA, zA, cA])
 refine (HZ2.o W1 q1 M1.o.kb (Nat.le_trans HCw.o M1.o.mid.size) n1 (Int.le_trans b1 (by decide))).mono ?_
 rintro e W2 ⟨q2, rfl, h⟩
 have M2 := iH (M1.o.app h rfl)
 have HX2 := iH (HX1.o.mg h.mid HCw.o)
 obtain ⟨n2, b2⟩ := h.nx n1 b1 HL2.o
 clear h ld M1 HX1
 have ld := HX2.o.2 25 _ rfl
 go_wp2_with fail
 refine (HZ3.o W2 q2 M2.o.kb (Nat.le_trans HCw.o M2.o.mid.size) n2 (Int.le_trans b2 (by decide))).mono ?_
 rintro e W3 ⟨q3, rfl, h⟩
 have M3 := iH (M2.o.app h rfl)
 have HX3 := iH (HX2.o.mg h.mid HCw.o)
 obtain ⟨n3, b3⟩ := h.nx n2 b2 HL3.o
 clear h ld M2 HX2
 have ld := HX3.o.2 26 _ rfl
 go_wp2_with fail
 refine (HZ4.o W3 q3 M3.o.kb (Nat.le_trans HCw.o M3.o.mid.size) n3 (Int.le_trans b3 (by decide))).mono ?_
 rintro e W4 ⟨q4, rfl, h⟩
 have M4 := iH (M3.o.app h rfl)
 have HX4 := iH (HX3.o.mg h.mid HCw.o)
 obtain ⟨n4, b4⟩ := h.nx n3 b3 HL4.o
 clear h ld M3 HX3
 have ld := HX4.o.2 27 _ rfl
 go_wp2_with fail
 refine (HZ5.o W4 q4 M4.o.kb (Nat.le_trans HCw.o M4.o.mid.size) n4 (Int.le_trans b4 (by decide))).mono ?_
 rintro e W5 ⟨q5, rfl, h⟩
 have M5 := iH (M4.o.app h rfl)
 have HX5 := iH (HX4.o.mg h.mid HCw.o)
 obtain ⟨n5, b5⟩ := h.nx n4 b4 HL5.o
 clear h ld M4 HX4
 go_wp2
 go_ret
 exact ⟨q5, rfl, M5.o.cast (by simp only [List.nil_append])⟩
theorem hdTerm (B C : Nat) (t : TB) (k : Int) (w : World) (hC : C ≤ w.heap.size) (hk : 0 ≤ k) (hk2 : k ≤ 72057594037927936) (ht : TxM B C w t.t.a t.t.len) (hH : Hl w (txC t.t.a t.t.len) k) (hx : ∀ c ∈ (txC t.t.a t.t.len), c.1 < w.heap.size) :
 Calls Tryz.prog 102 #[.agg #[.int .i64 t.t.k, .slice t.t.a t.t.len t.t.cap, .int .i64 t.t.n, .int .i64 t.t.s], .int .i64 k] w (HdB w (txC t.t.a t.t.len) k) := by
 have HH1 := iH hH
 have HZ1 : Hd (∀ (W : World) (q : Int), Bl w W → KB w W → q = k → 0 ≤ q → q ≤ 288230376151711744 → Cl 56 #[.slice t.t.a t.t.len t.t.cap, .int .i64 q] W (HdB W (txC t.t.a t.t.len) q)) := fun W q hb kq eq0 h0 h1 => (by
  have hl : Hl W (txC t.t.a t.t.len) q := by rw [eq0]; exact Hl.below (fun c hc => hb.cell (p := ⟨c.1, c.2.1, none⟩) (hx c hc)) HH1.o
  have hm : ∀ c ∈ (txC t.t.a t.t.len), c.1 < W.heap.size := fun c hc => Nat.lt_of_lt_of_le (hx c hc) hb.size
  have hCW := Nat.le_trans hC hb.size
  exact (heldText_x t.t.a t.t.len t.t.cap q W ht.form hl h0 (Int.le_trans h1 (by decide)) ht.1).mono fun _ _ h => h.b h0)
 have HL1 : Hd (((txC t.t.a t.t.len).length : Int) ≤ 1048576) := txl ht
 have HX0 := iH (Box.new w #[.int .i64 t.t.k, .slice t.t.a t.t.len t.t.cap, .int .i64 t.t.n, .int .i64 t.t.s] 35 (0, 0))
 have HB0 := iH (bl_a (w := w) (.cells #[.int .i64 t.t.k, .slice t.t.a t.t.len t.t.cap, .int .i64 t.t.n, .int .i64 t.t.s] 35))
 have KK0 := iH (KB.box w #[.int .i64 t.t.k, .slice t.t.a t.t.len t.t.cap, .int .i64 t.t.n, .int .i64 t.t.s] 35)
 have n0 := hk
 have b0 := hk2
 clear hC hH hx HH1
 go_in
 go_upto_region 1 with fail
 generalize (w.alloc _) = W0 at *
 have ld := HX0.o.2 1 _ rfl
 go_wp2_with fail
 refine (HZ1.o W0 k HB0.o KK0.o rfl n0 (Int.le_trans b0 (by decide))).mono ?_
 rintro e W1 ⟨q1, rfl, he, hn, hb, hkb⟩
 have HX1 := iH (HX0.o.below hb)
 have HB1 := iH (bl_trans HB0.o hb)
 have KK1 := iH (KK0.o.trans hkb)
 obtain ⟨n1, b1⟩ := lenNx he.o n0 b0 HL1.o
 have E1 := he
 clear he hb hkb ld HX0 HB0 KK0
 go_wp2
 go_ret
 exact ⟨q1, rfl, E1, Int.not_lt.2 n1, HB1.o, KK1.o⟩
theorem hdExpr (B C : Nat) (e : ET) (k : Int) (w : World) (hC : C ≤ w.heap.size) (hk : 0 ≤ k) (hk2 : k ≤ 18014398509481984) (he : EMk B C w e) (hH : Hl w ((txC e.d.v.a e.d.v.len ++ txC e.d.t.t.a e.d.t.t.len ++ e.ms)) k) (hx : ∀ c ∈ ((txC e.d.v.a e.d.v.len ++ txC e.d.t.t.a e.d.t.t.len ++ e.ms)), c.1 < w.heap.size) :
 Calls Tryz.prog 55 #[.agg e.d.ar, .int .i64 k] w (HdB w ((txC e.d.v.a e.d.v.len ++ txC e.d.t.t.a e.d.t.t.len ++ e.ms)) k) := by
 have HH3 := iH (Hl.app (A := (txC e.d.v.a e.d.v.len) ++ (txC e.d.t.t.a e.d.t.t.len)) (L := (e.ms)) hH)
 have HH2 := iH (Hl.app (A := (txC e.d.v.a e.d.v.len)) (L := (txC e.d.t.t.a e.d.t.t.len)) HH3.o.1)
 have HH1 := iH HH2.o.1
 have HZ1 : Hd (∀ (W : World) (q : Int), Bl w W → KB w W → q = k → 0 ≤ q → q ≤ 72057594037927936 → Cl 56 #[.slice e.d.v.a e.d.v.len e.d.v.cap, .int .i64 q] W (HdB W (txC e.d.v.a e.d.v.len) q)) := fun W q hb kq eq0 h0 h1 => (by
  have hl : Hl W (txC e.d.v.a e.d.v.len) q := by rw [eq0]; exact Hl.below (fun c hc => hb.cell (p := ⟨c.1, c.2.1, none⟩) (hx c (List.mem_append_left _ (List.mem_append_left _ hc)))) HH1.o
  have hm : ∀ c ∈ (txC e.d.v.a e.d.v.len), c.1 < W.heap.size := fun c hc => Nat.lt_of_lt_of_le (hx c (List.mem_append_left _ (List.mem_append_left _ hc))) hb.size
  have hCW := Nat.le_trans hC hb.size
  exact (heldText_x e.d.v.a e.d.v.len e.d.v.cap q W he.v.form hl h0 (Int.le_trans h1 (by decide)) he.v.1).mono fun _ _ h => h.b h0)
 have HL1 : Hd (((txC e.d.v.a e.d.v.len).length : Int) ≤ 1048576) := txl he.v
 have HZ2 : Hd (∀ (W : World) (q : Int), Bl w W → KB w W → q = k + ((((txC e.d.v.a e.d.v.len)).length : Nat) : Int) → 0 ≤ q → q ≤ 72057594037927936 → Cl 102 #[.agg #[.int .i64 e.d.t.t.k, .slice e.d.t.t.a e.d.t.t.len e.d.t.t.cap, .int .i64 e.d.t.t.n, .int .i64 e.d.t.t.s], .int .i64 q] W (HdB W (txC e.d.t.t.a e.d.t.t.len) q)) := fun W q hb kq eq0 h0 h1 => (by
  have hl : Hl W (txC e.d.t.t.a e.d.t.t.len) q := by rw [eq0]; exact Hl.below (fun c hc => hb.cell (p := ⟨c.1, c.2.1, none⟩) (hx c (List.mem_append_left _ (List.mem_append_right _ hc)))) (HH2.o.2 _ rfl)
  have hm : ∀ c ∈ (txC e.d.t.t.a e.d.t.t.len), c.1 < W.heap.size := fun c hc => Nat.lt_of_lt_of_le (hx c (List.mem_append_left _ (List.mem_append_right _ hc))) hb.size
  have hCW := Nat.le_trans hC hb.size
  exact hdTerm B C e.d.t q W hCW h0 (Int.le_trans h1 (by decide)) (he.t.kb kq) hl hm)
 have HL2 : Hd (((txC e.d.t.t.a e.d.t.t.len).length : Int) ≤ 1048576) := txl he.t
 have HZ3 : Hd (∀ (W : World) (q : Int), Bl w W → KB w W → q = k + ((((txC e.d.v.a e.d.v.len) ++ (txC e.d.t.t.a e.d.t.t.len)).length : Nat) : Int) → 0 ≤ q → q ≤ 72057594037927936 → Cl 103 #[.slice e.d.ka e.d.n e.d.kc, .int .i64 q] W (HdB W (e.ms) q)) := fun W q hb kq eq0 h0 h1 => (by
  have hl : Hl W (e.ms) q := by rw [eq0]; exact Hl.below (fun c hc => hb.cell (p := ⟨c.1, c.2.1, none⟩) (hx c (List.mem_append_right _ hc))) (HH3.o.2 _ rfl)
  have hm : ∀ c ∈ (e.ms), c.1 < W.heap.size := fun c hc => Nat.lt_of_lt_of_le (hx c (List.mem_append_right _ hc)) hb.size
  have hCW := Nat.le_trans hC hb.size
  exact (heldKids_x B C e q W h0 (by have := he.l; omega) (he.k.kb kq) hl).mono fun _ _ h => h.b h0)
 have HL3 : Hd (((e.ms).length : Int) ≤ 1099511627776) := he.l
 have HX0 := iH (Box.new w e.d.ar 42 (0, 0))
 have HB0 := iH (bl_a (w := w) (.cells e.d.ar 42))
 have KK0 := iH (KB.box w e.d.ar 42)
 have n0 := hk
 have b0 := hk2
 clear hC hH hx HH1 HH2 HH3
 go_in
 go_upto_region 1 with fail
 generalize (w.alloc _) = W0 at *
 have ld := HX0.o.2 2 _ rfl
 go_wp2_with fail
 refine (HZ1.o W0 k HB0.o KK0.o rfl n0 (Int.le_trans b0 (by decide))).mono ?_
 rintro e W1 ⟨q1, rfl, he, hn, hb, hkb⟩
 have HX1 := iH (HX0.o.below hb)
 have HB1 := iH (bl_trans HB0.o hb)
 have KK1 := iH (KK0.o.trans hkb)
 obtain ⟨n1, b1⟩ := lenNx he.o n0 b0 HL1.o
 have E1 := he
 clear he hb hkb ld HX0 HB0 KK0
 have ld : W1.rangeAt w.heap.size 3 [.int .i64 e.d.t.t.k, .slice e.d.t.t.a e.d.t.t.len e.d.t.t.cap, .int .i64 e.d.t.t.n, .int .i64 e.d.t.t.s] := HX1.o.range 3 _ rfl
 go_wp2_with (with_reducible refine wpv_at ?_; refine ldr rfl rfl rfl Tryz.underlying35 ld rfl ?_; try simp only [Act.put, sA, zA, cA])
 refine (HZ2.o W1 q1 HB1.o KK1.o E1.o n1 (Int.le_trans b1 (by decide))).mono ?_
 rintro e W2 ⟨q2, rfl, he, hn, hb, hkb⟩
 have HX2 := iH (HX1.o.below hb)
 have HB2 := iH (bl_trans HB1.o hb)
 have KK2 := iH (KK1.o.trans hkb)
 obtain ⟨n2, b2⟩ := lenNx he.o n1 b1 HL2.o
 have E2 : Hd (q2 = k + ((((txC e.d.v.a e.d.v.len) ++ (txC e.d.t.t.a e.d.t.t.len)).length : Nat) : Int)) := hdApp E1.o he.o
 clear he hb hkb ld HX1 HB1 KK1 E1
 have ld := HX2.o.2 7 _ rfl
 go_wp2_with fail
 refine (HZ3.o W2 q2 HB2.o KK2.o E2.o n2 (Int.le_trans b2 (by decide))).mono ?_
 rintro e W3 ⟨q3, rfl, he, hn, hb, hkb⟩
 have HX3 := iH (HX2.o.below hb)
 have HB3 := iH (bl_trans HB2.o hb)
 have KK3 := iH (KK2.o.trans hkb)
 obtain ⟨n3, b3⟩ := lenNx he.o n2 b2 HL3.o
 have E3 : Hd (q3 = k + ((((txC e.d.v.a e.d.v.len) ++ (txC e.d.t.t.a e.d.t.t.len) ++ (e.ms)).length : Nat) : Int)) := hdApp E2.o he.o
 clear he hb hkb ld HX2 HB2 KK2 E2
 go_wp2
 go_ret
 exact ⟨q3, rfl, E3, Int.not_lt.2 n3, HB3.o, KK3.o⟩
theorem hdAlg (B C : Nat) (y : AT) (k : Int) (w : World) (hC : C ≤ w.heap.size) (hk : 0 ≤ k) (hk2 : k ≤ 1125899906842624) (h : AMk B C w y) (hH : Hl w ((patM y.d.pa y.d.pn y.d.pat ++ (txC y.d.e.d.v.a y.d.e.d.v.len ++ txC y.d.e.d.t.t.a y.d.e.d.t.t.len ++ y.d.e.ms) ++ txC y.d.v.a y.d.v.len ++ termM y.d.ta y.d.tb ++ y.ms)) k) (hx : ∀ c ∈ ((patM y.d.pa y.d.pn y.d.pat ++ (txC y.d.e.d.v.a y.d.e.d.v.len ++ txC y.d.e.d.t.t.a y.d.e.d.t.t.len ++ y.d.e.ms) ++ txC y.d.v.a y.d.v.len ++ termM y.d.ta y.d.tb ++ y.ms)), c.1 < w.heap.size) :
 Calls Tryz.prog 21 #[.agg y.d.ar, .int .i64 k] w (HdB w ((patM y.d.pa y.d.pn y.d.pat ++ (txC y.d.e.d.v.a y.d.e.d.v.len ++ txC y.d.e.d.t.t.a y.d.e.d.t.t.len ++ y.d.e.ms) ++ txC y.d.v.a y.d.v.len ++ termM y.d.ta y.d.tb ++ y.ms)) k) := by
 have HH5 := iH (Hl.app (A := (patM y.d.pa y.d.pn y.d.pat) ++ ((txC y.d.e.d.v.a y.d.e.d.v.len ++ txC y.d.e.d.t.t.a y.d.e.d.t.t.len ++ y.d.e.ms)) ++ (txC y.d.v.a y.d.v.len) ++ (termM y.d.ta y.d.tb)) (L := (y.ms)) hH)
 have HH4 := iH (Hl.app (A := (patM y.d.pa y.d.pn y.d.pat) ++ ((txC y.d.e.d.v.a y.d.e.d.v.len ++ txC y.d.e.d.t.t.a y.d.e.d.t.t.len ++ y.d.e.ms)) ++ (txC y.d.v.a y.d.v.len)) (L := (termM y.d.ta y.d.tb)) HH5.o.1)
 have HH3 := iH (Hl.app (A := (patM y.d.pa y.d.pn y.d.pat) ++ ((txC y.d.e.d.v.a y.d.e.d.v.len ++ txC y.d.e.d.t.t.a y.d.e.d.t.t.len ++ y.d.e.ms))) (L := (txC y.d.v.a y.d.v.len)) HH4.o.1)
 have HH2 := iH (Hl.app (A := (patM y.d.pa y.d.pn y.d.pat)) (L := ((txC y.d.e.d.v.a y.d.e.d.v.len ++ txC y.d.e.d.t.t.a y.d.e.d.t.t.len ++ y.d.e.ms))) HH3.o.1)
 have HH1 := iH HH2.o.1
 have HZ1 : Hd (∀ (W : World) (q : Int), Bl w W → KB w W → q = k → 0 ≤ q → q ≤ 4503599627370496 → Cl 66 #[.slice y.d.pa y.d.pn y.d.pc, .int .i64 q] W (HdB W (patM y.d.pa y.d.pn y.d.pat) q)) := fun W q hb kq eq0 h0 h1 => (by
  have hl : Hl W (patM y.d.pa y.d.pn y.d.pat) q := by rw [eq0]; exact Hl.below (fun c hc => hb.cell (p := ⟨c.1, c.2.1, none⟩) (hx c (List.mem_append_left _ (List.mem_append_left _ (List.mem_append_left _ (List.mem_append_left _ hc)))))) HH1.o
  have hm : ∀ c ∈ (patM y.d.pa y.d.pn y.d.pat), c.1 < W.heap.size := fun c hc => Nat.lt_of_lt_of_le (hx c (List.mem_append_left _ (List.mem_append_left _ (List.mem_append_left _ (List.mem_append_left _ hc))))) hb.size
  have hCW := Nat.le_trans hC hb.size
  exact (heldPats_x B C y.d.pa y.d.pc y.d.pn y.d.pat q W h0 (by have := h.pl; omega) (h.p.kb kq) hl).mono fun _ _ h => h.b h0)
 have HL1 : Hd (((patM y.d.pa y.d.pn y.d.pat).length : Int) ≤ 1099511627776) := h.pl
 have HZ2 : Hd (∀ (W : World) (q : Int), Bl w W → KB w W → q = k + ((((patM y.d.pa y.d.pn y.d.pat)).length : Nat) : Int) → 0 ≤ q → q ≤ 4503599627370496 → Cl 55 #[.agg y.d.e.d.ar, .int .i64 q] W (HdB W ((txC y.d.e.d.v.a y.d.e.d.v.len ++ txC y.d.e.d.t.t.a y.d.e.d.t.t.len ++ y.d.e.ms)) q)) := fun W q hb kq eq0 h0 h1 => (by
  have hl : Hl W ((txC y.d.e.d.v.a y.d.e.d.v.len ++ txC y.d.e.d.t.t.a y.d.e.d.t.t.len ++ y.d.e.ms)) q := by rw [eq0]; exact Hl.below (fun c hc => hb.cell (p := ⟨c.1, c.2.1, none⟩) (hx c (List.mem_append_left _ (List.mem_append_left _ (List.mem_append_left _ (List.mem_append_right _ hc)))))) (HH2.o.2 _ rfl)
  have hm : ∀ c ∈ ((txC y.d.e.d.v.a y.d.e.d.v.len ++ txC y.d.e.d.t.t.a y.d.e.d.t.t.len ++ y.d.e.ms)), c.1 < W.heap.size := fun c hc => Nat.lt_of_lt_of_le (hx c (List.mem_append_left _ (List.mem_append_left _ (List.mem_append_left _ (List.mem_append_right _ hc))))) hb.size
  have hCW := Nat.le_trans hC hb.size
  exact hdExpr B C y.d.e q W hCW h0 (Int.le_trans h1 (by decide)) (h.e.kb kq) hl hm)
 have HL2 : Hd ((((txC y.d.e.d.v.a y.d.e.d.v.len ++ txC y.d.e.d.t.t.a y.d.e.d.t.t.len ++ y.d.e.ms)).length : Int) ≤ 2199023255552) := h.e.len
 have HZ3 : Hd (∀ (W : World) (q : Int), Bl w W → KB w W → q = k + ((((patM y.d.pa y.d.pn y.d.pat) ++ ((txC y.d.e.d.v.a y.d.e.d.v.len ++ txC y.d.e.d.t.t.a y.d.e.d.t.t.len ++ y.d.e.ms))).length : Nat) : Int) → 0 ≤ q → q ≤ 4503599627370496 → Cl 56 #[.slice y.d.v.a y.d.v.len y.d.v.cap, .int .i64 q] W (HdB W (txC y.d.v.a y.d.v.len) q)) := fun W q hb kq eq0 h0 h1 => (by
  have hl : Hl W (txC y.d.v.a y.d.v.len) q := by rw [eq0]; exact Hl.below (fun c hc => hb.cell (p := ⟨c.1, c.2.1, none⟩) (hx c (List.mem_append_left _ (List.mem_append_left _ (List.mem_append_right _ hc))))) (HH3.o.2 _ rfl)
  have hm : ∀ c ∈ (txC y.d.v.a y.d.v.len), c.1 < W.heap.size := fun c hc => Nat.lt_of_lt_of_le (hx c (List.mem_append_left _ (List.mem_append_left _ (List.mem_append_right _ hc)))) hb.size
  have hCW := Nat.le_trans hC hb.size
  exact (heldText_x y.d.v.a y.d.v.len y.d.v.cap q W h.v.form hl h0 (Int.le_trans h1 (by decide)) h.v.1).mono fun _ _ h => h.b h0)
 have HL3 : Hd (((txC y.d.v.a y.d.v.len).length : Int) ≤ 1048576) := txl h.v
 have HZ4 : Hd (∀ (W : World) (q : Int), Bl w W → KB w W → q = k + ((((patM y.d.pa y.d.pn y.d.pat) ++ ((txC y.d.e.d.v.a y.d.e.d.v.len ++ txC y.d.e.d.t.t.a y.d.e.d.t.t.len ++ y.d.e.ms)) ++ (txC y.d.v.a y.d.v.len)).length : Nat) : Int) → 0 ≤ q → q ≤ 4503599627370496 → Cl 57 #[.slice y.d.ta y.d.tb.length y.d.tc, .int .i64 q] W (HdB W (termM y.d.ta y.d.tb) q)) := fun W q hb kq eq0 h0 h1 => (by
  have hl : Hl W (termM y.d.ta y.d.tb) q := by rw [eq0]; exact Hl.below (fun c hc => hb.cell (p := ⟨c.1, c.2.1, none⟩) (hx c (List.mem_append_left _ (List.mem_append_right _ hc)))) (HH4.o.2 _ rfl)
  have hm : ∀ c ∈ (termM y.d.ta y.d.tb), c.1 < W.heap.size := fun c hc => Nat.lt_of_lt_of_le (hx c (List.mem_append_left _ (List.mem_append_right _ hc))) hb.size
  have hCW := Nat.le_trans hC hb.size
  exact (heldTerms_x B C y.d.ta y.d.tc y.d.tb q W h0 (by have := h.tl; omega) (h.t.kb kq) hl).mono fun _ _ h => h.b h0)
 have HL4 : Hd (((termM y.d.ta y.d.tb).length : Int) ≤ 1099511627776) := h.tl
 have HZ5 : Hd (∀ (W : World) (q : Int), Bl w W → KB w W → q = k + ((((patM y.d.pa y.d.pn y.d.pat) ++ ((txC y.d.e.d.v.a y.d.e.d.v.len ++ txC y.d.e.d.t.t.a y.d.e.d.t.t.len ++ y.d.e.ms)) ++ (txC y.d.v.a y.d.v.len) ++ (termM y.d.ta y.d.tb)).length : Nat) : Int) → 0 ≤ q → q ≤ 4503599627370496 → Cl 67 #[.slice y.d.ka y.d.n y.d.kc, .int .i64 q] W (HdB W (y.ms) q)) := fun W q hb kq eq0 h0 h1 => (by
  have hl : Hl W (y.ms) q := by rw [eq0]; exact Hl.below (fun c hc => hb.cell (p := ⟨c.1, c.2.1, none⟩) (hx c (List.mem_append_right _ hc))) (HH5.o.2 _ rfl)
  have hm : ∀ c ∈ (y.ms), c.1 < W.heap.size := fun c hc => Nat.lt_of_lt_of_le (hx c (List.mem_append_right _ hc)) hb.size
  have hCW := Nat.le_trans hC hb.size
  exact (heldAlgS_t B C y q W h0 (by have := h.kl; omega) (h.k.kb kq) hl).mono fun _ _ h => h.b h0)
 have HL5 : Hd (((y.ms).length : Int) ≤ 1099511627776) := h.kl
 have HX0 := iH (Box.new w y.d.ar 52 (0, 0))
 have HB0 := iH (bl_a (w := w) (.cells y.d.ar 52))
 have KK0 := iH (KB.box w y.d.ar 52)
 have n0 := hk
 have b0 := hk2
 clear hC hH hx HH1 HH2 HH3 HH4 HH5
 go_in
 go_upto_region 1 with fail
 generalize (w.alloc _) = W0 at *
 have ld := HX0.o.2 1 _ rfl
 go_wp2_with fail
 refine (HZ1.o W0 k HB0.o KK0.o rfl n0 (Int.le_trans b0 (by decide))).mono ?_
 rintro e W1 ⟨q1, rfl, he, hn, hb, hkb⟩
 have HX1 := iH (HX0.o.below hb)
 have HB1 := iH (bl_trans HB0.o hb)
 have KK1 := iH (KK0.o.trans hkb)
 obtain ⟨n1, b1⟩ := lenNx he.o n0 b0 HL1.o
 have E1 := he
 clear he hb hkb ld HX0 HB0 KK0
 have ld : W1.rangeAt w.heap.size 2 y.d.e.d.cl := HX1.o.range 2 _ rfl
 go_wp2_with (with_reducible refine wpv_at ?_; refine ldr rfl rfl rfl Tryz.underlying42 ld rfl ?_; try simp only [Act.put, sA, zA, cA])
 refine (HZ2.o W1 q1 HB1.o KK1.o E1.o n1 (Int.le_trans b1 (by decide))).mono ?_
 rintro e W2 ⟨q2, rfl, he, hn, hb, hkb⟩
 have HX2 := iH (HX1.o.below hb)
 have HB2 := iH (bl_trans HB1.o hb)
 have KK2 := iH (KK1.o.trans hkb)
 obtain ⟨n2, b2⟩ := lenNx he.o n1 b1 HL2.o
 have E2 : Hd (q2 = k + ((((patM y.d.pa y.d.pn y.d.pat) ++ ((txC y.d.e.d.v.a y.d.e.d.v.len ++ txC y.d.e.d.t.t.a y.d.e.d.t.t.len ++ y.d.e.ms))).length : Nat) : Int)) := hdApp E1.o he.o
 clear he hb hkb ld HX1 HB1 KK1 E1
 have ld := HX2.o.2 10 _ rfl
 go_wp2_with fail
 refine (HZ3.o W2 q2 HB2.o KK2.o E2.o n2 (Int.le_trans b2 (by decide))).mono ?_
 rintro e W3 ⟨q3, rfl, he, hn, hb, hkb⟩
 have HX3 := iH (HX2.o.below hb)
 have HB3 := iH (bl_trans HB2.o hb)
 have KK3 := iH (KK2.o.trans hkb)
 obtain ⟨n3, b3⟩ := lenNx he.o n2 b2 HL3.o
 have E3 : Hd (q3 = k + ((((patM y.d.pa y.d.pn y.d.pat) ++ ((txC y.d.e.d.v.a y.d.e.d.v.len ++ txC y.d.e.d.t.t.a y.d.e.d.t.t.len ++ y.d.e.ms)) ++ (txC y.d.v.a y.d.v.len)).length : Nat) : Int)) := hdApp E2.o he.o
 clear he hb hkb ld HX2 HB2 KK2 E2
 have ld := HX3.o.2 11 _ rfl
 go_wp2_with fail
 refine (HZ4.o W3 q3 HB3.o KK3.o E3.o n3 (Int.le_trans b3 (by decide))).mono ?_
 rintro e W4 ⟨q4, rfl, he, hn, hb, hkb⟩
 have HX4 := iH (HX3.o.below hb)
 have HB4 := iH (bl_trans HB3.o hb)
 have KK4 := iH (KK3.o.trans hkb)
 obtain ⟨n4, b4⟩ := lenNx he.o n3 b3 HL4.o
 have E4 : Hd (q4 = k + ((((patM y.d.pa y.d.pn y.d.pat) ++ ((txC y.d.e.d.v.a y.d.e.d.v.len ++ txC y.d.e.d.t.t.a y.d.e.d.t.t.len ++ y.d.e.ms)) ++ (txC y.d.v.a y.d.v.len) ++ (termM y.d.ta y.d.tb)).length : Nat) : Int)) := hdApp E3.o he.o
 clear he hb hkb ld HX3 HB3 KK3 E3
 have ld := HX4.o.2 12 _ rfl
 go_wp2_with fail
 refine (HZ5.o W4 q4 HB4.o KK4.o E4.o n4 (Int.le_trans b4 (by decide))).mono ?_
 rintro e W5 ⟨q5, rfl, he, hn, hb, hkb⟩
 have HX5 := iH (HX4.o.below hb)
 have HB5 := iH (bl_trans HB4.o hb)
 have KK5 := iH (KK4.o.trans hkb)
 obtain ⟨n5, b5⟩ := lenNx he.o n4 b4 HL5.o
 have E5 : Hd (q5 = k + ((((patM y.d.pa y.d.pn y.d.pat) ++ ((txC y.d.e.d.v.a y.d.e.d.v.len ++ txC y.d.e.d.t.t.a y.d.e.d.t.t.len ++ y.d.e.ms)) ++ (txC y.d.v.a y.d.v.len) ++ (termM y.d.ta y.d.tb) ++ (y.ms)).length : Nat) : Int)) := hdApp E4.o he.o
 clear he hb hkb ld HX4 HB4 KK4 E4
 go_wp2
 go_ret
 exact ⟨q5, rfl, E5, Int.not_lt.2 n5, HB5.o, KK5.o⟩
end Go.Proofs.YtoloadogihbdeaaGreat
