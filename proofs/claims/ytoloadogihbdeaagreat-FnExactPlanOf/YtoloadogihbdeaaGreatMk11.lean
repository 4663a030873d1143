import Derived.Test.YtoloadogihbdeaaGreatMk10
import Derived.Deep.Strs
import Derived.Deep.Slices
namespace Go.Proofs.YtoloadogihbdeaaGreat
open Go.RowKit Go.Deep
set_option maxHeartbeats 40000000
set_option maxRecDepth 100000
variable {held : Bool} {e : ET} {x : IB} {k l m : Int} {A L : List MC} {tb : List TB} {cs : List Value} {B B' C base fuel g n q sz : Nat} {a : Option Addr} {P : Program} {t : TypeId} {W w w' : World}
theorem Box.mg {b : Nat} {L : List Value} (h : Box w b L) (hm : Mg B C w w') (hC : C ≤ b) : Box w' b L :=
 ⟨Nat.lt_of_lt_of_le h.1 hm.size, fun c u hu => (World.cell?_of_block (w := w) (a := ⟨b, c, none⟩) (hm.block b h.1 (.inr hC))).trans (h.2 c u hu)⟩
theorem Mkd.nx {b : Int} (h : Mkd B C w w' A k m) (h0 : 0 ≤ k) (h1 : k ≤ b) (h2 : (A.length : Int) ≤ l) : 0 ≤ m ∧ m ≤ b + l := by
 have := h.q;omega
theorem lenNx {b : Int} (h : m = k + (A.length : Int)) (h0 : 0 ≤ k) (h1 : k ≤ b) (h2 : (A.length : Int) ≤ l) : 0 ≤ m ∧ m ≤ b + l := by omega
theorem len3 {M : List MC} (h1 : ((A.length : Nat) : Int) ≤ 2097152) (h2 : ((L.length : Nat) : Int) ≤ 2097152) (h3 : ((M.length : Nat) : Int) ≤ 2097152) : ((A ++ L ++ M).length : Int) ≤ 6291456 := by
 rw [List.length_append, List.length_append];omega
theorem hdApp {q : Int} (h : q = k + ((A.length : Nat) : Int)) (h2 : m = q + (L.length : Int)) : m = k + (((A ++ L).length : Nat) : Int) := by
 rw [List.length_append];omega
def HdB (w : World) (L : List MC) (k : Int) (e : Ending) (w' : World) : Prop := ∃ q : Int, e = .returned (.int .i64 q) ∧ Hd (q = k + (L.length : Int)) ∧ ¬ q < 0 ∧ Bl w w' ∧ KB w w'
theorem HdX.b {e : Ending} (hk : 0 ≤ k) (h : HdX w L k e w') : HdB w L k e w' := by
 obtain ⟨q, h1, h2, rfl⟩ := h;exact ⟨q, h1, h2, by have := h2.o; omega, Below.refl _ _, KB.refl _⟩
theorem txl {len : Nat} (h : TxM B C w a len) : ((txC a len).length : Int) ≤ 1048576 := by
 rw [txC_len];have := h.1;omega
theorem mkTerm (B C : Nat) (t : TB) (k : Int) (w : World) (hC : C ≤ w.heap.size) (hk : 0 ≤ k) (hk2 : k ≤ 72057594037927936) (ht : TxM B C w t.t.a t.t.len) :
 Calls Tryz.prog 98 #[.agg #[.int .i64 t.t.k, .slice t.t.a t.t.len t.t.cap, .int .i64 t.t.n, .int .i64 t.t.s], .int .i64 k] w (MkX B C w (txC t.t.a t.t.len) k) := by
 have HZ1 := iH (fun (W : World) (k : Int) (q : KB w W) (hC : C ≤ W.heap.size) (h0 : 0 ≤ k) (h1 : k ≤ 288230376151711744) => markText_x B C _ _ t.t.cap k W (ht.kb q) h0 (Int.le_trans h1 (by decide)));have HL1 := iH (txl ht);have HX0 := iH (Box.new w #[.int .i64 t.t.k, .slice t.t.a t.t.len t.t.cap, .int .i64 t.t.n, .int .i64 t.t.s] 35 (0, 0));have M0 := iH ((Mkd.refl B C w k).box hC #[.int .i64 t.t.k, .slice t.t.a t.t.len t.t.cap, .int .i64 t.t.n, .int .i64 t.t.s] 35);have HCw := iH hC;have n0 := hk;have b0 := hk2;clear hC;go_in;go_upto_region 1 with fail
 generalize (w.alloc _) = W0 at *;have ld := HX0.o.2 1 _ rfl;go_wp2_with fail
 refine (HZ1.o W0 k M0.o.kb (Nat.le_trans HCw.o M0.o.mid.size) n0 (Int.le_trans b0 (by decide))).mono ?_;rintro e W1 ⟨q1, rfl, h⟩;have M1 := iH (M0.o.app h rfl);have HX1 := iH (HX0.o.mg h.mid HCw.o);obtain ⟨n1, b1⟩ := h.nx n0 b0 HL1.o;clear h ld M0 HX0;go_wp2;go_ret;exact ⟨q1, rfl, M1.o.cast (by simp only [List.nil_append])⟩
theorem mkExpr (B C : Nat) (e : ET) (k : Int) (w : World) (hC : C ≤ w.heap.size) (hk : 0 ≤ k) (hk2 : k ≤ 18014398509481984) (hv : TxM B C w e.d.v.a e.d.v.len) (ht : TxM B C w e.d.t.t.a e.d.t.t.len) (hke : KM B C w e) (hl : (e.ms.length : Int) ≤ 1099511627776) :
 Calls Tryz.prog 48 #[.agg e.d.ar, .int .i64 k] w (MkX B C w ((txC e.d.v.a e.d.v.len ++ txC e.d.t.t.a e.d.t.t.len ++ e.ms)) k) := by
 have HZ1 := iH (fun (W : World) (k : Int) (q : KB w W) (hC : C ≤ W.heap.size) (h0 : 0 ≤ k) (h1 : k ≤ 72057594037927936) => markText_x B C _ _ e.d.v.cap k W (hv.kb q) h0 (Int.le_trans h1 (by decide)));have HL1 := iH (txl hv);have HZ2 := iH (fun (W : World) (k : Int) (q : KB w W) (hC : C ≤ W.heap.size) (h0 : 0 ≤ k) (h1 : k ≤ 72057594037927936) => mkTerm B C _ k W hC h0 (Int.le_trans h1 (by decide)) (ht.kb q));have HL2 := iH (txl ht);have HZ3 := iH (fun (W : World) (k : Int) (q : KB w W) (hC : C ≤ W.heap.size) (h0 : 0 ≤ k) (h1 : k ≤ 72057594037927936) => markKids_x B C e W k h0 (by omega) (hke.kb q));have HL3 := iH hl;have HX0 := iH (Box.new w e.d.ar 42 (0, 0));have M0 := iH ((Mkd.refl B C w k).box hC e.d.ar 42);have HCw := iH hC;have n0 := hk;have b0 := hk2;clear hC;go_in;go_upto_region 1 with fail
 generalize (w.alloc _) = W0 at *;have ld := HX0.o.2 2 _ rfl;go_wp2_with fail
 refine (HZ1.o W0 k M0.o.kb (Nat.le_trans HCw.o M0.o.mid.size) n0 (Int.le_trans b0 (by decide))).mono ?_;rintro e W1 ⟨q1, rfl, h⟩;have M1 := iH (M0.o.app h rfl);have HX1 := iH (HX0.o.mg h.mid HCw.o);obtain ⟨n1, b1⟩ := h.nx n0 b0 HL1.o;clear h ld M0 HX0;have ld : W1.rangeAt w.heap.size 3 [.int .i64 e.d.t.t.k, .slice e.d.t.t.a e.d.t.t.len e.d.t.t.cap, .int .i64 e.d.t.t.n, .int .i64 e.d.t.t.s] := HX1.o.range 3 _ rfl;go_wp2_with (with_reducible refine wpv_at ?_; refine ldr rfl rfl rfl Tryz.underlying35 ld rfl ?_; try simp only [Act.put, sA, zA, cA])
 refine (HZ2.o W1 q1 M1.o.kb (Nat.le_trans HCw.o M1.o.mid.size) n1 (Int.le_trans b1 (by decide))).mono ?_;rintro e W2 ⟨q2, rfl, h⟩;have M2 := iH (M1.o.app h rfl);have HX2 := iH (HX1.o.mg h.mid HCw.o);obtain ⟨n2, b2⟩ := h.nx n1 b1 HL2.o;clear h ld M1 HX1;have ld := HX2.o.2 7 _ rfl;go_wp2_with fail
 refine (HZ3.o W2 q2 M2.o.kb (Nat.le_trans HCw.o M2.o.mid.size) n2 (Int.le_trans b2 (by decide))).mono ?_;rintro e W3 ⟨q3, rfl, h⟩;have M3 := iH (M2.o.app h rfl);have HX3 := iH (HX2.o.mg h.mid HCw.o);obtain ⟨n3, b3⟩ := h.nx n2 b2 HL3.o;clear h ld M2 HX2;go_wp2;go_ret;exact ⟨q3, rfl, M3.o.cast (by simp only [List.nil_append])⟩
theorem mkItem (B C : Nat) (x : IB) (k : Int) (w : World) (hC : C ≤ w.heap.size) (hk : 0 ≤ k) (hk2 : k ≤ 18014398509481984) (hv : TxM B C w x.v.a x.v.len) (ht : TxM B C w x.t.t.a x.t.t.len) :
 Calls Tryz.prog 100 #[.agg x.ar, .int .i64 k] w (MkX B C w ((txC x.v.a x.v.len ++ txC x.t.t.a x.t.t.len)) k) := by
 have HZ1 := iH (fun (W : World) (k : Int) (q : KB w W) (hC : C ≤ W.heap.size) (h0 : 0 ≤ k) (h1 : k ≤ 72057594037927936) => markText_x B C _ _ x.v.cap k W (hv.kb q) h0 (Int.le_trans h1 (by decide)));have HL1 := iH (txl hv);have HZ2 := iH (fun (W : World) (k : Int) (q : KB w W) (hC : C ≤ W.heap.size) (h0 : 0 ≤ k) (h1 : k ≤ 72057594037927936) => mkTerm B C x.t k W hC h0 (Int.le_trans h1 (by decide)) (ht.kb q));have HL2 := iH (txl ht);have HX0 := iH (Box.new w x.ar 37 (0, 0));have M0 := iH ((Mkd.refl B C w k).box hC x.ar 37);have HCw := iH hC;have n0 := hk;have b0 := hk2;clear hC;go_in;go_upto_region 1 with fail
 generalize (w.alloc _) = W0 at *;have ld := HX0.o.2 0 _ rfl;go_wp2_with fail
 refine (HZ1.o W0 k M0.o.kb (Nat.le_trans HCw.o M0.o.mid.size) n0 (Int.le_trans b0 (by decide))).mono ?_;rintro e W1 ⟨q1, rfl, h⟩;have M1 := iH (M0.o.app h rfl);have HX1 := iH (HX0.o.mg h.mid HCw.o);obtain ⟨n1, b1⟩ := h.nx n0 b0 HL1.o;clear h ld M0 HX0;have ld : W1.rangeAt w.heap.size 1 [.int .i64 x.t.t.k, .slice x.t.t.a x.t.t.len x.t.t.cap, .int .i64 x.t.t.n, .int .i64 x.t.t.s] := HX1.o.range 1 _ rfl;go_wp2_with (with_reducible refine wpv_at ?_; refine ldr rfl rfl rfl Tryz.underlying35 ld rfl ?_; try simp only [Act.put, sA, zA, cA])
 refine (HZ2.o W1 q1 M1.o.kb (Nat.le_trans HCw.o M1.o.mid.size) n1 (Int.le_trans b1 (by decide))).mono ?_;rintro e W2 ⟨q2, rfl, h⟩;have M2 := iH (M1.o.app h rfl);have HX2 := iH (HX1.o.mg h.mid HCw.o);obtain ⟨n2, b2⟩ := h.nx n1 b1 HL2.o;clear h ld M1 HX1;go_wp2;go_ret;exact ⟨q2, rfl, M2.o.cast (by simp only [List.nil_append])⟩
structure IMk (B C : Nat) (w : World) (x : IB) : Prop where
 v : TxM B C w x.v.a x.v.len
 t : TxM B C w x.t.t.a x.t.t.len
theorem IMk.kb (h : IMk B C w x) (k : KB w w') : IMk B C w' x := ⟨h.v.kb k, h.t.kb k⟩
theorem IMk.len (h : IMk B C w x) : (((txC x.v.a x.v.len ++ txC x.t.t.a x.t.t.len).length : Nat) : Int) ≤ 2097152 := by
 have := txl h.v;have := txl h.t;rw [List.length_append];omega
structure EMk (B C : Nat) (w : World) (e : ET) : Prop where
 v : TxM B C w e.d.v.a e.d.v.len
 t : TxM B C w e.d.t.t.a e.d.t.t.len
 k : KM B C w e
 l : (e.ms.length : Int) ≤ 1099511627776
theorem EMk.kb (h : EMk B C w e) (k : KB w w') : EMk B C w' e := ⟨h.v.kb k, h.t.kb k, h.k.kb k, h.l⟩
theorem EMk.len (h : EMk B C w e) : (((txC e.d.v.a e.d.v.len ++ txC e.d.t.t.a e.d.t.t.len ++ e.ms).length : Nat) : Int) ≤ 2199023255552 := by
 have := txl h.v;have := txl h.t;have := h.l;rw [List.length_append, List.length_append];omega
theorem mkPat (B C : Nat) (p : PB) (k : Int) (w : World) (hC : C ≤ w.heap.size) (hk : 0 ≤ k) (hk2 : k ≤ 4503599627370496) (g1 : IMk B C w p.s) (g2 : IMk B C w p.p) (g3 : IMk B C w p.o) :
 Calls Tryz.prog 52 #[.agg p.ar, .int .i64 k] w (MkX B C w (((txC p.s.v.a p.s.v.len ++ txC p.s.t.t.a p.s.t.t.len) ++ (txC p.p.v.a p.p.v.len ++ txC p.p.t.t.a p.p.t.t.len) ++ (txC p.o.v.a p.o.v.len ++ txC p.o.t.t.a p.o.t.t.len))) k) := by
 have HZ1 := iH (fun (W : World) (k : Int) (q : KB w W) (hC : C ≤ W.heap.size) (h0 : 0 ≤ k) (h1 : k ≤ 18014398509481984) => mkItem B C p.s k W hC h0 (Int.le_trans h1 (by decide)) (g1.v.kb q) (g1.t.kb q));have HL1 := iH g1.len;have HZ2 := iH (fun (W : World) (k : Int) (q : KB w W) (hC : C ≤ W.heap.size) (h0 : 0 ≤ k) (h1 : k ≤ 18014398509481984) => mkItem B C p.p k W hC h0 (Int.le_trans h1 (by decide)) (g2.v.kb q) (g2.t.kb q));have HL2 := iH g2.len;have HZ3 := iH (fun (W : World) (k : Int) (q : KB w W) (hC : C ≤ W.heap.size) (h0 : 0 ≤ k) (h1 : k ≤ 18014398509481984) => mkItem B C p.o k W hC h0 (Int.le_trans h1 (by decide)) (g3.v.kb q) (g3.t.kb q));have HL3 := iH g3.len;have HX0 := iH (Box.new w p.ar 39 (0, 0));have M0 := iH ((Mkd.refl B C w k).box hC p.ar 39);have HCw := iH hC;have n0 := hk;have b0 := hk2;clear hC;go_in;go_upto_region 1 with fail
 generalize (w.alloc _) = W0 at *;have ld : W0.rangeAt w.heap.size 0 p.s.cl := HX0.o.range 0 _ rfl;go_wp2_with (with_reducible refine wpv_at ?_; refine ldr rfl rfl rfl Tryz.underlying37 ld rfl ?_; try simp only [Act.put, sA, zA, cA])
 refine (HZ1.o W0 k M0.o.kb (Nat.le_trans HCw.o M0.o.mid.size) n0 (Int.le_trans b0 (by decide))).mono ?_;rintro e W1 ⟨q1, rfl, h⟩;have M1 := iH (M0.o.app h rfl);have HX1 := iH (HX0.o.mg h.mid HCw.o);obtain ⟨n1, b1⟩ := h.nx n0 b0 HL1.o;clear h ld M0 HX0;have ld : W1.rangeAt w.heap.size 5 p.p.cl := HX1.o.range 5 _ rfl;go_wp2_with (with_reducible refine wpv_at ?_; refine ldr rfl rfl rfl Tryz.underlying37 ld rfl ?_; try simp only [Act.put, sA, zA, cA])
 refine (HZ2.o W1 q1 M1.o.kb (Nat.le_trans HCw.o M1.o.mid.size) n1 (Int.le_trans b1 (by decide))).mono ?_;rintro e W2 ⟨q2, rfl, h⟩;have M2 := iH (M1.o.app h rfl);have HX2 := iH (HX1.o.mg h.mid HCw.o);obtain ⟨n2, b2⟩ := h.nx n1 b1 HL2.o;clear h ld M1 HX1;have ld : W2.rangeAt w.heap.size 10 p.o.cl := HX2.o.range 10 _ rfl;go_wp2_with (with_reducible refine wpv_at ?_; refine ldr rfl rfl rfl Tryz.underlying37 ld rfl ?_; try simp only [Act.put, sA, zA, cA])
 refine (HZ3.o W2 q2 M2.o.kb (Nat.le_trans HCw.o M2.o.mid.size) n2 (Int.le_trans b2 (by decide))).mono ?_;rintro e W3 ⟨q3, rfl, h⟩;have M3 := iH (M2.o.app h rfl);have HX3 := iH (HX2.o.mg h.mid HCw.o);obtain ⟨n3, b3⟩ := h.nx n2 b2 HL3.o;clear h ld M2 HX2;go_wp2;go_ret;exact ⟨q3, rfl, M3.o.cast (by simp only [List.nil_append])⟩
structure AMk (B C : Nat) (w : World) (y : AT) : Prop where
 p : PX B C w y.d.pa y.d.pn y.d.pat
 e : EMk B C w y.d.e
 v : TxM B C w y.d.v.a y.d.v.len
 t : TsX B C w y.d.ta y.d.tb.length (tbN y.d.tb)
 k : BM B C w y
 pl : ((patM y.d.pa y.d.pn y.d.pat).length : Int) ≤ 1099511627776
 tl : ((termM y.d.ta y.d.tb).length : Int) ≤ 1099511627776
 kl : (y.ms.length : Int) ≤ 1099511627776
def AT.tms (y : AT) : List MC := (patM y.d.pa y.d.pn y.d.pat ++ (txC y.d.e.d.v.a y.d.e.d.v.len ++ txC y.d.e.d.t.t.a y.d.e.d.t.t.len ++ y.d.e.ms) ++ txC y.d.v.a y.d.v.len ++ termM y.d.ta y.d.tb ++ y.ms)
structure PMk (B C : Nat) (w : World) (y : PT) : Prop where
 s : IMk B C w y.d.p.s
 p : IMk B C w y.d.p.p
 o : IMk B C w y.d.p.o
 e : EMk B C w y.d.e
 v : TxM B C w y.d.v.a y.d.v.len
 t : TsX B C w y.d.ta y.d.tb.length (tbN y.d.tb)
 k : QM2 B C w y
 tl : ((termM y.d.ta y.d.tb).length : Int) ≤ 1099511627776
 kl : (y.ms.length : Int) ≤ 1099511627776
theorem mkAlg (B C : Nat) (y : AT) (k : Int) (w : World) (hC : C ≤ w.heap.size) (hk : 0 ≤ k) (hk2 : k ≤ 1125899906842624) (h : AMk B C w y) :
 Calls Tryz.prog 13 #[.agg y.d.ar, .int .i64 k] w (MkX B C w ((patM y.d.pa y.d.pn y.d.pat ++ (txC y.d.e.d.v.a y.d.e.d.v.len ++ txC y.d.e.d.t.t.a y.d.e.d.t.t.len ++ y.d.e.ms) ++ txC y.d.v.a y.d.v.len ++ termM y.d.ta y.d.tb ++ y.ms)) k) := by
 have HZ1 := iH (fun (W : World) (k : Int) (q : KB w W) (hC : C ≤ W.heap.size) (h0 : 0 ≤ k) (h1 : k ≤ 4503599627370496) => markPats_x B C _ y.d.pc _ _ k W h0 (by have := h.pl; omega) (h.p.kb q));have HL1 := iH h.pl;have HZ2 := iH (fun (W : World) (k : Int) (q : KB w W) (hC : C ≤ W.heap.size) (h0 : 0 ≤ k) (h1 : k ≤ 4503599627370496) => mkExpr B C _ k W hC h0 (Int.le_trans h1 (by decide)) (h.e.v.kb q) (h.e.t.kb q) (h.e.k.kb q) h.e.l);have HL2 := iH h.e.len;have HZ3 := iH (fun (W : World) (k : Int) (q : KB w W) (hC : C ≤ W.heap.size) (h0 : 0 ≤ k) (h1 : k ≤ 4503599627370496) => markText_x B C _ _ y.d.v.cap k W (h.v.kb q) h0 (Int.le_trans h1 (by decide)));have HL3 := iH (txl h.v);have HZ4 := iH (fun (W : World) (k : Int) (q : KB w W) (hC : C ≤ W.heap.size) (h0 : 0 ≤ k) (h1 : k ≤ 4503599627370496) => markTerms_x B C _ y.d.tc _ k W h0 (by have := h.tl; omega) (h.t.kb q));have HL4 := iH h.tl;have HZ5 := iH (fun (W : World) (k : Int) (q : KB w W) (hC : C ≤ W.heap.size) (h0 : 0 ≤ k) (h1 : k ≤ 4503599627370496) => markAlgS_t B C y W k h0 (by have := h.kl; omega) (h.k.kb q));have HL5 := iH h.kl;have HX0 := iH (Box.new w y.d.ar 52 (0, 0));have M0 := iH ((Mkd.refl B C w k).box hC y.d.ar 52);have HCw := iH hC;have n0 := hk;have b0 := hk2;clear hC;go_in;go_upto_region 1 with fail
 generalize (w.alloc _) = W0 at *;have ld := HX0.o.2 1 _ rfl;go_wp2_with fail
 refine (HZ1.o W0 k M0.o.kb (Nat.le_trans HCw.o M0.o.mid.size) n0 (Int.le_trans b0 (by decide))).mono ?_;rintro e W1 ⟨q1, rfl, h⟩;have M1 := iH (M0.o.app h rfl);have HX1 := iH (HX0.o.mg h.mid HCw.o);obtain ⟨n1, b1⟩ := h.nx n0 b0 HL1.o;clear h ld M0 HX0;have ld : W1.rangeAt w.heap.size 2 y.d.e.d.cl := HX1.o.range 2 _ rfl;go_wp2_with (with_reducible refine wpv_at ?_; refine ldr rfl rfl rfl Tryz.underlying42 ld rfl ?_; try simp only [Act.put, sA, zA, cA])
 refine (HZ2.o W1 q1 M1.o.kb (Nat.le_trans HCw.o M1.o.mid.size) n1 (Int.le_trans b1 (by decide))).mono ?_;rintro e W2 ⟨q2, rfl, h⟩;have M2 := iH (M1.o.app h rfl);have HX2 := iH (HX1.o.mg h.mid HCw.o);obtain ⟨n2, b2⟩ := h.nx n1 b1 HL2.o;clear h ld M1 HX1;have ld := HX2.o.2 10 _ rfl;go_wp2_with fail
 refine (HZ3.o W2 q2 M2.o.kb (Nat.le_trans HCw.o M2.o.mid.size) n2 (Int.le_trans b2 (by decide))).mono ?_;rintro e W3 ⟨q3, rfl, h⟩;have M3 := iH (M2.o.app h rfl);have HX3 := iH (HX2.o.mg h.mid HCw.o);obtain ⟨n3, b3⟩ := h.nx n2 b2 HL3.o;clear h ld M2 HX2;have ld := HX3.o.2 11 _ rfl;go_wp2_with fail
 refine (HZ4.o W3 q3 M3.o.kb (Nat.le_trans HCw.o M3.o.mid.size) n3 (Int.le_trans b3 (by decide))).mono ?_;rintro e W4 ⟨q4, rfl, h⟩;have M4 := iH (M3.o.app h rfl);have HX4 := iH (HX3.o.mg h.mid HCw.o);obtain ⟨n4, b4⟩ := h.nx n3 b3 HL4.o;clear h ld M3 HX3;have ld := HX4.o.2 12 _ rfl;go_wp2_with fail
 refine (HZ5.o W4 q4 M4.o.kb (Nat.le_trans HCw.o M4.o.mid.size) n4 (Int.le_trans b4 (by decide))).mono ?_;rintro e W5 ⟨q5, rfl, h⟩;have M5 := iH (M4.o.app h rfl);have HX5 := iH (HX4.o.mg h.mid HCw.o);obtain ⟨n5, b5⟩ := h.nx n4 b4 HL5.o;clear h ld M4 HX4;go_wp2;go_ret;exact ⟨q5, rfl, M5.o.cast (by simp only [List.nil_append])⟩
def PT.tms (y : PT) : List MC := (((txC y.d.p.s.v.a y.d.p.s.v.len ++ txC y.d.p.s.t.t.a y.d.p.s.t.t.len) ++ (txC y.d.p.p.v.a y.d.p.p.v.len ++ txC y.d.p.p.t.t.a y.d.p.p.t.t.len) ++ (txC y.d.p.o.v.a y.d.p.o.v.len ++ txC y.d.p.o.t.t.a y.d.p.o.t.t.len)) ++ (txC y.d.e.d.v.a y.d.e.d.v.len ++ txC y.d.e.d.t.t.a y.d.e.d.t.t.len ++ y.d.e.ms) ++ txC y.d.v.a y.d.v.len ++ termM y.d.ta y.d.tb ++ y.ms)
theorem mkPlan (B C : Nat) (y : PT) (k : Int) (w : World) (hC : C ≤ w.heap.size) (hk : 0 ≤ k) (hk2 : k ≤ 1125899906842624) (h : PMk B C w y) :
 Calls Tryz.prog 15 #[.agg y.d.ar, .int .i64 k] w (MkX B C w ((((txC y.d.p.s.v.a y.d.p.s.v.len ++ txC y.d.p.s.t.t.a y.d.p.s.t.t.len) ++ (txC y.d.p.p.v.a y.d.p.p.v.len ++ txC y.d.p.p.t.t.a y.d.p.p.t.t.len) ++ (txC y.d.p.o.v.a y.d.p.o.v.len ++ txC y.d.p.o.t.t.a y.d.p.o.t.t.len)) ++ (txC y.d.e.d.v.a y.d.e.d.v.len ++ txC y.d.e.d.t.t.a y.d.e.d.t.t.len ++ y.d.e.ms) ++ txC y.d.v.a y.d.v.len ++ termM y.d.ta y.d.tb ++ y.ms)) k) := by
 have HZ1 := iH (fun (W : World) (k : Int) (q : KB w W) (hC : C ≤ W.heap.size) (h0 : 0 ≤ k) (h1 : k ≤ 4503599627370496) => mkPat B C _ k W hC h0 (Int.le_trans h1 (by decide)) (h.s.kb q) (h.p.kb q) (h.o.kb q));have HL1 := iH (len3 h.s.len h.p.len h.o.len);have HZ2 := iH (fun (W : World) (k : Int) (q : KB w W) (hC : C ≤ W.heap.size) (h0 : 0 ≤ k) (h1 : k ≤ 4503599627370496) => mkExpr B C _ k W hC h0 (Int.le_trans h1 (by decide)) (h.e.v.kb q) (h.e.t.kb q) (h.e.k.kb q) h.e.l);have HL2 := iH h.e.len;have HZ3 := iH (fun (W : World) (k : Int) (q : KB w W) (hC : C ≤ W.heap.size) (h0 : 0 ≤ k) (h1 : k ≤ 4503599627370496) => markText_x B C _ _ y.d.v.cap k W (h.v.kb q) h0 (Int.le_trans h1 (by decide)));have HL3 := iH (txl h.v);have HZ4 := iH (fun (W : World) (k : Int) (q : KB w W) (hC : C ≤ W.heap.size) (h0 : 0 ≤ k) (h1 : k ≤ 4503599627370496) => markTerms_x B C _ y.d.tc _ k W h0 (by have := h.tl; omega) (h.t.kb q));have HL4 := iH h.tl;have HZ5 := iH (fun (W : World) (k : Int) (q : KB w W) (hC : C ≤ W.heap.size) (h0 : 0 ≤ k) (h1 : k ≤ 4503599627370496) => markPlanS_t B C y W k h0 (by have := h.kl; omega) (h.k.kb q));have HL5 := iH h.kl;have HX0 := iH (Box.new w y.d.ar 46 (0, 0));have M0 := iH ((Mkd.refl B C w k).box hC y.d.ar 46);have HCw := iH hC;have n0 := hk;have b0 := hk2;clear hC;go_in;go_upto_region 1 with fail
 generalize (w.alloc _) = W0 at *;have ld : W0.rangeAt w.heap.size 2 y.d.p.cl := HX0.o.range 2 _ rfl;go_wp2_with (with_reducible refine wpv_at ?_; refine ldr rfl rfl rfl Tryz.underlying39 ld rfl ?_; try simp only [Act.put, sA, zA, cA])
 refine (HZ1.o W0 k M0.o.kb (Nat.le_trans HCw.o M0.o.mid.size) n0 (Int.le_trans b0 (by decide))).mono ?_;rintro e W1 ⟨q1, rfl, h⟩;have M1 := iH (M0.o.app h rfl);have HX1 := iH (HX0.o.mg h.mid HCw.o);obtain ⟨n1, b1⟩ := h.nx n0 b0 HL1.o;clear h ld M0 HX0;have ld : W1.rangeAt w.heap.size 17 y.d.e.d.cl := HX1.o.range 17 _ rfl;go_wp2_with (with_reducible refine wpv_at ?_; refine ldr rfl rfl rfl Tryz.underlying42 ld rfl ?_; try simp only [Act.put, sA, zA, cA])
 refine (HZ2.o W1 q1 M1.o.kb (Nat.le_trans HCw.o M1.o.mid.size) n1 (Int.le_trans b1 (by decide))).mono ?_;rintro e W2 ⟨q2, rfl, h⟩;have M2 := iH (M1.o.app h rfl);have HX2 := iH (HX1.o.mg h.mid HCw.o);obtain ⟨n2, b2⟩ := h.nx n1 b1 HL2.o;clear h ld M1 HX1;have ld := HX2.o.2 25 _ rfl;go_wp2_with fail
 refine (HZ3.o W2 q2 M2.o.kb (Nat.le_trans HCw.o M2.o.mid.size) n2 (Int.le_trans b2 (by decide))).mono ?_;rintro e W3 ⟨q3, rfl, h⟩;have M3 := iH (M2.o.app h rfl);have HX3 := iH (HX2.o.mg h.mid HCw.o);obtain ⟨n3, b3⟩ := h.nx n2 b2 HL3.o;clear h ld M2 HX2;have ld := HX3.o.2 26 _ rfl;go_wp2_with fail
 refine (HZ4.o W3 q3 M3.o.kb (Nat.le_trans HCw.o M3.o.mid.size) n3 (Int.le_trans b3 (by decide))).mono ?_;rintro e W4 ⟨q4, rfl, h⟩;have M4 := iH (M3.o.app h rfl);have HX4 := iH (HX3.o.mg h.mid HCw.o);obtain ⟨n4, b4⟩ := h.nx n3 b3 HL4.o;clear h ld M3 HX3;have ld := HX4.o.2 27 _ rfl;go_wp2_with fail
 refine (HZ5.o W4 q4 M4.o.kb (Nat.le_trans HCw.o M4.o.mid.size) n4 (Int.le_trans b4 (by decide))).mono ?_;rintro e W5 ⟨q5, rfl, h⟩;have M5 := iH (M4.o.app h rfl);have HX5 := iH (HX4.o.mg h.mid HCw.o);obtain ⟨n5, b5⟩ := h.nx n4 b4 HL5.o;clear h ld M4 HX4;go_wp2;go_ret;exact ⟨q5, rfl, M5.o.cast (by simp only [List.nil_append])⟩
theorem hdTerm (B C : Nat) (t : TB) (k : Int) (w : World) (hC : C ≤ w.heap.size) (hk : 0 ≤ k) (hk2 : k ≤ 72057594037927936) (ht : TxM B C w t.t.a t.t.len) (hH : Hl w (txC t.t.a t.t.len) k) (hx : ∀ c ∈ (txC t.t.a t.t.len), c.1 < w.heap.size) :
 Calls Tryz.prog 102 #[.agg #[.int .i64 t.t.k, .slice t.t.a t.t.len t.t.cap, .int .i64 t.t.n, .int .i64 t.t.s], .int .i64 k] w (HdB w (txC t.t.a t.t.len) k) := by
 have HH1 := iH hH;have HZ1 : Hd (∀ (W : World) (q : Int), Bl w W → KB w W → q = k → 0 ≤ q → q ≤ 288230376151711744 → Cl 56 #[.slice t.t.a t.t.len t.t.cap, .int .i64 q] W (HdB W (txC t.t.a t.t.len) q)) := fun W q hb kq eq0 h0 h1 => (by
  have hl : Hl W (txC t.t.a t.t.len) q := by rw [eq0]; exact Hl.below (fun c hc => hb.cell (p := ⟨c.1, c.2.1, none⟩) (hx c hc)) HH1.o
  have hm : ∀ c ∈ (txC t.t.a t.t.len), c.1 < W.heap.size := fun c hc => Nat.lt_of_lt_of_le (hx c hc) hb.size
  have hCW := Nat.le_trans hC hb.size
  exact (heldText_x t.t.a t.t.len t.t.cap q W ht.form hl h0 (Int.le_trans h1 (by decide)) ht.1).mono fun _ _ h => h.b h0)
 have HL1 := iH (txl ht);have HX0 := iH (Box.new w #[.int .i64 t.t.k, .slice t.t.a t.t.len t.t.cap, .int .i64 t.t.n, .int .i64 t.t.s] 35 (0, 0));have HB0 := iH (bl_a (w := w) (.cells #[.int .i64 t.t.k, .slice t.t.a t.t.len t.t.cap, .int .i64 t.t.n, .int .i64 t.t.s] 35));have KK0 := iH (KB.box w #[.int .i64 t.t.k, .slice t.t.a t.t.len t.t.cap, .int .i64 t.t.n, .int .i64 t.t.s] 35);have n0 := hk;have b0 := hk2;clear hC hH hx HH1;go_in;go_upto_region 1 with fail
 generalize (w.alloc _) = W0 at *;have ld := HX0.o.2 1 _ rfl;go_wp2_with fail
 refine (HZ1.o W0 k HB0.o KK0.o rfl n0 (Int.le_trans b0 (by decide))).mono ?_;rintro e W1 ⟨q1, rfl, he, hn, hb, hkb⟩;have HX1 := iH (HX0.o.below hb);have HB1 := iH (bl_trans HB0.o hb);have KK1 := iH (KK0.o.trans hkb);obtain ⟨n1, b1⟩ := lenNx he.o n0 b0 HL1.o;have E1 := he;clear he hb hkb ld HX0 HB0 KK0;go_wp2;go_ret;exact ⟨q1, rfl, E1, Int.not_lt.2 n1, HB1.o, KK1.o⟩
theorem hdExpr (B C : Nat) (e : ET) (k : Int) (w : World) (hC : C ≤ w.heap.size) (hk : 0 ≤ k) (hk2 : k ≤ 18014398509481984) (he : EMk B C w e) (hH : Hl w ((txC e.d.v.a e.d.v.len ++ txC e.d.t.t.a e.d.t.t.len ++ e.ms)) k) (hx : ∀ c ∈ ((txC e.d.v.a e.d.v.len ++ txC e.d.t.t.a e.d.t.t.len ++ e.ms)), c.1 < w.heap.size) :
 Calls Tryz.prog 55 #[.agg e.d.ar, .int .i64 k] w (HdB w ((txC e.d.v.a e.d.v.len ++ txC e.d.t.t.a e.d.t.t.len ++ e.ms)) k) := by
 have HH3 := iH (Hl.app (A := (txC e.d.v.a e.d.v.len) ++ (txC e.d.t.t.a e.d.t.t.len)) (L := (e.ms)) hH);have HH2 := iH (Hl.app (A := (txC e.d.v.a e.d.v.len)) (L := (txC e.d.t.t.a e.d.t.t.len)) HH3.o.1);have HH1 := iH HH2.o.1;have HZ1 : Hd (∀ (W : World) (q : Int), Bl w W → KB w W → q = k → 0 ≤ q → q ≤ 72057594037927936 → Cl 56 #[.slice e.d.v.a e.d.v.len e.d.v.cap, .int .i64 q] W (HdB W (txC e.d.v.a e.d.v.len) q)) := fun W q hb kq eq0 h0 h1 => (by
  have hl : Hl W (txC e.d.v.a e.d.v.len) q := by rw [eq0]; exact Hl.below (fun c hc => hb.cell (p := ⟨c.1, c.2.1, none⟩) (hx c (List.mem_append_left _ (List.mem_append_left _ hc)))) HH1.o
  have hm : ∀ c ∈ (txC e.d.v.a e.d.v.len), c.1 < W.heap.size := fun c hc => Nat.lt_of_lt_of_le (hx c (List.mem_append_left _ (List.mem_append_left _ hc))) hb.size
  have hCW := Nat.le_trans hC hb.size
  exact (heldText_x e.d.v.a e.d.v.len e.d.v.cap q W he.v.form hl h0 (Int.le_trans h1 (by decide)) he.v.1).mono fun _ _ h => h.b h0)
 have HL1 := iH (txl he.v);have HZ2 : Hd (∀ (W : World) (q : Int), Bl w W → KB w W → q = k + ((((txC e.d.v.a e.d.v.len)).length : Nat) : Int) → 0 ≤ q → q ≤ 72057594037927936 → Cl 102 #[.agg #[.int .i64 e.d.t.t.k, .slice e.d.t.t.a e.d.t.t.len e.d.t.t.cap, .int .i64 e.d.t.t.n, .int .i64 e.d.t.t.s], .int .i64 q] W (HdB W (txC e.d.t.t.a e.d.t.t.len) q)) := fun W q hb kq eq0 h0 h1 => (by
  have hl : Hl W (txC e.d.t.t.a e.d.t.t.len) q := by rw [eq0]; exact Hl.below (fun c hc => hb.cell (p := ⟨c.1, c.2.1, none⟩) (hx c (List.mem_append_left _ (List.mem_append_right _ hc)))) (HH2.o.2 _ rfl)
  have hm : ∀ c ∈ (txC e.d.t.t.a e.d.t.t.len), c.1 < W.heap.size := fun c hc => Nat.lt_of_lt_of_le (hx c (List.mem_append_left _ (List.mem_append_right _ hc))) hb.size
  have hCW := Nat.le_trans hC hb.size
  exact hdTerm B C e.d.t q W hCW h0 (Int.le_trans h1 (by decide)) (he.t.kb kq) hl hm)
 have HL2 := iH (txl he.t);have HZ3 : Hd (∀ (W : World) (q : Int), Bl w W → KB w W → q = k + ((((txC e.d.v.a e.d.v.len) ++ (txC e.d.t.t.a e.d.t.t.len)).length : Nat) : Int) → 0 ≤ q → q ≤ 72057594037927936 → Cl 103 #[.slice e.d.ka e.d.n e.d.kc, .int .i64 q] W (HdB W (e.ms) q)) := fun W q hb kq eq0 h0 h1 => (by
  have hl : Hl W (e.ms) q := by rw [eq0]; exact Hl.below (fun c hc => hb.cell (p := ⟨c.1, c.2.1, none⟩) (hx c (List.mem_append_right _ hc))) (HH3.o.2 _ rfl)
  have hm : ∀ c ∈ (e.ms), c.1 < W.heap.size := fun c hc => Nat.lt_of_lt_of_le (hx c (List.mem_append_right _ hc)) hb.size
  have hCW := Nat.le_trans hC hb.size
  exact (heldKids_x B C e q W h0 (by have := he.l; omega) (he.k.kb kq) hl).mono fun _ _ h => h.b h0)
 have HL3 := iH he.l;have HX0 := iH (Box.new w e.d.ar 42 (0, 0));have HB0 := iH (bl_a (w := w) (.cells e.d.ar 42));have KK0 := iH (KB.box w e.d.ar 42);have n0 := hk;have b0 := hk2;clear hC hH hx HH1 HH2 HH3;go_in;go_upto_region 1 with fail
 generalize (w.alloc _) = W0 at *;have ld := HX0.o.2 2 _ rfl;go_wp2_with fail
 refine (HZ1.o W0 k HB0.o KK0.o rfl n0 (Int.le_trans b0 (by decide))).mono ?_;rintro e W1 ⟨q1, rfl, he, hn, hb, hkb⟩;have HX1 := iH (HX0.o.below hb);have HB1 := iH (bl_trans HB0.o hb);have KK1 := iH (KK0.o.trans hkb);obtain ⟨n1, b1⟩ := lenNx he.o n0 b0 HL1.o;have E1 := he;clear he hb hkb ld HX0 HB0 KK0;have ld : W1.rangeAt w.heap.size 3 [.int .i64 e.d.t.t.k, .slice e.d.t.t.a e.d.t.t.len e.d.t.t.cap, .int .i64 e.d.t.t.n, .int .i64 e.d.t.t.s] := HX1.o.range 3 _ rfl;go_wp2_with (with_reducible refine wpv_at ?_; refine ldr rfl rfl rfl Tryz.underlying35 ld rfl ?_; try simp only [Act.put, sA, zA, cA])
 refine (HZ2.o W1 q1 HB1.o KK1.o E1.o n1 (Int.le_trans b1 (by decide))).mono ?_;rintro e W2 ⟨q2, rfl, he, hn, hb, hkb⟩;have HX2 := iH (HX1.o.below hb);have HB2 := iH (bl_trans HB1.o hb);have KK2 := iH (KK1.o.trans hkb);obtain ⟨n2, b2⟩ := lenNx he.o n1 b1 HL2.o;have E2 := iH (hdApp E1.o he.o);clear he hb hkb ld HX1 HB1 KK1 E1;have ld := HX2.o.2 7 _ rfl;go_wp2_with fail
 refine (HZ3.o W2 q2 HB2.o KK2.o E2.o n2 (Int.le_trans b2 (by decide))).mono ?_;rintro e W3 ⟨q3, rfl, he, hn, hb, hkb⟩;have HX3 := iH (HX2.o.below hb);have HB3 := iH (bl_trans HB2.o hb);have KK3 := iH (KK2.o.trans hkb);obtain ⟨n3, b3⟩ := lenNx he.o n2 b2 HL3.o;have E3 := iH (hdApp E2.o he.o);clear he hb hkb ld HX2 HB2 KK2 E2;go_wp2;go_ret;exact ⟨q3, rfl, E3, Int.not_lt.2 n3, HB3.o, KK3.o⟩
open Go.ChangeShapes Go.WideShapes Go.ChangeAt Go.RowKit Go.Joins Go.Deep
def tmCells (t : Tm) : List Value := [.int .i64 t.k, .slice t.a t.len t.cap, .int .i64 t.n, .int .i64 t.s]
set_option maxRecDepth 100000 in
theorem trod_term {H : Type} {enc : TypeId × Value → H} {x : DataW H × List MemPlace}
 (h : DataW.trod enc Tryz.prog W 0 (fun _ => true) true fuel 25 cs = some x) :
 ∃ (t : Tm) (bs : List Int), cs = tmCells t ∧ t.fits ∧ t.len ≤ 9223372036854775807 ∧ (t.len ≤ 1048576 → Bs W t.a t.len bs) := by
 obtain ⟨y0, y1, y2, y3, m, _, hlen, hy0, hy1, hy2, hy3⟩ := trod_struct4 Tryz.underlying25 h;rw [Tryz.cells25] at hlen;match cs, hlen with
 | [c0, c1, c2, c3], _ =>
  have e3 : Tryz.prog.cellsOf 3 = 1 := by kernel_rfl
  have e8 : Tryz.prog.cellsOf 23 = 1 := by kernel_rfl
  simp [e3, e8] at hy0 hy1 hy2 hy3;obtain ⟨k, e0, _, wk⟩ := DataW.trod_int Tryz.underlying3 hy0;obtain ⟨n, e2, _, wn⟩ := DataW.trod_int Tryz.underlying3 hy2;obtain ⟨s, e3, _, ws⟩ := DataW.trod_int Tryz.underlying3 hy3;simp at e0 e2 e3;subst e0 e2 e3;have bn := bounds_i64 wn;have bsc := bounds_i64 ws;rcases open_ints Tryz.underlying23 Tryz.underlying5 Tryz.cells5 hy1 with ⟨hcs, _⟩ | ⟨x, l, c, zs, hcs, _, hl, hm, hz, _, hcell, hwz⟩
  · simp at hcs
    subst hcs;exact ⟨⟨k, none, 0, 0, n, s⟩, [], rfl, ⟨bn.1, bn.2, bsc.1, bsc.2⟩, by show (0 : Nat) ≤ _; omega, fun _ => ⟨rfl, by show (0 : Nat) ≤ _; omega, by simp, .inl rfl⟩⟩
  simp at hcs;subst hcs;simp only [if_true] at hz;refine ⟨⟨k, some x, l, c, n, s⟩, zs.take l, rfl, ⟨bn.1, bn.2, bsc.1, bsc.2⟩, ?_, fun h20 => ?_⟩
  · show l ≤ _
    unfold maxLen at hm;omega
  exact Bs.of_cells hl hz h20 hcell hwz
theorem piece (cs : List Value) (o n : Nat) : cs.drop o = (cs.drop o).take n ++ cs.drop (o + n) := by
 rw [← List.drop_drop];exact (List.take_append_drop n _).symm
theorem piece_end (h : cs.length = n) : cs.drop n = [] := List.drop_eq_nil_of_le (by omega)
theorem addr_no (b off i : Nat) : (⟨b, off, none⟩ : Addr).add i = ⟨b, off + i, none⟩ := by
 by_cases h0 : i = 0 <;> simp [Addr.add, h0]
theorem trod_struct5 {H : Type} {enc : TypeId × Value → H} {spare : Nat → Bool} {f0 f1 f2 f3 f4 : Field} {x : DataW H × List MemPlace} (ht : P.underlying t = some (.struct #[f0, f1, f2, f3, f4])) (h : DataW.trod enc P w base spare held fuel t cs = some x) :
 ∃ y0 y1 y2 y3 y4 n, fuel = n + 1 ∧ cs.length = P.cellsOf t ∧ DataW.trod enc P w base spare held n f0.type ((cs.drop f0.offset).take (P.cellsOf f0.type)) = some y0 ∧ DataW.trod enc P w base spare held n f1.type ((cs.drop f1.offset).take (P.cellsOf f1.type)) = some y1 ∧ DataW.trod enc P w base spare held n f2.type ((cs.drop f2.offset).take (P.cellsOf f2.type)) = some y2 ∧ DataW.trod enc P w base spare held n f3.type ((cs.drop f3.offset).take (P.cellsOf f3.type)) = some y3 ∧ DataW.trod enc P w base spare held n f4.type ((cs.drop f4.offset).take (P.cellsOf f4.type)) = some y4 := by
 obtain ⟨xs, n, hn, rfl, hl, hlen, hf⟩ := DataW.trod_struct ht h;match xs, hlen with
 | [y0, y1, y2, y3, y4], _ => exact ⟨y0, y1, y2, y3, y4, n, hn, hl, by simpa using hf 0 f0 rfl, by simpa using hf 1 f1 rfl, by simpa using hf 2 f2 rfl, by simpa using hf 3 f3 rfl, by simpa using hf 4 f4 rfl⟩
theorem trod_struct6 {H : Type} {enc : TypeId × Value → H} {spare : Nat → Bool} {f0 f1 f2 f3 f4 f5 : Field} {x : DataW H × List MemPlace} (ht : P.underlying t = some (.struct #[f0, f1, f2, f3, f4, f5])) (h : DataW.trod enc P w base spare held fuel t cs = some x) :
 ∃ y0 y1 y2 y3 y4 y5 n, fuel = n + 1 ∧ cs.length = P.cellsOf t ∧ DataW.trod enc P w base spare held n f0.type ((cs.drop f0.offset).take (P.cellsOf f0.type)) = some y0 ∧ DataW.trod enc P w base spare held n f1.type ((cs.drop f1.offset).take (P.cellsOf f1.type)) = some y1 ∧ DataW.trod enc P w base spare held n f2.type ((cs.drop f2.offset).take (P.cellsOf f2.type)) = some y2 ∧ DataW.trod enc P w base spare held n f3.type ((cs.drop f3.offset).take (P.cellsOf f3.type)) = some y3 ∧ DataW.trod enc P w base spare held n f4.type ((cs.drop f4.offset).take (P.cellsOf f4.type)) = some y4 ∧ DataW.trod enc P w base spare held n f5.type ((cs.drop f5.offset).take (P.cellsOf f5.type)) = some y5 := by
 obtain ⟨xs, n, hn, rfl, hl, hlen, hf⟩ := DataW.trod_struct ht h;match xs, hlen with
 | [y0, y1, y2, y3, y4, y5], _ => exact ⟨y0, y1, y2, y3, y4, y5, n, hn, hl, by simpa using hf 0 f0 rfl, by simpa using hf 1 f1 rfl, by simpa using hf 2 f2 rfl, by simpa using hf 3 f3 rfl, by simpa using hf 4 f4 rfl, by simpa using hf 5 f5 rfl⟩
theorem open_krow {H Q : Type} {enc : TypeId × Value → H} {x : DataW H × List MemPlace} {e : TypeId} {k : Nat} (cell : Q → List Value) (ok : Q → Prop) (dq : Q)
 (ht : Tryz.prog.underlying t = some (.slice e)) (hk : Tryz.prog.cellsOf e = k) (h0 : 0 < k) (hcl : ∀ q, (cell q).length = k)
 (hq : ∀ (n : Nat) (cs : List Value) (y : DataW H × List MemPlace), n < fuel → DataW.trod enc Tryz.prog W 0 (fun _ => true) true n e cs = some y → ∃ q, cs = cell q ∧ ok q)
 (h : DataW.trod enc Tryz.prog W 0 (fun _ => true) true fuel t cs = some x) :
 ∃ (a : Option Addr) (n cap : Nat) (f : Nat → Q), cs = [.slice a n cap] ∧ n ≤ 9223372036854775807 ∧ KRow 0 W k a n (fun i => cell (f i)) ∧ ∀ i, i < n → ok (f i) := by
 rcases DataW.trod_slice ht h with ⟨rfl, _⟩ | ⟨a, len, cap, elems, rest, n, hn, rfl, _, _, hl, hm, hlen, hel, _, _⟩
 · exact ⟨none, 0, 0, fun _ => dq, rfl, by omega, .inl rfl, fun i hi => by omega⟩
 rw [hk] at hel;have hh : ∀ i : Fin len, ∃ q : Q, ok q ∧ W.cells? 0 (a.add (i.1 * k)) k = some (cell q) := by
  intro i;have h1 := hel i.1 i.2;rw [List.getElem?_eq_getElem (by have := i.2; omega)] at h1;obtain ⟨cs', hc, ht'⟩ := Option.bind_eq_some_iff.1 h1;obtain ⟨q, rfl, hok⟩ := hq _ _ _ (by omega) ht';exact ⟨q, hok, hc⟩
 obtain ⟨F, hF⟩ := Classical.axiomOfChoice hh;refine ⟨some a, len, cap, fun i => if hi : i < len then F _ else dq, rfl, by unfold maxLen at hm; omega, ?_, fun i hi => by simp only [dif_pos hi]; exact (hF ⟨i, hi⟩).1⟩
 by_cases hz : len = 0
 · exact .inl hz
 right;obtain ⟨b, off, spot⟩ := a;obtain ⟨_, _, hz0⟩ := World.cells?_some (hF ⟨0, by omega⟩).2;have h00 := hz0 0 h0;have hl0 := Nat.lt_of_lt_of_eq h0 (hcl (F ⟨0, by omega⟩)).symm;obtain ⟨v, hv⟩ : ∃ v, (cell (F ⟨0, by omega⟩))[0]? = some v := ⟨_, List.getElem?_eq_getElem hl0⟩;rw [hv] at h00;have hspot : spot = none := by
  have := World.cell?_spot (w := W) (a := ((⟨b, off, spot⟩ : Addr).add (0 * k)).add 0) (by rw [h00]);simpa [Addr.add] using this
 subst hspot;refine ⟨b, off, rfl, nZ, ?_, fun i hi c u hu => ?_⟩
 · rw [addr_no, addr_no] at h00
   exact cell_lt (a := ⟨b, off + 0 * k + 0, none⟩) h00
 simp only [dif_pos hi] at hu;have hc : c < k := by
  obtain ⟨h1, _⟩ := List.getElem?_eq_some_iff.1 hu;rwa [hcl] at h1
 obtain ⟨_, _, hcc⟩ := World.cells?_some (hF ⟨i, hi⟩).2;have h1 := hcc c hc;rw [addr_no, addr_no] at h1;rw [h1];exact hu
theorem trod_sl {H : Type} {enc : TypeId × Value → H} {x : DataW H × List MemPlace} (h : DataW.trod enc Tryz.prog W 0 (fun _ => true) true fuel 23 cs = some x) :
 ∃ y : SL, cs = [.slice y.a y.len y.cap] ∧ Cm W y := by
 rcases open_ints Tryz.underlying23 Tryz.underlying5 Tryz.cells5 h with ⟨hcs, _⟩ | ⟨x, l, c, zs, hcs, _, hl, hm, hz, _, hcell, hwz⟩
 · exact ⟨⟨none, 0, 0, []⟩, hcs, by show (0 : Nat) ≤ _; omega, fun _ => ⟨rfl, by show (0 : Nat) ≤ _; omega, by simp, .inl rfl⟩⟩
 simp only [if_true] at hz;refine ⟨⟨some x, l, c, zs.take l⟩, hcs, ?_, fun h20 => Bs.of_cells hl hz h20 hcell hwz⟩;show l ≤ _;unfold maxLen at hm;omega
theorem trod_tb {H : Type} {enc : TypeId × Value → H} {x : DataW H × List MemPlace} (h : DataW.trod enc Tryz.prog W 0 (fun _ => true) true fuel 25 cs = some x) :
 ∃ y : TB, cs = [.int .i64 y.t.k, .slice y.t.a y.t.len y.t.cap, .int .i64 y.t.n, .int .i64 y.t.s] ∧ Cm W y.sl ∧ y.t.fits := by
 obtain ⟨t, bs, e, hf, hl, hb⟩ := trod_term h;exact ⟨⟨t, bs⟩, e, ⟨hl, hb⟩, hf⟩
theorem trod_nm {H : Type} {enc : TypeId × Value → H} {x : DataW H × List MemPlace} (h : DataW.trod enc Tryz.prog W 0 (fun _ => true) true fuel 3 cs = some x) : ∃ k : Int, cs = [.int .i64 k] := by
 obtain ⟨k, e0, _, _⟩ := DataW.trod_int Tryz.underlying3 h;exact ⟨k, e0⟩
theorem Tryz.clof3 : Tryz.prog.cellsOf 3 = 1 := by kernel_rfl
theorem Tryz.clof23 : Tryz.prog.cellsOf 23 = 1 := by kernel_rfl
theorem Tryz.clof63 : Tryz.prog.cellsOf 63 = 5 := by kernel_rfl
theorem Tryz.clof65 : Tryz.prog.cellsOf 65 = 15 := by kernel_rfl
theorem Tryz.clof28 : Tryz.prog.cellsOf 28 = 8 := by kernel_rfl
theorem Tryz.clof32 : Tryz.prog.cellsOf 32 = 13 := by kernel_rfl
theorem Tryz.clof68 : Tryz.prog.cellsOf 68 = 28 := by kernel_rfl
theorem Tryz.clof22 : Tryz.prog.cellsOf 22 = 1 := by kernel_rfl
theorem Tryz.clof29 : Tryz.prog.cellsOf 29 = 1 := by kernel_rfl
theorem Tryz.clof26 : Tryz.prog.cellsOf 26 = 1 := by kernel_rfl
theorem Tryz.clof30 : Tryz.prog.cellsOf 30 = 1 := by kernel_rfl
theorem Tryz.clof66 : Tryz.prog.cellsOf 66 = 1 := by kernel_rfl
theorem trod_item {H : Type} {enc : TypeId × Value → H} {x : DataW H × List MemPlace} (h : DataW.trod enc Tryz.prog W 0 (fun _ => true) true fuel 63 cs = some x) :
 ∃ y : IB, cs = y.cells ∧ y.came W := by
 obtain ⟨y0, y1, m, _, hlen, h0, h1⟩ := trod_struct2 Tryz.underlying63 h;rw [Tryz.clof63] at hlen;simp only [Tryz.clof23, Tryz.cells25] at h0 h1;obtain ⟨v, e0, hv⟩ := trod_sl h0;obtain ⟨t, e1, ht, hf⟩ := trod_tb h1;refine ⟨⟨v, t⟩, ?_, hv, ht, hf⟩;have p0 := piece cs 0 1;rw [piece cs (0 + 1) 4, piece_end (n := 0 + 1 + 4) hlen, e0, e1] at p0;exact p0
theorem trod_pat {H : Type} {enc : TypeId × Value → H} {x : DataW H × List MemPlace} (h : DataW.trod enc Tryz.prog W 0 (fun _ => true) true fuel 65 cs = some x) :
 ∃ y : PB, cs = y.cells ∧ y.came W := by
 obtain ⟨y0, y1, y2, m, _, hlen, h0, h1, h2⟩ := trod_struct3 Tryz.underlying65 h;rw [Tryz.clof65] at hlen;simp only [Tryz.clof63] at h0 h1 h2;obtain ⟨s, e0, hs⟩ := trod_item h0;obtain ⟨p, e1, hp⟩ := trod_item h1;obtain ⟨o, e2, ho⟩ := trod_item h2;refine ⟨⟨s, p, o⟩, ?_, hs, hp, ho⟩;have p0 := piece cs 0 5;rw [piece cs (0 + 5) 5, piece cs (0 + 5 + 5) 5, piece_end (n := 0 + 5 + 5 + 5) hlen, e0, e1, e2] at p0;exact p0
theorem EN.cells_len (d : EN) : d.cells.length = 8 := rfl
theorem AN.cells_len (d : AN) : d.cells.length = 13 := rfl
theorem PN.cells_len (d : PN) : d.cells.length = 28 := rfl
theorem PB.cells_len (d : PB) : d.cells.length = 15 := rfl
theorem trod_expr {H : Type} {enc : TypeId × Value → H} : ∀ (fuel : Nat) {cs : List Value} {x : DataW H × List MemPlace}, DataW.trod enc Tryz.prog W 0 (fun _ => true) true fuel 28 cs = some x →
 ∃ y : ET, cs = y.d.cells ∧ y.came W := by
 intro fuel;induction fuel using Nat.strongRecOn with
 | ind fuel ih =>
 intro cs x h;obtain ⟨y0, y1, y2, y3, y4, n, hn, hlen, h0, h1, h2, h3, h4⟩ := trod_struct5 Tryz.underlying28 h;rw [Tryz.clof28] at hlen;simp only [Tryz.clof3, Tryz.clof23, Tryz.cells25, Tryz.clof26] at h0 h1 h2 h3 h4;obtain ⟨k, e0⟩ := trod_nm h0;obtain ⟨op, e1⟩ := trod_nm h1;obtain ⟨v, e2, hv⟩ := trod_sl h2;obtain ⟨t, e3, ht, hft⟩ := trod_tb h3;obtain ⟨a, nn, cap, f, e4, hnn, hR, hok⟩ := open_krow (fun y : ET => y.d.cells) (fun y => y.came W) .nil Tryz.underlying26 Tryz.clof28 (by omega) (fun q => q.d.cells_len) (fun m cs y hm hy => ih m (by omega) hy) h4;refine ⟨.mk ⟨k, op, v, t, a, cap, nn⟩ f, ?_, hv, ht, hft, hnn, hR, hok⟩;have p0 := piece cs 0 1;rw [piece cs (0 + 1) 1, piece cs (0 + 1 + 1) 1, piece cs (0 + 1 + 1 + 1) 4, piece cs (0 + 1 + 1 + 1 + 4) 1, piece_end (n := 0 + 1 + 1 + 1 + 4 + 1) hlen, e0, e1, e2, e3, e4] at p0;exact p0
theorem trod_terms {H : Type} {enc : TypeId × Value → H} {x : DataW H × List MemPlace} (h : DataW.trod enc Tryz.prog W 0 (fun _ => true) true fuel 29 cs = some x) :
 ∃ (a : Option Addr) (cap : Nat) (l : List TB), cs = [.slice a l.length cap] ∧ TCm W a l := by
 obtain ⟨a, n, cap, f, e, hn, hR, hok⟩ := open_krow (fun y : TB => enc4 y.t) (fun y => Cm W y.sl ∧ y.t.fits) ⟨⟨0, none, 0, 0, 0, 0⟩, []⟩ Tryz.underlying29 Tryz.cells25 (by omega) (fun _ => rfl) (fun m cs y _ hy => by obtain ⟨y, h1, h2⟩ := trod_tb hy; exact ⟨y, h1, h2⟩) h;refine ⟨a, cap, (List.range n).map f, by simpa using e, ?_, by simpa using hn, fun y hy => ?_⟩
 · rcases hR with hR | ⟨b, off, ha, _, hlt, hc⟩
   · subst hR
     exact .inl rfl
   refine .inr ⟨b, off, ha, hlt, fun j u hu => ?_⟩;have hj : j < (flat4 ((List.range n).map f)).length := by
    obtain ⟨h1, _⟩ := List.getElem?_eq_some_iff.1 hu;exact h1
   have hl4 : (flat4 ((List.range n).map f)).length = n * 4 := by rw [flat4_len]; simp
   rw [hl4] at hj;have hi : j / 4 < n := by omega
   have hd := (Nat.div_add_mod' j 4).symm;rw [hd, flat4_get _ _ _ (by simpa using hi) (Nat.mod_lt _ (by omega))] at hu;have h1 := hc (j / 4) hi (j % 4) u (by simpa using hu);have e1 : off + j = off + j / 4 * 4 + j % 4 := by omega
   rw [e1];exact h1
 obtain ⟨i, hi, rfl⟩ := List.mem_map.1 hy;exact hok i (List.mem_range.1 hi)
theorem trod_alg {H : Type} {enc : TypeId × Value → H} : ∀ (fuel : Nat) {cs : List Value} {x : DataW H × List MemPlace}, DataW.trod enc Tryz.prog W 0 (fun _ => true) true fuel 32 cs = some x →
 ∃ y : AT, cs = y.d.cells ∧ y.came W := by
 intro fuel;induction fuel using Nat.strongRecOn with
 | ind fuel ih =>
 intro cs x h;obtain ⟨y0, y1, y2, y3, y4, y5, n, hn, hlen, h0, h1, h2, h3, h4, h5⟩ := trod_struct6 Tryz.underlying32 h;rw [Tryz.clof32] at hlen;simp only [Tryz.clof3, Tryz.clof23, Tryz.clof28, Tryz.clof22, Tryz.clof29, Tryz.clof30] at h0 h1 h2 h3 h4 h5;obtain ⟨k, e0⟩ := trod_nm h0;obtain ⟨pa, pn, pc, pat, e1, hpn, hpR, hpok⟩ := open_krow (fun y : PB => y.cells) (fun y => y.came W) (AN0.pat 0) Tryz.underlying22 Tryz.clof65 (by omega) (fun q => q.cells_len) (fun m cs y _ hy => trod_pat hy) h1;obtain ⟨e, e2, he⟩ := trod_expr _ h2;obtain ⟨v, e3, hv⟩ := trod_sl h3;obtain ⟨ta, tc, tb, e4, ht⟩ := trod_terms h4;obtain ⟨a, nn, cap, f, e5, hnn, hR, hok⟩ := open_krow (fun y : AT => y.d.cells) (fun y => y.came W) .nil Tryz.underlying30 Tryz.clof32 (by omega) (fun q => q.d.cells_len) (fun m cs y hm hy => ih m (by omega) hy) h5;refine ⟨.mk ⟨k, pa, pc, pn, pat, e, v, ta, tc, tb, a, cap, nn⟩ f, ?_, hpR, hpok, hpn, he, hv, ht, hnn, hR, hok⟩;have p0 := piece cs 0 1;rw [piece cs (0 + 1) 1, piece cs (0 + 1 + 1) 8, piece cs (0 + 1 + 1 + 8) 1, piece cs (0 + 1 + 1 + 8 + 1) 1, piece cs (0 + 1 + 1 + 8 + 1 + 1) 1, piece_end (n := 0 + 1 + 1 + 8 + 1 + 1 + 1) hlen, e0, e1, e2, e3, e4, e5] at p0;exact p0
theorem open_alg {H : Type} {enc : TypeId × Value → H} {b0 : Nat} {x : Value} {d : DataW H} {p : List MemPlace}
 (hv : Value.okWide Tryz.prog W .any b0 32 x) (h : DataW.Trod enc Tryz.prog W 0 (fun _ => true) true 32 x d p) : ∃ e : AT, x = .agg e.d.cells.toArray ∧ e.came W := by
 obtain ⟨cs, rfl, hsz⟩ := okWide_struct Tryz.underlying32 hv;obtain ⟨fuel, hf⟩ := h;obtain ⟨e, hcs, hr⟩ := trod_alg _ hf;refine ⟨e, ?_, hr⟩;have : cs.toList = e.d.cells := by simpa [Value.cells] using hcs
 cases cs;simp at this;subst this;rfl
def PT.wt : PT → Nat
 | .nil => 0
 | .mk d kid => d.p.wt + d.e.wt + d.v.len + (d.tb.length + twt d.tb d.tb.length) + (d.n + sumN d.n (fun i => (kid i).wt))
def AT.wt : AT → Nat
 | .nil => 0
 | .mk d kid => (d.pn + sumN d.pn (fun i => (d.pat i).wt)) + d.e.wt + d.v.len + (d.tb.length + twt d.tb d.tb.length) + (d.n + sumN d.n (fun i => (kid i).wt))
theorem ET.small_of (e : ET) : e.came w → e.wt ≤ 1048576 → e.small := by
 induction e with
 | nil => exact fun h => False.elim h
 | mk d kid ih =>
  intro hc hw;have h : d.v.len + d.t.t.len + (d.n + sumN d.n (fun i => (kid i).wt)) ≤ 1048576 := hw;exact ⟨by omega, by omega, by omega, fun i hi => ih i (hc.2.2.2.2.2 i hi) (by have := sumN_le (f := fun i => (kid i).wt) hi; omega)⟩
theorem twt_le {x : TB} (h : x ∈ tb) : x.t.len ≤ twt tb tb.length := by
 obtain ⟨j, hj, rfl⟩ := List.mem_iff_getElem.1 h;have := sumN_le (f := fun j => (tb[j]?.map (fun x => x.t.len)).getD 0) hj;rw [List.getElem?_eq_getElem hj] at this;exact this
theorem len_same {x y : SL} (hx : BsF B w x) (hy : BsF B' w' y) (h : x.b = y.b) : x.len = y.len := by rw [← hx.1.1, ← hy.1.1, h]
theorem tlen_same {x y : TB} (hx : BsF B w x.sl) (hy : BsF B' w' y.sl) (h : x.td = y.td) : x.t.len = y.t.len := len_same hx hy (congrArg TD.bs h)
theorem IB.wt_same {y : IB} (h : x.same y) (hx : x.lies B w) (hy : y.lies B' w') : x.wt = y.wt := by
 unfold IB.wt;rw [len_same hx.1 hy.1 h.1, tlen_same hx.2.1 hy.2.1 h.2]
theorem PB.wt_same {x y : PB} (h : x.same y) (hx : x.lies B w) (hy : y.lies B' w') : x.wt = y.wt := by
 unfold PB.wt;rw [IB.wt_same h.1 hx.1 hy.1, IB.wt_same h.2.1 hx.2.1 hy.2.1, IB.wt_same h.2.2 hx.2.2 hy.2.2]
theorem ET.wt_same (e : ET) : ∀ e' : ET, e.same e' → e.lies B w → e'.lies B' w' → e.wt = e'.wt := by
 induction e with
 | nil => exact fun _ _ h => False.elim h
 | mk d kid ih =>
  intro e' hs hl hl';cases e' with
  | nil => exact False.elim hl'
  | mk d' kid' =>
   obtain ⟨_, _, hv, ht, hn, hk⟩ := hs;show d.v.len + d.t.t.len + (d.n + sumN d.n (fun i => (kid i).wt)) = d'.v.len + d'.t.t.len + (d'.n + sumN d'.n (fun i => (kid' i).wt));rw [len_same hl.1 hl'.1 hv, tlen_same hl.2.1 hl'.2.1 ht, ← hn, sumN_congr fun i hi => ih i (kid' i) (hk i hi) (hl.2.2.2.2.2 i hi) (hl'.2.2.2.2.2 i (by omega))]
theorem twt_same {a' : Option Addr} {tb' : List TB} (h : tb.map TB.td = tb'.map TB.td) (hx : TRowF B w a tb) (hy : TRowF B' w' a' tb') : tb.length = tb'.length ∧ twt tb tb.length = twt tb' tb'.length := by
 have hn : tb.length = tb'.length := by have := congrArg List.length h; simpa using this
 refine ⟨hn, ?_⟩;rw [← hn];refine sumN_congr fun i hi => ?_;have hi' : i < tb'.length := by omega
 rw [List.getElem?_eq_getElem hi, List.getElem?_eq_getElem hi'];have he : tb[i].td = tb'[i].td := by
  have := congrArg (fun l => l[i]?) h;simpa [hi, hi'] using this
 exact tlen_same (hx.2.2 _ (List.getElem_mem hi)).1 (hy.2.2 _ (List.getElem_mem hi')).1 he
theorem nodup_map {α β : Type} {f : α → β} {l : List α} (hf : ∀ x y, f x = f y → x = y) (h : l.Nodup) : (l.map f).Nodup := by
 induction l with
 | nil => exact List.nodup_nil
 | cons a l ih =>
  have h2 := List.nodup_cons.1 h;refine List.nodup_cons.2 ⟨fun hm => ?_, ih h2.2⟩;obtain ⟨x, hx, e⟩ := List.mem_map.1 hm;exact h2.1 (hf _ _ e ▸ hx)
def cnt (p : Nat × Nat) (L : List MC) : Nat := (psM L).count p
theorem cnt_app (p : Nat × Nat) (A L : List MC) : cnt p (A ++ L) = cnt p A + cnt p L := by
 unfold cnt psM;rw [List.map_append, List.count_append]
def uno (P : Prop) [Decidable P] : Nat := if P then 1 else 0
theorem cnt_txt (b q : Nat) (a : Option Addr) (len : Nat) : cnt (b, q) (txC a len) ≤ (if len = 0 then ([] : List Nat) else [blk a]).count b := by
 by_cases h0 : len = 0
 · subst h0
   exact nZ
 rw [if_neg h0];have e : psM (txC a len) = (List.range len).map (fun i => (blk a, i)) := by
  unfold psM txC;rw [List.map_map];rfl
 unfold cnt;rw [e];by_cases hb : b = blk a
 · subst hb
   have hn : ((List.range len).map (fun i => (blk a, i))).Nodup := nodup_map (fun x y h => by simpa using h) List.nodup_range;have h1 := List.nodup_iff_count.1 hn (blk a, q);rw [List.count_singleton_self];exact h1
 rw [List.count_eq_zero_of_not_mem]
 · exact nZ
 intro h;obtain ⟨i, _, hi⟩ := List.mem_map.1 h;exact hb (congrArg Prod.fst hi).symm
theorem catB_count {f : Nat → List Nat} {b : Nat} : ∀ n, (catB f n).count b = sumN n (fun i => (f i).count b)
 | 0 => rfl
 | n + 1 => by
   show (catB f n ++ f n).count b = sumN n _ + _
   rw [List.count_append, catB_count n]
theorem row_cnt {f : Nat → List MC} {s : Nat → Nat} {b : Nat} : ∀ {n : Nat}, (∀ i, i < n → cnt (b, q) (f i) ≤ uno (b = g ∧ i * sz ≤ q ∧ q < i * sz + sz) + s i) → cnt (b, q) (catM f n) ≤ uno (b = g ∧ q < n * sz) + sumN n s
 | 0, _ => nZ
 | n + 1, h => by
   show cnt (b, q) (catM f n ++ f n) ≤ _ + (sumN n s + s n)
   rw [cnt_app]
   have h1 := row_cnt (n := n) fun i hi => h i (by omega)
   have h2 := h n (by omega)
   have e : uno (b = g ∧ q < n * sz) + uno (b = g ∧ n * sz ≤ q ∧ q < n * sz + sz) ≤ uno (b = g ∧ q < (n + 1) * sz) := by
    rw [Nat.succ_mul];unfold uno;by_cases hb : b = g
    · by_cases h3 : q < n * sz
      · rw [if_pos ⟨hb, h3⟩, if_neg (by omega), if_pos ⟨hb, by omega⟩]
        exact nR
      by_cases h4 : q < n * sz + sz
      · rw [if_neg (by omega), if_pos ⟨hb, by omega, h4⟩, if_pos ⟨hb, h4⟩]
        exact nR
      rw [if_neg (by omega), if_neg (by omega)];exact nZ
    rw [if_neg (fun h => hb h.1), if_neg (fun h => hb h.1)];exact nZ
   omega
theorem rfp_cnt (b q m : Nat) (a : Option Addr) (n : Nat) (h : m = 0 ∨ n ≠ 0) : uno (b = blk a ∧ q < m) ≤ (rfp a n).count b := by
 unfold uno rfp;by_cases hb : b = blk a ∧ q < m
 · rw [if_pos hb, if_neg (by omega), hb.1, List.count_singleton_self]
   exact nR
 rw [if_neg hb];exact nZ
def nsM (g o : Nat) (L : List Nat) : List MC := L.map fun c => (g, o + c, false)
theorem cnt_ns (b q g o sz : Nat) (L : List Nat) (hn : L.Nodup) (hs : ∀ c ∈ L, c < sz) : cnt (b, q) (nsM g o L) ≤ uno (b = g ∧ o ≤ q ∧ q < o + sz) := by
 have e : psM (nsM g o L) = L.map (fun c => (g, o + c)) := by
  unfold psM nsM;rw [List.map_map];rfl
 unfold cnt;rw [e];have hnd : (L.map (fun c => (g, o + c))).Nodup := nodup_map (fun x y h => by simpa using h) hn;by_cases hm : (b, q) ∈ L.map (fun c => (g, o + c))
 · obtain ⟨c, hc, he⟩ := List.mem_map.1 hm
   have h1 := hs c hc;simp only [Prod.mk.injEq] at he;have h2 := List.nodup_iff_count.1 hnd (b, q);unfold uno;rw [if_pos ⟨he.1.symm, by omega, by omega⟩]
   exact h2
 rw [List.count_eq_zero_of_not_mem hm];exact nZ
theorem cnt_ns1 (p : Nat × Nat) (g o c : Nat) (L : List Nat) : cnt p (nsM g o (c :: L)) = cnt p [(g, o + c, false)] + cnt p (nsM g o L) := by
 show cnt p ([(g, o + c, false)] ++ nsM g o L) = _;rw [cnt_app]
theorem cnt_ns0 (p : Nat × Nat) (g o : Nat) : cnt p (nsM g o []) = 0 := rfl
theorem eF_cnt (b q g o : Nat) (d : EN) (M : List MC) : cnt (b, q) (eF g o d M) ≤ uno (b = g ∧ o ≤ q ∧ q < o + 8) + (cnt (b, q) (txC d.v.a d.v.len) + cnt (b, q) (txC d.t.t.a d.t.t.len) + cnt (b, q) (M)) := by
 have h := cnt_ns b q g o 8 [0, 1, 3, 5, 6] (by decide) (by decide);simp only [cnt_ns1, cnt_ns0, Nat.add_zero] at h;unfold eF;simp only [cnt_app];omega
theorem tF_cnt (b q g o : Nat) (d : TB) : cnt (b, q) (tF g o d) ≤ uno (b = g ∧ o ≤ q ∧ q < o + 4) + (cnt (b, q) (txC d.t.a d.t.len)) := by
 have h := cnt_ns b q g o 4 [0, 2, 3] (by decide) (by decide);simp only [cnt_ns1, cnt_ns0, Nat.add_zero] at h;unfold tF;simp only [cnt_app];omega
theorem SL.cnt_le (x : SL) (b q : Nat) : cnt (b, q) (txC x.a x.len) ≤ x.fp.count b := cnt_txt b q x.a x.len
theorem IB.cnt_le (x : IB) (b q : Nat) : cnt (b, q) (txC x.v.a x.v.len) + cnt (b, q) (txC x.t.t.a x.t.t.len) ≤ x.fp.count b := by
 unfold IB.fp;rw [List.count_append];exact Nat.add_le_add (x.v.cnt_le b q) (x.t.sl.cnt_le b q)
theorem row_le {f : Nat → List MC} {F : Nat → List Nat} {b : Nat} (h : ∀ i, i < n → cnt (b, q) (f i) ≤ uno (b = blk a ∧ i * sz ≤ q ∧ q < i * sz + sz) + (F i).count b) : cnt (b, q) (catM f n) ≤ (rfp a n ++ catB F n).count b := by
 rw [List.count_append, catB_count];refine Nat.le_trans (row_cnt h) (Nat.add_le_add_right (rfp_cnt b q _ a n ?_) _);by_cases h0 : n = 0
 · left; rw [h0, Nat.zero_mul]
 exact .inr h0
theorem termM_cnt (b q : Nat) (a : Option Addr) (l : List TB) : cnt (b, q) (termM a l) ≤ (tfp a l).count b :=
 row_le (sz := 4) (F := fun i => (tbN l i).fp) fun i _ => Nat.le_trans (tF_cnt b q (blk a) (i * 4) (tbN l i)) (Nat.add_le_add_left ((tbN l i).sl.cnt_le b q) _)
theorem ET.cnt_le (e : ET) (b q : Nat) : cnt (b, q) (txC e.d.v.a e.d.v.len) + cnt (b, q) (txC e.d.t.t.a e.d.t.t.len) + cnt (b, q) (e.ms) ≤ e.fp.count b := by
 induction e with
 | nil => exact nZ
 | mk d kid ih =>
  show cnt (b, q) (txC d.v.a d.v.len) + cnt (b, q) (txC d.t.t.a d.t.t.len) + cnt (b, q) (catM (fun i => eF (blk d.ka) (i * 8) (kid i).d (kid i).ms) d.n) ≤ (d.v.fp ++ d.t.fp ++ (rfp d.ka d.n ++ catB (fun i => (kid i).fp) d.n)).count b;rw [List.count_append, List.count_append];exact Nat.add_le_add (Nat.add_le_add (d.v.cnt_le b q) (d.t.sl.cnt_le b q)) (row_le (sz := 8) (F := fun i => (kid i).fp) fun i _ => Nat.le_trans (eF_cnt b q (blk d.ka) (i * 8) (kid i).d (kid i).ms) (Nat.add_le_add_left (ih i) _))
theorem catM_len {f : Nat → List MC} : ∀ n, (catM f n).length = sumN n (fun i => (f i).length)
 | 0 => rfl
 | n + 1 => by
   show (catM f n ++ f n).length = sumN n _ + _
   rw [List.length_append, catM_len n]
theorem sum16 {k : Nat} {f g : Nat → Nat} (h : ∀ i, i < n → f i ≤ k + 16 * g i) : sumN n f ≤ k * n + 16 * sumN n g := by
 induction n with
 | zero => simp [sumN]
 | succ n ih =>
  have h1 := ih fun i hi => h i (by omega);have h2 := h n (by omega);show sumN n f + f n ≤ k * (n + 1) + 16 * (sumN n g + g n);rw [Nat.mul_succ];omega
theorem patM_len (a : Option Addr) (n : Nat) (kid : Nat → PB) : (patM a n kid).length ≤ 16 * (n + sumN n (fun i => (kid i).wt)) := by
 unfold patM;rw [catM_len];have h := sum16 (n := n) (k := 9) (f := fun i => (pF (blk a) (i * 15) (kid i)).length) (g := fun i => (kid i).wt) fun i _ => by
  unfold pF PB.wt IB.wt;simp only [List.length_append, List.length_cons, List.length_nil, txC_len];omega
 omega
theorem termM_len (a : Option Addr) (tb : List TB) : (termM a tb).length ≤ 16 * (tb.length + twt tb tb.length) := by
 unfold termM;rw [catM_len, twt_eq];have h := sum16 (n := tb.length) (k := 3) (f := fun i => (tF (blk a) (i * 4) (tbN tb i)).length) (g := fun i => (tbN tb i).t.len) fun i _ => by
  unfold tF;simp only [List.length_append, List.length_cons, List.length_nil, txC_len];omega
 omega
theorem ET.ms_len (e : ET) : e.d.v.len + e.d.t.t.len + e.ms.length ≤ 16 * e.wt := by
 induction e with
 | nil => exact nZ
 | mk d kid ih =>
  show d.v.len + d.t.t.len + (catM (fun i => eF (blk d.ka) (i * 8) (kid i).d (kid i).ms) d.n).length ≤ 16 * (d.v.len + d.t.t.len + (d.n + sumN d.n (fun i => (kid i).wt)));rw [catM_len];have h := sum16 (n := d.n) (k := 5) (f := fun i => (eF (blk d.ka) (i * 8) (kid i).d (kid i).ms).length) (g := fun i => (kid i).wt) fun i _ => by
   have := ih i;unfold eF;simp only [List.length_append, List.length_cons, List.length_nil, txC_len];omega
  omega
def AT.tl (e : AT) : Nat := (patM e.d.pa e.d.pn e.d.pat).length + (e.d.e.d.v.len + e.d.e.d.t.t.len + e.d.e.ms.length) + e.d.v.len + (termM e.d.ta e.d.tb).length + e.ms.length
theorem AT.tl_le (e : AT) : e.tl ≤ 16 * e.wt := by
 induction e with
 | nil => exact nZ
 | mk d kid ih =>
  show (patM d.pa d.pn d.pat).length + (d.e.d.v.len + d.e.d.t.t.len + d.e.ms.length) + d.v.len + (termM d.ta d.tb).length + (catM (fun i => aF (blk d.ka) (i * 13) (kid i).d (kid i).ms) d.n).length ≤ 16 * ((d.pn + sumN d.pn (fun i => (d.pat i).wt)) + d.e.wt + d.v.len + (d.tb.length + twt d.tb d.tb.length) + (d.n + sumN d.n (fun i => (kid i).wt)));have h1 := patM_len d.pa d.pn d.pat;have h2 := d.e.ms_len;have h3 := termM_len d.ta d.tb;rw [catM_len];have h := sum16 (n := d.n) (k := 6) (f := fun i => (aF (blk d.ka) (i * 13) (kid i).d (kid i).ms).length) (g := fun i => (kid i).wt) fun i _ => by
   have := ih i;unfold AT.tl at this;unfold aF;simp only [List.length_append, List.length_cons, List.length_nil, txC_len];omega
  omega
def PT.tl (e : PT) : Nat := (e.d.p.wt + (e.d.e.d.v.len + e.d.e.d.t.t.len + e.d.e.ms.length) + e.d.v.len + (termM e.d.ta e.d.tb).length + e.ms.length)
theorem lF_len (g o : Nat) (d : PN) (M : List MC) : (lF g o d M).length = 16 + d.p.wt + (d.e.d.v.len + d.e.d.t.t.len + d.e.ms.length) + d.v.len + (termM d.ta d.tb).length + M.length := by
 unfold lF;simp only [List.length_append, List.length_cons, List.length_nil, txC_len];generalize d.e.ms.length = x1;generalize (termM d.ta d.tb).length = x2;generalize M.length = x3;show _ = 16 + ((d.p.s.v.len + d.p.s.t.t.len) + (d.p.p.v.len + d.p.p.t.t.len) + (d.p.o.v.len + d.p.o.t.t.len)) + _ + _ + _ + _;generalize d.p.s.v.len = y1;generalize d.p.s.t.t.len = y2;generalize d.p.p.v.len = y3;generalize d.p.p.t.t.len = y4;generalize d.p.o.v.len = y5;generalize d.p.o.t.t.len = y6;generalize d.e.d.v.len = y7;generalize d.e.d.t.t.len = y8;generalize d.v.len = y9;omega
theorem PT.tl_le (e : PT) : e.tl ≤ 16 * e.wt := by
 induction e with
 | nil => exact nZ
 | mk d kid ih =>
  show d.p.wt + (d.e.d.v.len + d.e.d.t.t.len + d.e.ms.length) + d.v.len + (termM d.ta d.tb).length + (catM (fun i => lF (blk d.ka) (i * 28) (kid i).d (kid i).ms) d.n).length ≤ 16 * (d.p.wt + d.e.wt + d.v.len + (d.tb.length + twt d.tb d.tb.length) + (d.n + sumN d.n (fun i => (kid i).wt)));have h2 := d.e.ms_len;have h3 := termM_len d.ta d.tb;rw [catM_len];have h := sum16 (n := d.n) (k := 16) (f := fun i => (lF (blk d.ka) (i * 28) (kid i).d (kid i).ms).length) (g := fun i => (kid i).wt) fun i _ => (by
   have h := ih i
   rw [lF_len]
   exact Nat.le_trans (Nat.le_of_eq (by unfold PT.tl; simp only [Nat.add_assoc])) (Nat.add_le_add_left h 16))
  omega
theorem zeroE_wt (h : zeroE e) (hl : e.lies B w) : e.wt = 0 := by
 cases e with
 | nil => rfl
 | mk d kid =>
  obtain ⟨_, _, h3, ⟨_, h5, _⟩, h6⟩ := h;obtain ⟨l1, l2, _⟩ := hl;have e1 : d.v.len = 0 := by rw [← l1.1.1, show d.v.b = [] from h3]; rfl
  have e2 : d.t.t.len = 0 := by rw [show d.t.t.len = d.t.sl.len from rfl, ← l2.1.1, show d.t.sl.b = [] from h5]; rfl
  have e3 : d.n = 0 := h6;show d.v.len + d.t.t.len + (d.n + sumN d.n (fun i => (kid i).wt)) = 0;rw [e1, e2, e3];rfl
theorem PB.small_of {x : PB} (h : x.wt ≤ 1048576) : x.small := by
 have hpw : x.wt = (x.s.v.len + x.s.t.t.len) + (x.p.v.len + x.p.t.t.len) + (x.o.v.len + x.o.t.t.len) := rfl;exact ⟨⟨by omega, by omega⟩, ⟨by omega, by omega⟩, ⟨by omega, by omega⟩⟩
theorem AT.small_of (e : AT) : e.came w → e.wt ≤ 1048576 → e.small := by
 induction e with
 | nil => exact fun h => False.elim h
 | mk d kid ih =>
  intro hc hw;obtain ⟨hrp, hpl, hpn, he, hv, ht, hn, hR, hk⟩ := hc;have h : (d.pn + sumN d.pn (fun i => (d.pat i).wt)) + d.e.wt + d.v.len + (d.tb.length + twt d.tb d.tb.length) + (d.n + sumN d.n (fun i => (kid i).wt)) ≤ 1048576 := hw;exact ⟨by omega, fun i hi => PB.small_of (by have := sumN_le (f := fun i => (d.pat i).wt) hi; omega), ET.small_of _ he (by omega), by omega, ⟨by omega, fun x hx => by have := twt_le hx; omega⟩, by omega, fun i hi => ih i (hk i hi) (by have := sumN_le (f := fun i => (kid i).wt) hi; omega)⟩
theorem AT.wt_same (e : AT) : ∀ e' : AT, e.same e' → e.lies B w → e'.lies B' w' → e.wt = e'.wt := by
 induction e with
 | nil => exact fun _ h => False.elim h
 | mk d kid ih =>
  intro e' hs hl hl';cases e' with
  | nil => exact False.elim hl'
  | mk d' kid' =>
   obtain ⟨_, sn, sp, se, sv, st, sn2, sk⟩ := hs;obtain ⟨_, lp, _, le, lv, lt, _, _, _, lk⟩ := hl;obtain ⟨_, lp', _, le', lv', lt', _, _, _, lk'⟩ := hl';show (d.pn + sumN d.pn (fun i => (d.pat i).wt)) + d.e.wt + d.v.len + (d.tb.length + twt d.tb d.tb.length) + (d.n + sumN d.n (fun i => (kid i).wt)) = (d'.pn + sumN d'.pn (fun i => (d'.pat i).wt)) + d'.e.wt + d'.v.len + (d'.tb.length + twt d'.tb d'.tb.length) + (d'.n + sumN d'.n (fun i => (kid' i).wt));have ht := twt_same st lt lt';rw [ET.wt_same _ _ se le le', len_same lv lv' sv, ht.2, ht.1, ← sn2, ← sn, sumN_congr fun i hi => ih i (kid' i) (sk i hi) (lk i hi) (lk' i (by omega)), sumN_congr fun i hi => PB.wt_same (sp i hi) (lp i hi) (lp' i (by omega))]
theorem row_oz {C : Nat → List Value} (hR : KRow B w sz a n C) (hF : RoZ B w a n sz) (hb : Bl w w') (h0 : n ≠ 0) (hz : 0 < sz) :
 ∃ g, a = some ⟨g, 0, none⟩ ∧ B ≤ g ∧ g < w.heap.size ∧ (∀ i, i < n → ∀ c u, (C i)[c]? = some u → w'.cell? ⟨g, i * sz + c, none⟩ = some u) ∧ ∀ i, i < n → ∀ c, c < sz → w'.frozen? ⟨g, i * sz + c, none⟩ = false := by
 obtain ⟨g, ha, hF⟩ := hF.resolve_left h0;rcases hR with h | ⟨b, off, ha', hB, hlt, hc⟩
 · exact absurd h h0
 rw [ha] at ha';cases ha';have h2 : 1 * 1 ≤ n * sz := Nat.mul_le_mul (by omega) hz;rcases hF with hF | ⟨_, _, hF⟩
 · omega
 refine ⟨g, ha, hB, hlt, fun i hi c u hu => (hb.cell (p := ⟨g, i * sz + c, none⟩) hlt).trans (by have h := hc i hi c u hu; rwa [Nat.zero_add] at h), fun i hi c hcc => (hb.frozen (p := ⟨g, i * sz + c, none⟩) hlt).trans (hF _ ?_)⟩;have h1 := Nat.mul_le_mul_right sz hi;rw [Nat.succ_mul] at h1;omega
theorem sl_m {x : SL} (h1 : BsF B w x) (h2 : TxW B w x) (hb : Bl w w') : TxM B w.heap.size w' x.a x.len := SL.own.marks ⟨h1, h2⟩ hb
theorem em_oz {o : Nat} (h : e.ow B w) (hb : Bl w w') (hB : B ≤ g) (hC : g < w.heap.size) (cc : ∀ c u, (e.d.cells)[c]? = some u → w'.cell? ⟨g, o + c, none⟩ = some u) (ff : ∀ c, c < 8 → w'.frozen? ⟨g, o + c, none⟩ = false) : EM B w.heap.size w' g o e.d := by
 obtain ⟨hl, hw⟩ := h;cases e with
 | nil => exact False.elim hl
 | mk d kid => exact ⟨hB, hC, ⟨⟨_, cc 0 _ rfl⟩, ff 0 (by omega)⟩, ⟨⟨_, cc 1 _ rfl⟩, ff 1 (by omega)⟩, ⟨⟨_, cc 3 _ rfl⟩, ff 3 (by omega)⟩, ⟨⟨_, cc 5 _ rfl⟩, ff 5 (by omega)⟩, ⟨⟨_, cc 6 _ rfl⟩, ff 6 (by omega)⟩, cc 2 _ rfl, sl_m hl.1 hw.1 hb, cc 4 _ rfl, sl_m (x := d.t.sl) hl.2.1 hw.2.1 hb, cc 7 _ rfl⟩
theorem km_oz (hb : Bl w w') (e : ET) (h : e.ow B w) : KM B w.heap.size w' e := by
 induction e with
 | nil => exact False.elim h.l
 | mk d kid ih =>
  obtain ⟨hl, hw⟩ := h;by_cases h0 : d.n = 0
  · exact .inl h0
  obtain ⟨g, ha, hB, hC, cc, ff⟩ := row_oz hl.2.2.2.2.1 hw.2.2.1 hb h0 (by omega);exact .inr ⟨g, ha, fun i hi => ⟨em_oz ⟨hl.2.2.2.2.2 i hi, hw.2.2.2 i hi⟩ hb hB hC (cc i hi) (ff i hi), ih i ⟨hl.2.2.2.2.2 i hi, hw.2.2.2 i hi⟩⟩⟩
theorem tx_oz (hl : TRowF B w a tb) (hz : RoZ B w a tb.length 4) (hx : ∀ x ∈ tb, TxW B w x.sl) (hb : Bl w w') : TsX B w.heap.size w' a tb.length (tbN tb) := by
 by_cases h0 : tb.length = 0
 · exact .inl h0
 have h1 : tb ≠ [] := fun e => h0 (by rw [e]; rfl);obtain ⟨g, ha, hF⟩ := hz.resolve_left h0;obtain ⟨hR, hp, hs⟩ := hl;rcases hR with h | ⟨b, off, ha', hlt, hc⟩
 · exact absurd h h1
 rw [ha] at ha';cases ha';rcases hF with hF | ⟨hB, _, hF⟩
 · omega
 refine .inr ⟨g, ha, fun i hi => ⟨?_, trivial⟩⟩;have he : tbN tb i = tb[i] := by
  unfold tbN;rw [List.getElem?_eq_getElem hi];rfl
 have cc := fun j u hu => (hb.cell (p := ⟨g, 0 + j, none⟩) hlt).trans (hc j u hu);obtain ⟨c0, c1, c2, c3⟩ := TRow.at cc i hi;rw [Nat.zero_add] at c0 c1 c2 c3;have ff := fun c (hcc : c < 4) => (hb.frozen (p := ⟨g, i * 4 + c, none⟩) hlt).trans (hF _ (by omega));rw [he];exact ⟨hB, hlt, ⟨⟨_, c0⟩, ff 0 (by omega)⟩, ⟨⟨_, c2⟩, ff 2 (by omega)⟩, ⟨⟨_, c3⟩, ff 3 (by omega)⟩, c1, sl_m (x := tb[i].sl) (hs _ (List.getElem_mem hi)).1 (hx _ (List.getElem_mem hi)) hb⟩
theorem px_oz {kid : Nat → PB} (hR : KRow B w 15 a n (fun i => (kid i).cells)) (hF : RoZ B w a n 15) (ho : ∀ i, i < n → (kid i).own B w) (hb : Bl w w') : PX B w.heap.size w' a n kid := by
 by_cases h0 : n = 0
 · exact .inl h0
 obtain ⟨g, ha, hB, hC, cc, ff⟩ := row_oz hR hF hb h0 (by omega);refine .inr ⟨g, ha, fun i hi => ⟨?_, trivial⟩⟩;obtain ⟨o1, o2, o3⟩ := ho i hi;have c := cc i hi;have f := ff i hi;have nn : ∀ q k, (kid i).cells[q]? = some (.int .i64 k) → q < 15 → WN w' g (i * 15 + q) := fun q k hq hl => ⟨⟨_, c q _ hq⟩, f q hl⟩;exact ⟨hB, hC, nn 1 _ rfl (by omega), nn 3 _ rfl (by omega), nn 4 _ rfl (by omega), nn 6 _ rfl (by omega), nn 8 _ rfl (by omega), nn 9 _ rfl (by omega), nn 11 _ rfl (by omega), nn 13 _ rfl (by omega), nn 14 _ rfl (by omega),
  c 0 _ rfl, sl_m o1.1.1 o1.2.1 hb, c 2 _ rfl, sl_m (x := (kid i).s.t.sl) o1.1.2.1 o1.2.2 hb, c 5 _ rfl, sl_m o2.1.1 o2.2.1 hb, c 7 _ rfl, sl_m (x := (kid i).p.t.sl) o2.1.2.1 o2.2.2 hb, c 10 _ rfl, sl_m o3.1.1 o3.2.1 hb, c 12 _ rfl, sl_m (x := (kid i).o.t.sl) o3.1.2.1 o3.2.2 hb⟩
theorem et_oz (h : e.ow B w) : (BsF B w e.d.v ∧ TxW B w e.d.v) ∧ BsF B w e.d.t.sl ∧ TxW B w e.d.t.sl := by
 obtain ⟨hl, hw⟩ := h;cases e with
 | nil => exact False.elim hl
 | mk d kid => exact ⟨⟨hl.1, hw.1⟩, hl.2.1, hw.2.1⟩
end Go.Proofs.YtoloadogihbdeaaGreat
