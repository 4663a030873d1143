import Derived.Test.YtoloadogihbdeaaGreatMk03
namespace Go.Proofs.YtoloadogihbdeaaGreat
open Go.RowKit Go.Deep
set_option maxHeartbeats 40000000
set_option maxRecDepth 100000
def IB.own (B : Nat) (w : World) (x : IB) : Prop := x.lies B w ∧ TxW B w x.v ∧ TxW B w x.t.sl
def PB.own (B : Nat) (w : World) (x : PB) : Prop := x.s.own B w ∧ x.p.own B w ∧ x.o.own B w
def TB.own (B : Nat) (w : World) (x : TB) : Prop := (BsF B w x.sl ∧ x.t.fits) ∧ TxW B w x.sl
theorem IB.own.upper {B : Nat} {w w' : World} {x : IB} (h : x.own B w) (hu : Upper B w w') : x.own B w' := ⟨h.1.upper hu, h.2.1.upper hu, h.2.2.upper hu⟩
theorem IB.own.base {B B' : Nat} {w : World} {x : IB} (h : x.own B w) (hB : B' ≤ B) : x.own B' w := ⟨h.1.base hB, h.2.1.base hB, h.2.2.base hB⟩
theorem PB.own.upper {B : Nat} {w w' : World} {x : PB} (h : x.own B w) (hu : Upper B w w') : x.own B w' := ⟨h.1.upper hu, h.2.1.upper hu, h.2.2.upper hu⟩
theorem PB.own.base {B B' : Nat} {w : World} {x : PB} (h : x.own B w) (hB : B' ≤ B) : x.own B' w := ⟨h.1.base hB, h.2.1.base hB, h.2.2.base hB⟩
theorem PB.own.lies {B : Nat} {w : World} {x : PB} (h : x.own B w) : x.lies B w := ⟨h.1.1, h.2.1.1, h.2.2.1⟩
theorem TB.own.upper {B : Nat} {w w' : World} {x : TB} (h : x.own B w) (hu : Upper B w w') : x.own B w' := ⟨⟨h.1.1.upper hu, h.1.2⟩, h.2.upper hu⟩
theorem TB.own.base {B B' : Nat} {w : World} {x : TB} (h : x.own B w) (hB : B' ≤ B) : x.own B' w := ⟨⟨h.1.1.base hB, h.1.2⟩, h.2.base hB⟩
def RoW (B : Nat) (w : World) (a : Option Addr) (m : Nat) : Prop := ∃ g, a = some ⟨g, 0, none⟩ ∧ FrW B w g m
theorem RoW.upper {B : Nat} {w w' : World} {a : Option Addr} {m : Nat} (h : RoW B w a m) (hu : Upper B w w') : RoW B w' a m := h.imp fun _ h => ⟨h.1, h.2.upper hu⟩
theorem RoW.base {B B' : Nat} {w : World} {a : Option Addr} {m : Nat} (h : RoW B w a m) (hB : B' ≤ B) : RoW B' w a m := h.imp fun _ h => ⟨h.1, h.2.base hB⟩
def TsW (B : Nat) (w : World) (a : Option Addr) (l : List TB) : Prop := RoW B w a (l.length * 4) ∧ ∀ x ∈ l, TxW B w x.sl
theorem TsW.upper {B : Nat} {w w' : World} {a : Option Addr} {l : List TB} (h : TsW B w a l) (hu : Upper B w w') : TsW B w' a l := ⟨h.1.upper hu, fun x hx => (h.2 x hx).upper hu⟩
theorem TsW.base {B B' : Nat} {w : World} {a : Option Addr} {l : List TB} (h : TsW B w a l) (hB : B' ≤ B) : TsW B' w a l := ⟨h.1.base hB, fun x hx => (h.2 x hx).base hB⟩
def ET.wr (B : Nat) (w : World) : ET → Prop
 | .nil => False
 | .mk d kid => TxW B w d.v ∧ TxW B w d.t.sl ∧ RoW B w d.ka (d.n * 8) ∧ ∀ i, i < d.n → (kid i).wr B w
theorem ET.wr.upper {B : Nat} {w w' : World} {e : ET} (h : e.wr B w) (hu : Upper B w w') : e.wr B w' := by
 induction e with
 | nil => exact False.elim h
 | mk d kid ih => exact ⟨h.1.upper hu, h.2.1.upper hu, h.2.2.1.upper hu, fun i hi => ih i (h.2.2.2 i hi)⟩
theorem ET.wr.base {B B' : Nat} {w : World} {e : ET} (h : e.wr B w) (hB : B' ≤ B) : e.wr B' w := by
 induction e with
 | nil => exact False.elim h
 | mk d kid ih => exact ⟨h.1.base hB, h.2.1.base hB, h.2.2.1.base hB, fun i hi => ih i (h.2.2.2 i hi)⟩
def ET.own (B : Nat) (w : World) (e : ET) : Prop := e.lies B w ∧ e.wr B w
theorem ET.own.upper {B : Nat} {w w' : World} {e : ET} (h : e.own B w) (hu : Upper B w w') : e.own B w' := ⟨ET.lies.upper hu h.1, h.2.upper hu⟩
theorem ET.own.base {B B' : Nat} {w : World} {e : ET} (h : e.own B w) (hB : B' ≤ B) : e.own B' w := ⟨ET.lies.base hB h.1, h.2.base hB⟩
theorem toItemW (x : IB) (w : World) (h : x.lies 0 w) : Calls Tryz.prog 105 #[.agg x.ar] w fun e w' => ∃ y : IB, e = .returned (.agg y.ar) ∧ y.own w.heap.size w' ∧ x.same y ∧ Bl w w' := by
 have HZ1 := iH (fun (W : World) (hb : Below _ w W) => toByteSW x.v W (h.1.upper (uB hb)))
 have HZ2 := iH (fun (W : World) (hb : Below _ w W) => toTermW x.t W (h.2.1.upper (uB hb)) h.2.2)
 clear h
 go_in
 have Z1 := HZ1.o
 go_wp2_with fail
 refine (Z1 _ (bl_alloc (bl_alloc (bl_a _) _) _)).mono ?_
 rintro e w1 ⟨y1, rfl, hy1, he1, hb1⟩
 have HT := iH ((TS.new w _ _ _ 63 37 37).below hb1)
 have e3 : (w.heap.size + 1 + 1 + 1) ≤ (((w.alloc (.cells x.ar 63)).alloc (.cells #[.slice none 0 0, .int .i64 0, .slice none 0 0, .int .i64 0, .int .i64 0] 37)).alloc (.cells #[.slice none 0 0, .int .i64 0, .slice none 0 0, .int .i64 0, .int .i64 0] 37)).heap.size := by simp
 have HM1 := iH ((hy1.base e3).upper (upper_set (w := w1) (g := w.heap.size + 1 + 1) (i := 0) (.slice y1.a y1.len y1.cap)))
 have HE1 := iH he1
 have HTn : Hd (TS w (w1.setCell ⟨w.heap.size + 1 + 1, 0, none⟩ (.slice y1.a y1.len y1.cap)) x.cl [.slice none 0 0, .int .i64 0, .slice none 0 0, .int .i64 0, .int .i64 0] [.slice y1.a y1.len y1.cap, .int .i64 0, .slice none 0 0, .int .i64 0, .int .i64 0]) := HT.o.set 0 _
 have st0 := (HT.o.ox.2 0 _ rfl).1
 have st1 := (HT.o.ox.2 0 _ rfl).2
 clear hy1 he1 hb1 e3 Z1 HZ1
 go_upto_region 3 with fail
 clear st0 st1 HT
 generalize (w1.setCell ⟨w.heap.size + 1 + 1, 0, none⟩ (.slice y1.a y1.len y1.cap)) = W1 at *
 have HT := HTn
 clear HTn
 have ld : W1.rangeAt w.heap.size 1 [.int .i64 x.t.t.k, .slice x.t.t.a x.t.t.len x.t.t.cap, .int .i64 x.t.t.n, .int .i64 x.t.t.s] := HT.o.px.range 1 _ rfl
 have Z2 := HZ2.o
 go_wp2_with (refine ldm Tryz.underlying25 ld ?_; try simp only [Act.put, sA, zA, cA])
 refine (Z2 _ HT.o.bl).mono ?_
 rintro e w2 ⟨y2, rfl, hy2, hw2, hf2, he2, hb2⟩
 have e3 := HT.o.base
 have HT := iH (HT.o.below hb2)
 have HM2 := iH ((hy2.base e3).upper (upper_sets (w.heap.size + 1 + 1) [.int .i64 y2.t.k, .slice y2.t.a y2.t.len y2.t.cap, .int .i64 y2.t.n, .int .i64 y2.t.s] 1 w2))
 have HW2 := iH ((hw2.base e3).upper (upper_sets (w.heap.size + 1 + 1) [.int .i64 y2.t.k, .slice y2.t.a y2.t.len y2.t.cap, .int .i64 y2.t.n, .int .i64 y2.t.s] 1 w2))
 have HM1 := iH ((HM1.o.upper (uB hb2)).upper (upper_sets (w.heap.size + 1 + 1) [.int .i64 y2.t.k, .slice y2.t.a y2.t.len y2.t.cap, .int .i64 y2.t.n, .int .i64 y2.t.s] 1 w2))
 have HE2 := iH he2
 have HF2 := iH hf2
 have HTn : Hd (TS w (w2.setCells (w.heap.size + 1 + 1) 1 [.int .i64 y2.t.k, .slice y2.t.a y2.t.len y2.t.cap, .int .i64 y2.t.n, .int .i64 y2.t.s]) x.cl [.slice none 0 0, .int .i64 0, .slice none 0 0, .int .i64 0, .int .i64 0] [.slice y1.a y1.len y1.cap, .int .i64 y2.t.k, .slice y2.t.a y2.t.len y2.t.cap, .int .i64 y2.t.n, .int .i64 y2.t.s]) := HT.o.sets 1 _
 have st0 := HT.o.ox.there 1 4 (by simp)
 have one1 := all_oneCell_toArray (cs := [.int .i64 y2.t.k, .slice y2.t.a y2.t.len y2.t.cap, .int .i64 y2.t.n, .int .i64 y2.t.s]) (by simp [Value.oneCell'])
 clear hy2 hw2 he2 hf2 hb2 e3 Z2 HZ2 ld
 go_upto_region 4 with (refine wpList_store_mid rfl 35 _ _ rfl (w.heap.size + 1 + 1) 1 #[.int .i64 y2.t.k, .slice y2.t.a y2.t.len y2.t.cap, .int .i64 y2.t.n, .int .i64 y2.t.s] rfl rfl st0 (by kernel_rfl) one1 ?_; try simp only [Act.put])
 clear st0 one1 HT
 generalize (w2.setCells (w.heap.size + 1 + 1) 1 [.int .i64 y2.t.k, .slice y2.t.a y2.t.len y2.t.cap, .int .i64 y2.t.n, .int .i64 y2.t.s]) = W2 at *
 have HT := HTn
 clear HTn
 have ld : W2.rangeAt (w.heap.size + 1 + 1) 0 [.slice y1.a y1.len y1.cap, .int .i64 y2.t.k, .slice y2.t.a y2.t.len y2.t.cap, .int .i64 y2.t.n, .int .i64 y2.t.s] := HT.o.ox.box.range 0 _ rfl
 have st0 := HT.o.rz.there 0 5 (by simp)
 have one1 := all_oneCell_toArray (cs := [.slice y1.a y1.len y1.cap, .int .i64 y2.t.k, .slice y2.t.a y2.t.len y2.t.cap, .int .i64 y2.t.n, .int .i64 y2.t.s]) (by simp [Value.oneCell'])
 go_wp2_with (first | (refine ldm Tryz.underlying37 ld ?_; try simp only [Act.put, sA, zA, cA]) | (refine wpList_store_mid rfl 37 _ _ rfl (w.heap.size + 1) 0 #[.slice y1.a y1.len y1.cap, .int .i64 y2.t.k, .slice y2.t.a y2.t.len y2.t.cap, .int .i64 y2.t.n, .int .i64 y2.t.s] rfl rfl st0 (by kernel_rfl) one1 ?_; try simp only [Act.put]))
 have hrd : (W2.setCells (w.heap.size + 1) 0 [.slice y1.a y1.len y1.cap, .int .i64 y2.t.k, .slice y2.t.a y2.t.len y2.t.cap, .int .i64 y2.t.n, .int .i64 y2.t.s]).rangeAt (w.heap.size + 1) 0 [.slice y1.a y1.len y1.cap, .int .i64 y2.t.k, .slice y2.t.a y2.t.len y2.t.cap, .int .i64 y2.t.n, .int .i64 y2.t.s] := World.rangeAt_setCells_same _ _ _ _ st0
 refine bodyPost_ret (v := .agg #[.slice y1.a y1.len y1.cap, .int .i64 y2.t.k, .slice y2.t.a y2.t.len y2.t.cap, .int .i64 y2.t.n, .int .i64 y2.t.s]) ?hr rfl ?hp
 case hr => exact results_cell rfl rfl (run_loadVar_mid (P := Tryz.prog) _ (w.heap.size + 1) 0 37 [.slice y1.a y1.len y1.cap, .int .i64 y2.t.k, .slice y2.t.a y2.t.len y2.t.cap, .int .i64 y2.t.n, .int .i64 y2.t.s] _ hrd Tryz.underlying37 rfl (by kernel_rfl))
 have HM2f : BsF w.heap.size (W2.setCells (w.heap.size + 1) 0 [.slice y1.a y1.len y1.cap, .int .i64 y2.t.k, .slice y2.t.a y2.t.len y2.t.cap, .int .i64 y2.t.n, .int .i64 y2.t.s]) y2.sl := ((HM2.o.upper ((upper_sets _ _ 0 W2).mono (by omega))).base (by omega))
 have HW2f : TxW w.heap.size (W2.setCells (w.heap.size + 1) 0 [.slice y1.a y1.len y1.cap, .int .i64 y2.t.k, .slice y2.t.a y2.t.len y2.t.cap, .int .i64 y2.t.n, .int .i64 y2.t.s]) y2.sl := ((HW2.o.upper ((upper_sets _ _ 0 W2).mono (by omega))).base (by omega))
 have HM1f : y1.own w.heap.size (W2.setCells (w.heap.size + 1) 0 [.slice y1.a y1.len y1.cap, .int .i64 y2.t.k, .slice y2.t.a y2.t.len y2.t.cap, .int .i64 y2.t.n, .int .i64 y2.t.s]) := ((HM1.o.upper ((upper_sets _ _ 0 W2).mono (by omega))).base (by omega))
 have hbf : Bl w (W2.setCells (w.heap.size + 1) 0 [.slice y1.a y1.len y1.cap, .int .i64 y2.t.k, .slice y2.t.a y2.t.len y2.t.cap, .int .i64 y2.t.n, .int .i64 y2.t.s]) := below_sets _ (by omega) _ _ _ HT.o.bl
 exact ⟨⟨y1, y2⟩, rfl, ⟨⟨HM1f.1, HM2f, HF2.o⟩, HM1f.2, HW2f⟩, ⟨HE1.o, HE2.o⟩, hbf⟩
theorem toPatW (x : PB) (w : World) (h : x.lies 0 w) : Calls Tryz.prog 63 #[.agg x.ar] w fun e w' => ∃ y : PB, e = .returned (.agg y.ar) ∧ y.own w.heap.size w' ∧ x.same y ∧ Bl w w' := by
 have HZ1 := iH (fun (W : World) (hb : Below _ w W) => toItemW x.s W (h.1.upper (uB hb)))
 have HZ2 := iH (fun (W : World) (hb : Below _ w W) => toItemW x.p W (h.2.1.upper (uB hb)))
 have HZ3 := iH (fun (W : World) (hb : Below _ w W) => toItemW x.o W (h.2.2.upper (uB hb)))
 clear h
 go_in
 have Z1 := HZ1.o
 go_wp2_with fail
 refine (Z1 _ (bl_alloc (bl_alloc (bl_a _) _) _)).mono ?_
 rintro e w1 ⟨y1, rfl, hy1, he1, hb1⟩
 have HT := iH ((TS.new w _ _ _ 65 39 39).below hb1)
 have e3 : (w.heap.size + 1 + 1 + 1) ≤ (((w.alloc (.cells x.ar 65)).alloc (.cells zPa 39)).alloc (.cells zPa 39)).heap.size := by simp
 have HM1 := iH ((hy1.base e3).upper (upper_sets (w.heap.size + 1 + 1) y1.cl 0 w1))
 have HE1 := iH he1
 have HTn : Hd (TS w (w1.setCells (w.heap.size + 1 + 1) 0 y1.cl) x.cl zPl [.slice y1.v.a y1.v.len y1.v.cap, .int .i64 y1.t.t.k, .slice y1.t.t.a y1.t.t.len y1.t.t.cap, .int .i64 y1.t.t.n, .int .i64 y1.t.t.s, .slice none 0 0, .int .i64 0, .slice none 0 0, .int .i64 0, .int .i64 0, .slice none 0 0, .int .i64 0, .slice none 0 0, .int .i64 0, .int .i64 0]) := HT.o.sets 0 _
 have st0 := HT.o.ox.there 0 5 (by simp)
 have one1 := all_oneCell_toArray (cs := y1.cl) (by simp [Value.oneCell'])
 clear hy1 he1 hb1 e3 Z1 HZ1
 go_upto_region 3 with (refine wpList_store_mid rfl 37 _ _ rfl (w.heap.size + 1 + 1) 0 y1.ar rfl rfl st0 (by kernel_rfl) one1 ?_; try simp only [Act.put])
 clear st0 one1 HT
 generalize (w1.setCells (w.heap.size + 1 + 1) 0 y1.cl) = W1 at *
 have HT := HTn
 clear HTn
 have ld : W1.rangeAt w.heap.size 5 x.p.cl := HT.o.px.range 5 _ rfl
 have Z2 := HZ2.o
 go_wp2_with (refine ldm Tryz.underlying63 ld ?_; try simp only [Act.put, sA, zA, cA])
 refine (Z2 _ HT.o.bl).mono ?_
 rintro e w2 ⟨y2, rfl, hy2, he2, hb2⟩
 have e3 := HT.o.base
 have HT := iH (HT.o.below hb2)
 have HM2 := iH ((hy2.base e3).upper (upper_sets (w.heap.size + 1 + 1) y2.cl 5 w2))
 have HM1 := iH ((HM1.o.upper (uB hb2)).upper (upper_sets (w.heap.size + 1 + 1) y2.cl 5 w2))
 have HE2 := iH he2
 have HTn : Hd (TS w (w2.setCells (w.heap.size + 1 + 1) 5 y2.cl) x.cl zPl [.slice y1.v.a y1.v.len y1.v.cap, .int .i64 y1.t.t.k, .slice y1.t.t.a y1.t.t.len y1.t.t.cap, .int .i64 y1.t.t.n, .int .i64 y1.t.t.s, .slice y2.v.a y2.v.len y2.v.cap, .int .i64 y2.t.t.k, .slice y2.t.t.a y2.t.t.len y2.t.t.cap, .int .i64 y2.t.t.n, .int .i64 y2.t.t.s, .slice none 0 0, .int .i64 0, .slice none 0 0, .int .i64 0, .int .i64 0]) := HT.o.sets 5 _
 have st0 := HT.o.ox.there 5 5 (by simp)
 have one1 := all_oneCell_toArray (cs := y2.cl) (by simp [Value.oneCell'])
 clear hy2 he2 hb2 e3 Z2 HZ2 ld
 go_upto_region 4 with (refine wpList_store_mid rfl 37 _ _ rfl (w.heap.size + 1 + 1) 5 y2.ar rfl rfl st0 (by kernel_rfl) one1 ?_; try simp only [Act.put])
 clear st0 one1 HT
 generalize (w2.setCells (w.heap.size + 1 + 1) 5 y2.cl) = W2 at *
 have HT := HTn
 clear HTn
 have ld : W2.rangeAt w.heap.size 10 x.o.cl := HT.o.px.range 10 _ rfl
 have Z3 := HZ3.o
 go_wp2_with (refine ldm Tryz.underlying63 ld ?_; try simp only [Act.put, sA, zA, cA])
 refine (Z3 _ HT.o.bl).mono ?_
 rintro e w3 ⟨y3, rfl, hy3, he3, hb3⟩
 have e3 := HT.o.base
 have HT := iH (HT.o.below hb3)
 have HM3 := iH ((hy3.base e3).upper (upper_sets (w.heap.size + 1 + 1) y3.cl 10 w3))
 have HM2 := iH ((HM2.o.upper (uB hb3)).upper (upper_sets (w.heap.size + 1 + 1) y3.cl 10 w3))
 have HM1 := iH ((HM1.o.upper (uB hb3)).upper (upper_sets (w.heap.size + 1 + 1) y3.cl 10 w3))
 have HE3 := iH he3
 have HTn : Hd (TS w (w3.setCells (w.heap.size + 1 + 1) 10 y3.cl) x.cl zPl (pL y1 y2 y3)) := HT.o.sets 10 _
 have st0 := HT.o.ox.there 10 5 (by simp)
 have one1 := all_oneCell_toArray (cs := y3.cl) (by simp [Value.oneCell'])
 clear hy3 he3 hb3 e3 Z3 HZ3 ld
 go_upto_region 5 with (refine wpList_store_mid rfl 37 _ _ rfl (w.heap.size + 1 + 1) 10 y3.ar rfl rfl st0 (by kernel_rfl) one1 ?_; try simp only [Act.put])
 clear st0 one1 HT
 generalize (w3.setCells (w.heap.size + 1 + 1) 10 y3.cl) = W3 at *
 have HT := HTn
 clear HTn
 have ld : W3.rangeAt (w.heap.size + 1 + 1) 0 (pL y1 y2 y3) := HT.o.ox.box.range 0 _ rfl
 have st0 := HT.o.rz.there 0 15 (by simp)
 have one1 := all_oneCell_toArray (cs := (pL y1 y2 y3)) (by simp [Value.oneCell'])
 go_wp2_with (first | (refine ldm Tryz.underlying39 ld ?_; try simp only [Act.put, sA, zA, cA]) | (refine wpList_store_mid rfl 39 _ _ rfl (w.heap.size + 1) 0 (pA y1 y2 y3) rfl rfl st0 (by kernel_rfl) one1 ?_; try simp only [Act.put]))
 have hrd : (W3.setCells (w.heap.size + 1) 0 (pL y1 y2 y3)).rangeAt (w.heap.size + 1) 0 (pL y1 y2 y3) := World.rangeAt_setCells_same _ _ _ _ st0
 refine bodyPost_ret (v := .agg (pA y1 y2 y3)) ?hr rfl ?hp
 case hr => exact results_cell rfl rfl (run_loadVar_mid (P := Tryz.prog) _ (w.heap.size + 1) 0 39 (pL y1 y2 y3) _ hrd Tryz.underlying39 rfl (by kernel_rfl))
 have HM3f : y3.own w.heap.size (W3.setCells (w.heap.size + 1) 0 (pL y1 y2 y3)) := ((HM3.o.upper ((upper_sets _ _ 0 W3).mono (by omega))).base (by omega))
 have HM2f : y2.own w.heap.size (W3.setCells (w.heap.size + 1) 0 (pL y1 y2 y3)) := ((HM2.o.upper ((upper_sets _ _ 0 W3).mono (by omega))).base (by omega))
 have HM1f : y1.own w.heap.size (W3.setCells (w.heap.size + 1) 0 (pL y1 y2 y3)) := ((HM1.o.upper ((upper_sets _ _ 0 W3).mono (by omega))).base (by omega))
 have hbf : Bl w (W3.setCells (w.heap.size + 1) 0 (pL y1 y2 y3)) := below_sets _ (by omega) _ _ _ HT.o.bl
 exact ⟨⟨y1, y2, y3⟩, rfl, ⟨HM1f, HM2f, HM3f⟩, ⟨HE1.o, HE2.o, HE3.o⟩, hbf⟩
theorem run_make_toExprSW (n : Nat) (hn : n ≤ 1048576) (w : World) :
 (Instr.makeSlice 40 (.int .i64 (n : Int)) (.int .i64 (n : Int))).run Tryz.prog w = .ok (.slice (some ⟨w.heap.size, 0, none⟩) n n) (w.alloc (.cells (madeCells zEa (n * 8)) 42)) := by
 have hi0 : (Tryz.prog.info? 42).map (fun i => (i.zero, i.size, i.bytes)) = some (some (.agg zEa), 8, 112) := by kernel_rfl
 obtain ⟨i, hi, hzz⟩ := Option.map_eq_some_iff.1 hi0
 simp only [Prod.mk.injEq] at hzz
 obtain ⟨hz, hs, hb⟩ := hzz
 have hr := run_make (P := Tryz.prog) w 40 42 i _ Tryz.underlying40 hi hz .i64 .i64 n n (by omega) (Int.le_refl _) (by rw [hb]; omega) (by omega)
 simp only [Int.toNat_natCast, hs, Value.cells] at hr
 exact hr
def CptoExprSW (w : World) (n : Nat) (kid : Nat → ET) (e : Ending) (w' : World) : Prop := ∃ (g : Nat) (k' : Nat → ET), e = .returned (.slice (some ⟨g, 0, none⟩) n n) ∧ KRow w.heap.size w' 8 (some ⟨g, 0, none⟩) n (fun i => (k' i).d.cells) ∧ FrW w.heap.size w' g (n * 8) ∧ (∀ i, i < n → (k' i).own w.heap.size w') ∧ (∀ i, i < n → (kid i).same (k' i)) ∧ Bl w w'
theorem toExprSW (a : Option Addr) (cap n : Nat) (kid : Nat → ET) (w : World) (hn : n ≤ 1048576) (hR : KRow 0 w 8 a n (fun i => (kid i).d.cells))
 (IH : ∀ i, i < n → ∀ (W : World), Bl w W → Calls Tryz.prog 32 #[.agg (kid i).d.ar] W fun e w' => ∃ y : ET, e = .returned (.agg y.d.ar) ∧ y.own W.heap.size w' ∧ (kid i).same y ∧ Bl W w') :
 Calls Tryz.prog 81 #[.slice a n cap] w (CptoExprSW w n kid) := by
 try unfold EN.ar
 have hmk := run_make_toExprSW n hn
 by_cases hn0 : n = 0
 · subst hn0
   have hmk0 := fun w => by simpa using hmk w
   clear hmk hR IH hn
   go_in
   go_wp2
   refine wp_loop_rounds 1 ?_
   rw [rounds_succ]
   go_wp2
   go_ret
   exact ⟨w.heap.size, kid, rfl, .inl rfl, .inl (by simp), fun i hi => absurd hi nN, fun i hi => absurd hi nN, bl_a _⟩
 obtain ⟨b, off, rfl, _, hlt, hc⟩ := hR.resolve_left hn0
 have HC := iH hc
 have HI := iH IH
 have HTH : Hd ((w.alloc (.cells (madeCells zEa (n * 8)) 42)).there w.heap.size 0 (n * 8)) := fun j hj => by
  have hs := size_madeCells zEa (n * 8)
  have h := OB.new w (madeCells zEa (n * 8)) 42
  have h2 := h.2 (0 + j) _ (List.getElem?_eq_getElem (by rw [Array.length_toList, hs]; omega))
  exact ⟨by rw [h2.1]; rfl, h2.2⟩
 clear hR hc IH
 go_in
 go_wp2
 go_loopw [4] (fun i wr => ∃ (k : Nat) (f : Nat → ET), k ≤ n ∧ i = .int .i64 k ∧ Hd (wr.there w.heap.size 0 (n * 8)) ∧ Hd (∀ j, j < k → wr.rangeAt w.heap.size (j * 8) ((f j).d.cells)) ∧ Hd (∀ j, j < k → (f j).own (w.heap.size + 1) wr) ∧ Hd (∀ j, j < k → (kid j).same (f j)) ∧ Hd (Bl w wr) ∧ Hd (w.heap.size < wr.heap.size))
  (fun i _ => n - (intOf i).toNat)
 case atStart => exact ⟨0, kid, nZ, rfl, HTH, fun j hj => absurd hj nN, fun j hj => absurd hj nN, fun j hj => absurd hj nN, bl_a _, (show w.heap.size < _ by simp)⟩
 obtain ⟨k, f, hk, rfl, HX, HR, HL, HS, HB, HZ⟩ := hrel
 clear hmk HTH
 by_cases hlk : k < n
 · have hlkz : (k : Int) < (n : Int) := by omega
   have hcx := fun c u (hu : ((kid k).d.cells)[c]? = some u) => (HB.o.cell (p := ⟨b, off + k * 8 + c, none⟩) hlt).trans (HC.o k hlk c u hu)
   have Z := HI.o k hlk
   go_wp2_with (refine wpList_load_mid rfl 28 _ rfl b (off + k * 8) rfl (kid k).d.cl _ hcx Tryz.underlying28 rfl (by kernel_rfl) ?_; try simp only [Act.put, sA, zA, cA])
   refine (Z _ HB.o).mono ?_
   rintro e w2 ⟨y, rfl, hy, he, hb2⟩
   have hkz : k * 8 + 8 ≤ n * 8 := by rw [← Nat.succ_mul]; exact Nat.mul_le_mul_right _ hlk
   have hth : w2.there w.heap.size (k * 8) 8 := fun j hj => by
    have h := HX.o (k * 8 + j) (by omega)
    rw [Nat.zero_add] at h
    exact ⟨by rw [hb2.cell (p := ⟨w.heap.size, k * 8 + j, none⟩) HZ.o]; exact h.1, (hb2.frozen (p := ⟨w.heap.size, k * 8 + j, none⟩) HZ.o).trans h.2⟩
   have HN1 : Hd ((w2.setCells w.heap.size (k * 8) y.d.cl).there w.heap.size 0 (n * 8)) := World.there_setCells (fun j hj => ⟨by rw [hb2.cell (p := ⟨w.heap.size, 0 + j, none⟩) HZ.o]; exact (HX.o j hj).1, (hb2.frozen (p := ⟨w.heap.size, 0 + j, none⟩) HZ.o).trans (HX.o j hj).2⟩) _ _ _
   have hlen : (y.d.cl : List Value).length = 8 := rfl
   have HN2 : Hd (∀ j, j < k + 1 → (w2.setCells w.heap.size (k * 8) y.d.cl).rangeAt w.heap.size (j * 8) ((if j = k then y else f j).d.cells)) := fun j hj => by
    by_cases e : j = k
    · subst e
      rw [if_pos rfl]
      exact World.rangeAt_setCells_same w2 _ _ _ (by rw [hlen]; exact hth)
    rw [if_neg e]
    have hjk : j * 8 + 8 ≤ k * 8 := by rw [← Nat.succ_mul]; exact Nat.mul_le_mul_right _ (by omega)
    refine World.rangeAt_setCells_apart (fun c u hu => (hb2.cell (p := ⟨w.heap.size, j * 8 + c, none⟩) HZ.o).trans (HR.o j (by omega) c u hu)) _ _ _ (.inr (.inl ?_))
    show j * 8 + 8 ≤ _
    exact hjk
   have hu3 : Upper (w.heap.size + 1) w2 (w2.setCells w.heap.size (k * 8) y.d.cl) := upper_sets _ _ _ _
   have HN3 : Hd (∀ j, j < k + 1 → (if j = k then y else f j).own (w.heap.size + 1) (w2.setCells w.heap.size (k * 8) y.d.cl)) := fun j hj => by
    by_cases e : j = k
    · rw [if_pos e]
      exact ((hy).base HZ.o).upper hu3
    rw [if_neg e]
    exact ((HL.o j (by omega)).upper (uB hb2)).upper hu3
   have HN4 : Hd (∀ j, j < k + 1 → (kid j).same (if j = k then y else f j)) := fun j hj => by
    by_cases e : j = k
    · rw [if_pos e, e]
      exact he
    rw [if_neg e]
    exact HS.o j (by omega)
   have HN5 : Hd (Bl w (w2.setCells w.heap.size (k * 8) y.d.cl)) := below_sets _ nR _ _ _ (bl_trans HB.o hb2)
   have HN6 := iH (Nat.lt_of_lt_of_le (Nat.lt_of_lt_of_le HZ.o hb2.size) hu3.size)
   have one1 := all_oneCell_toArray (cs := y.d.cl) (by simp [Value.oneCell'])
   clear Z hcx hy he hb2 hu3 hlen hkz HX HR HL HS HB HZ
   go_upto_region 4 with (refine wpList_store_mid rfl 42 _ _ rfl w.heap.size (k * 8) y.d.ar rfl rfl hth (by kernel_rfl) one1 ?_; try simp only [Act.put])
   clear hth one1
   go_wp2
   go_roundw
   case rel => exact ⟨k + 1, fun j => if j = k then y else f j, by omega, by go_num, HN1, HN2, HN3, HN4, HN5, HN6⟩
   case measure => simp [intOf]; omega
 obtain rfl : k = n := by omega
 have hlkz : ¬ (k : Int) < (k : Int) := by omega
 go_wp2
 go_ret
 exact ⟨w.heap.size, f, rfl, .inr ⟨w.heap.size, 0, rfl, nR, HZ.o, fun i hi c u hu => by rw [Nat.zero_add]; exact HR.o i hi c u hu⟩, .inr ⟨nR, HZ.o, fun j hj => by have h := (HX.o j hj).2; rwa [Nat.zero_add] at h⟩, fun i hi => (HL.o i hi).base (Nat.le_succ _), HS.o, HB.o⟩
theorem toExprW (e : ET) : ∀ (w : World), e.lies 0 w → Calls Tryz.prog 32 #[.agg e.d.ar] w fun r w' => ∃ y : ET, r = .returned (.agg y.d.ar) ∧ y.own w.heap.size w' ∧ e.same y ∧ Bl w w' := by
 induction e with
 | nil => exact fun _ h => False.elim h
 | mk d kid ih =>
  intro w h
  show Calls Tryz.prog 32 #[.agg d.ar] w fun r w' => ∃ y : ET, r = .returned (.agg y.d.ar) ∧ y.own w.heap.size w' ∧ (ET.mk d kid).same y ∧ Bl w w'
  obtain ⟨hv, ht, hf, hn, hR, hk⟩ := h
  have HZ1 := iH (fun (W : World) (hb : Below _ w W) => toByteSW d.v W (hv.upper (uB hb)))
  have HZ2 := iH (fun (W : World) (hb : Below _ w W) => toTermW d.t W (ht.upper (uB hb)) hf)
  have HZ3 : Hd (∀ (W : World), Bl w W → Cl 81 #[.slice d.ka d.n d.kc] W fun e w' => ∃ (g : Nat) (k' : Nat → ET), e = .returned (.slice (some ⟨g, 0, none⟩) d.n d.n) ∧ KRow W.heap.size w' 8 (some ⟨g, 0, none⟩) d.n (fun i => (k' i).d.cells) ∧ FrW W.heap.size w' g (d.n * 8) ∧ (∀ i, i < d.n → (k' i).own W.heap.size w') ∧ (∀ i, i < d.n → (kid i).same (k' i)) ∧ Bl W w') := fun W hb => toExprSW _ _ d.n kid W hn (hR.upper (uB hb)) fun i hi W' hW => ih i W' (ET.lies.upper (uB (bl_trans hb hW)) (hk i hi))
  have HN := iH hn
  clear hv ht hf hn hR hk ih
  go_in
  have Z1 := HZ1.o
  go_wp2_with fail
  refine (Z1 _ (bl_alloc (bl_alloc (bl_a _) _) _)).mono ?_
  rintro e w1 ⟨y1, rfl, hy1, he1, hb1⟩
  have HT := iH ((TS.new w _ _ _ 28 42 42).below hb1)
  have e3 : (w.heap.size + 1 + 1 + 1) ≤ (((w.alloc (.cells d.ar 28)).alloc (.cells zEa 42)).alloc (.cells #[.int .i64 d.k, .int .i64 d.op, .slice none 0 0, .int .i64 0, .slice none 0 0, .int .i64 0, .int .i64 0, .slice none 0 0] 42)).heap.size := by simp
  have HM1 := iH ((hy1.base e3).upper (upper_set (w := w1) (g := w.heap.size + 1 + 1) (i := 2) (.slice y1.a y1.len y1.cap)))
  have HE1 := iH he1
  have HTn : Hd (TS w (w1.setCell ⟨w.heap.size + 1 + 1, 2, none⟩ (.slice y1.a y1.len y1.cap)) d.cl zEl [.int .i64 d.k, .int .i64 d.op, .slice y1.a y1.len y1.cap, .int .i64 0, .slice none 0 0, .int .i64 0, .int .i64 0, .slice none 0 0]) := HT.o.set 2 _
  have st0 := (HT.o.ox.2 2 _ rfl).1
  have st1 := (HT.o.ox.2 2 _ rfl).2
  clear hy1 he1 hb1 e3 Z1 HZ1
  go_upto_region 5 with fail
  clear st0 st1 HT
  generalize (w1.setCell ⟨w.heap.size + 1 + 1, 2, none⟩ (.slice y1.a y1.len y1.cap)) = W1 at *
  have HT := HTn
  clear HTn
  have ld : W1.rangeAt w.heap.size 3 [.int .i64 d.t.t.k, .slice d.t.t.a d.t.t.len d.t.t.cap, .int .i64 d.t.t.n, .int .i64 d.t.t.s] := HT.o.px.range 3 _ rfl
  have Z2 := HZ2.o
  go_wp2_with (refine ldm Tryz.underlying25 ld ?_; try simp only [Act.put, sA, zA, cA])
  refine (Z2 _ HT.o.bl).mono ?_
  rintro e w2 ⟨y2, rfl, hy2, hw2, hf2, he2, hb2⟩
  have e3 := HT.o.base
  have HT := iH (HT.o.below hb2)
  have HM2 := iH ((hy2.base e3).upper (upper_sets (w.heap.size + 1 + 1) [.int .i64 y2.t.k, .slice y2.t.a y2.t.len y2.t.cap, .int .i64 y2.t.n, .int .i64 y2.t.s] 3 w2))
  have HW2 := iH ((hw2.base e3).upper (upper_sets (w.heap.size + 1 + 1) [.int .i64 y2.t.k, .slice y2.t.a y2.t.len y2.t.cap, .int .i64 y2.t.n, .int .i64 y2.t.s] 3 w2))
  have HM1 := iH ((HM1.o.upper (uB hb2)).upper (upper_sets (w.heap.size + 1 + 1) [.int .i64 y2.t.k, .slice y2.t.a y2.t.len y2.t.cap, .int .i64 y2.t.n, .int .i64 y2.t.s] 3 w2))
  have HE2 := iH he2
  have HF2 := iH hf2
  have HTn : Hd (TS w (w2.setCells (w.heap.size + 1 + 1) 3 [.int .i64 y2.t.k, .slice y2.t.a y2.t.len y2.t.cap, .int .i64 y2.t.n, .int .i64 y2.t.s]) d.cl zEl (eL d.k d.op y1 y2 (.slice none 0 0))) := HT.o.sets 3 _
  have st0 := HT.o.ox.there 3 4 (by simp)
  have one1 := all_oneCell_toArray (cs := [.int .i64 y2.t.k, .slice y2.t.a y2.t.len y2.t.cap, .int .i64 y2.t.n, .int .i64 y2.t.s]) (by simp [Value.oneCell'])
  clear hy2 hw2 he2 hf2 hb2 e3 Z2 HZ2 ld
  go_upto_region 6 with (refine wpList_store_mid rfl 35 _ _ rfl (w.heap.size + 1 + 1) 3 #[.int .i64 y2.t.k, .slice y2.t.a y2.t.len y2.t.cap, .int .i64 y2.t.n, .int .i64 y2.t.s] rfl rfl st0 (by kernel_rfl) one1 ?_; try simp only [Act.put])
  clear st0 one1 HT
  generalize (w2.setCells (w.heap.size + 1 + 1) 3 [.int .i64 y2.t.k, .slice y2.t.a y2.t.len y2.t.cap, .int .i64 y2.t.n, .int .i64 y2.t.s]) = W2 at *
  have HT := HTn
  clear HTn
  have ld := HT.o.px.2 7 _ rfl
  have Z3 := HZ3.o
  go_wp2_with fail
  refine (Z3 _ HT.o.bl).mono ?_
  rintro e w3 ⟨g3, k3, rfl, hy3, hw3, hz3, he3, hb3⟩
  have e3 := HT.o.base
  have HT := iH (HT.o.below hb3)
  have HM3 := iH ((hy3.base e3).upper (upper_set (w := w3) (g := w.heap.size + 1 + 1) (i := 7) (.slice (some ⟨g3, 0, none⟩) d.n d.n)))
  have HW3 := iH ((hw3.base e3).upper (upper_set (w := w3) (g := w.heap.size + 1 + 1) (i := 7) (.slice (some ⟨g3, 0, none⟩) d.n d.n)))
  have HL3 := iH (fun i (hi : i < d.n) => ((fun i hi => (hz3 i hi).base e3) i hi).upper (upper_set (w := w3) (g := w.heap.size + 1 + 1) (i := 7) (.slice (some ⟨g3, 0, none⟩) d.n d.n)))
  have HM2 := iH ((HM2.o.upper (uB hb3)).upper (upper_set (w := w3) (g := w.heap.size + 1 + 1) (i := 7) (.slice (some ⟨g3, 0, none⟩) d.n d.n)))
  have HW2 := iH ((HW2.o.upper (uB hb3)).upper (upper_set (w := w3) (g := w.heap.size + 1 + 1) (i := 7) (.slice (some ⟨g3, 0, none⟩) d.n d.n)))
  have HM1 := iH ((HM1.o.upper (uB hb3)).upper (upper_set (w := w3) (g := w.heap.size + 1 + 1) (i := 7) (.slice (some ⟨g3, 0, none⟩) d.n d.n)))
  have HE3 := iH he3
  have HTn : Hd (TS w (w3.setCell ⟨w.heap.size + 1 + 1, 7, none⟩ (.slice (some ⟨g3, 0, none⟩) d.n d.n)) d.cl zEl (eL d.k d.op y1 y2 (.slice (some ⟨g3, 0, none⟩) d.n d.n))) := HT.o.set 7 _
  have st0 := (HT.o.ox.2 7 _ rfl).1
  have st1 := (HT.o.ox.2 7 _ rfl).2
  clear hy3 hw3 hz3 he3 hb3 e3 Z3 HZ3 ld
  go_upto_region 7 with fail
  clear st0 st1 HT
  generalize (w3.setCell ⟨w.heap.size + 1 + 1, 7, none⟩ (.slice (some ⟨g3, 0, none⟩) d.n d.n)) = W3 at *
  have HT := HTn
  clear HTn
  have ld : W3.rangeAt (w.heap.size + 1 + 1) 0 (eL d.k d.op y1 y2 (.slice (some ⟨g3, 0, none⟩) d.n d.n)) := HT.o.ox.box.range 0 _ rfl
  have st0 := HT.o.rz.there 0 8 (by simp)
  have one1 := all_oneCell_toArray (cs := (eL d.k d.op y1 y2 (.slice (some ⟨g3, 0, none⟩) d.n d.n))) (by simp [Value.oneCell'])
  go_wp2_with (first | (refine ldm Tryz.underlying42 ld ?_; try simp only [Act.put, sA, zA, cA]) | (refine wpList_store_mid rfl 42 _ _ rfl (w.heap.size + 1) 0 (eA d.k d.op y1 y2 (.slice (some ⟨g3, 0, none⟩) d.n d.n)) rfl rfl st0 (by kernel_rfl) one1 ?_; try simp only [Act.put]))
  have hrd : (W3.setCells (w.heap.size + 1) 0 (eL d.k d.op y1 y2 (.slice (some ⟨g3, 0, none⟩) d.n d.n))).rangeAt (w.heap.size + 1) 0 (eL d.k d.op y1 y2 (.slice (some ⟨g3, 0, none⟩) d.n d.n)) := World.rangeAt_setCells_same _ _ _ _ st0
  refine bodyPost_ret (v := .agg (eA d.k d.op y1 y2 (.slice (some ⟨g3, 0, none⟩) d.n d.n))) ?hr rfl ?hp
  case hr => exact results_cell rfl rfl (run_loadVar_mid (P := Tryz.prog) _ (w.heap.size + 1) 0 42 (eL d.k d.op y1 y2 (.slice (some ⟨g3, 0, none⟩) d.n d.n)) _ hrd Tryz.underlying42 rfl (by kernel_rfl))
  have HM3f : KRow w.heap.size (W3.setCells (w.heap.size + 1) 0 (eL d.k d.op y1 y2 (.slice (some ⟨g3, 0, none⟩) d.n d.n))) 8 (some ⟨g3, 0, none⟩) d.n (fun i => (k3 i).d.cells) := ((HM3.o.upper ((upper_sets _ _ 0 W3).mono (by omega))).base (by omega))
  have HW3f : FrW w.heap.size (W3.setCells (w.heap.size + 1) 0 (eL d.k d.op y1 y2 (.slice (some ⟨g3, 0, none⟩) d.n d.n))) g3 (d.n * 8) := ((HW3.o.upper ((upper_sets _ _ 0 W3).mono (by omega))).base (by omega))
  have HL3f : ∀ i, i < d.n → (k3 i).own w.heap.size (W3.setCells (w.heap.size + 1) 0 (eL d.k d.op y1 y2 (.slice (some ⟨g3, 0, none⟩) d.n d.n))) := (fun i hi => ((fun i hi => (HL3.o i hi).upper ((upper_sets _ _ 0 W3).mono (by omega))) i hi).base (by omega))
  have HM2f : BsF w.heap.size (W3.setCells (w.heap.size + 1) 0 (eL d.k d.op y1 y2 (.slice (some ⟨g3, 0, none⟩) d.n d.n))) y2.sl := ((HM2.o.upper ((upper_sets _ _ 0 W3).mono (by omega))).base (by omega))
  have HW2f : TxW w.heap.size (W3.setCells (w.heap.size + 1) 0 (eL d.k d.op y1 y2 (.slice (some ⟨g3, 0, none⟩) d.n d.n))) y2.sl := ((HW2.o.upper ((upper_sets _ _ 0 W3).mono (by omega))).base (by omega))
  have HM1f : y1.own w.heap.size (W3.setCells (w.heap.size + 1) 0 (eL d.k d.op y1 y2 (.slice (some ⟨g3, 0, none⟩) d.n d.n))) := ((HM1.o.upper ((upper_sets _ _ 0 W3).mono (by omega))).base (by omega))
  have hbf : Bl w (W3.setCells (w.heap.size + 1) 0 (eL d.k d.op y1 y2 (.slice (some ⟨g3, 0, none⟩) d.n d.n))) := below_sets _ (by omega) _ _ _ HT.o.bl
  exact ⟨ET.mk ⟨d.k, d.op, y1, y2, some _, d.n, d.n⟩ k3, rfl, ⟨⟨HM1f.1, HM2f, HF2.o, HN.o, HM3f, fun i hi => (HL3f i hi).1⟩, HM1f.2, HW2f, ⟨g3, rfl, HW3f⟩, fun i hi => (HL3f i hi).2⟩, ⟨rfl, rfl, HE1.o, HE2.o, rfl, HE3.o⟩, hbf⟩
theorem run_make_toTermSW_of (n : Nat) (hn : n ≤ 1048576) (w : World) :
 (Instr.makeSlice 43 (.int .i64 (n : Int)) (.int .i64 (n : Int))).run Tryz.prog w = .ok (.slice (some ⟨w.heap.size, 0, none⟩) n n) (w.alloc (.cells (madeCells #[.int .i64 0, .slice none 0 0, .int .i64 0, .int .i64 0] (n * 4)) 35)) := by
 have hi0 : (Tryz.prog.info? 35).map (fun i => (i.zero, i.size, i.bytes)) = some (some (.agg #[.int .i64 0, .slice none 0 0, .int .i64 0, .int .i64 0]), 4, 48) := by kernel_rfl
 obtain ⟨i, hi, hzz⟩ := Option.map_eq_some_iff.1 hi0
 simp only [Prod.mk.injEq] at hzz
 obtain ⟨hz, hs, hb⟩ := hzz
 have hr := run_make (P := Tryz.prog) w 43 35 i _ Tryz.underlying43 hi hz .i64 .i64 n n (by omega) (Int.le_refl _) (by rw [hb]; omega) (by omega)
 simp only [Int.toNat_natCast, hs, Value.cells] at hr
 exact hr
def CptoTermSW_of (w : World) (n : Nat) (tm : Nat → TB) (e : Ending) (w' : World) : Prop := ∃ (g : Nat) (k' : Nat → TB), e = .returned (.slice (some ⟨g, 0, none⟩) n n) ∧ KRow w.heap.size w' 4 (some ⟨g, 0, none⟩) n (fun i => enc4 (k' i).t) ∧ FrW w.heap.size w' g (n * 4) ∧ (∀ i, i < n → (k' i).own w.heap.size w') ∧ (∀ i, i < n → (tm i).same (k' i)) ∧ Bl w w'
theorem toTermSW_of (a : Option Addr) (cap n : Nat) (tm : Nat → TB) (w : World) (hn : n ≤ 1048576) (hR : KRow 0 w 4 a n (fun i => enc4 (tm i).t))
 (IH : ∀ i, i < n → ∀ (W : World), Bl w W → Calls Tryz.prog 80 #[.agg #[.int .i64 (tm i).t.k, .slice (tm i).t.a (tm i).t.len (tm i).t.cap, .int .i64 (tm i).t.n, .int .i64 (tm i).t.s]] W fun e w' => ∃ y : TB, e = .returned (.agg #[.int .i64 y.t.k, .slice y.t.a y.t.len y.t.cap, .int .i64 y.t.n, .int .i64 y.t.s]) ∧ y.own W.heap.size w' ∧ (tm i).same y ∧ Bl W w') :
 Calls Tryz.prog 34 #[.slice a n cap] w (CptoTermSW_of w n tm) := by
 have hmk := run_make_toTermSW_of n hn
 by_cases hn0 : n = 0
 · subst hn0
   have hmk0 := fun w => by simpa using hmk w
   clear hmk hR IH hn
   go_in
   go_wp2
   refine wp_loop_rounds 1 ?_
   rw [rounds_succ]
   go_wp2
   go_ret
   exact ⟨w.heap.size, tm, rfl, .inl rfl, .inl (by simp), fun i hi => absurd hi nN, fun i hi => absurd hi nN, bl_a _⟩
 obtain ⟨b, off, rfl, _, hlt, hc⟩ := hR.resolve_left hn0
 have HC := iH hc
 have HI := iH IH
 have HTH : Hd ((w.alloc (.cells (madeCells #[.int .i64 0, .slice none 0 0, .int .i64 0, .int .i64 0] (n * 4)) 35)).there w.heap.size 0 (n * 4)) := fun j hj => by
  have hs := size_madeCells #[.int .i64 0, .slice none 0 0, .int .i64 0, .int .i64 0] (n * 4)
  have h := OB.new w (madeCells #[.int .i64 0, .slice none 0 0, .int .i64 0, .int .i64 0] (n * 4)) 35
  have h2 := h.2 (0 + j) _ (List.getElem?_eq_getElem (by rw [Array.length_toList, hs]; omega))
  exact ⟨by rw [h2.1]; rfl, h2.2⟩
 clear hR hc IH
 go_in
 go_wp2
 go_loopw [4] (fun i wr => ∃ (k : Nat) (f : Nat → TB), k ≤ n ∧ i = .int .i64 k ∧ Hd (wr.there w.heap.size 0 (n * 4)) ∧ Hd (∀ j, j < k → wr.rangeAt w.heap.size (j * 4) (enc4 (f j).t)) ∧ Hd (∀ j, j < k → (f j).own (w.heap.size + 1) wr) ∧ Hd (∀ j, j < k → (tm j).same (f j)) ∧ Hd (Bl w wr) ∧ Hd (w.heap.size < wr.heap.size))
  (fun i _ => n - (intOf i).toNat)
 case atStart => exact ⟨0, tm, nZ, rfl, HTH, fun j hj => absurd hj nN, fun j hj => absurd hj nN, fun j hj => absurd hj nN, bl_a _, (show w.heap.size < _ by simp)⟩
 obtain ⟨k, f, hk, rfl, HX, HR, HL, HS, HB, HZ⟩ := hrel
 clear hmk HTH
 by_cases hlk : k < n
 · have hlkz : (k : Int) < (n : Int) := by omega
   have hcx := fun c u (hu : (enc4 _)[c]? = some u) => (HB.o.cell (p := ⟨b, off + k * 4 + c, none⟩) hlt).trans (HC.o k hlk c u hu)
   have Z := HI.o k hlk
   go_wp2_with (refine ldm Tryz.underlying25 hcx ?_; try simp only [Act.put, sA, zA, cA])
   refine (Z _ HB.o).mono ?_
   rintro e w2 ⟨y, rfl, hy, he, hb2⟩
   have hkz : k * 4 + 4 ≤ n * 4 := by rw [← Nat.succ_mul]; exact Nat.mul_le_mul_right _ hlk
   have hth : w2.there w.heap.size (k * 4) 4 := fun j hj => by
    have h := HX.o (k * 4 + j) (by omega)
    rw [Nat.zero_add] at h
    exact ⟨by rw [hb2.cell (p := ⟨w.heap.size, k * 4 + j, none⟩) HZ.o]; exact h.1, (hb2.frozen (p := ⟨w.heap.size, k * 4 + j, none⟩) HZ.o).trans h.2⟩
   have HN1 : Hd ((w2.setCells w.heap.size (k * 4) [.int .i64 y.t.k, .slice y.t.a y.t.len y.t.cap, .int .i64 y.t.n, .int .i64 y.t.s]).there w.heap.size 0 (n * 4)) := World.there_setCells (fun j hj => ⟨by rw [hb2.cell (p := ⟨w.heap.size, 0 + j, none⟩) HZ.o]; exact (HX.o j hj).1, (hb2.frozen (p := ⟨w.heap.size, 0 + j, none⟩) HZ.o).trans (HX.o j hj).2⟩) _ _ _
   have hlen : ([.int .i64 y.t.k, .slice y.t.a y.t.len y.t.cap, .int .i64 y.t.n, .int .i64 y.t.s] : List Value).length = 4 := rfl
   have HN2 : Hd (∀ j, j < k + 1 → (w2.setCells w.heap.size (k * 4) [.int .i64 y.t.k, .slice y.t.a y.t.len y.t.cap, .int .i64 y.t.n, .int .i64 y.t.s]).rangeAt w.heap.size (j * 4) (enc4 (if j = k then y else f j).t)) := fun j hj => by
    by_cases e : j = k
    · subst e
      rw [if_pos rfl]
      exact World.rangeAt_setCells_same w2 _ _ _ (by rw [hlen]; exact hth)
    rw [if_neg e]
    have hjk : j * 4 + 4 ≤ k * 4 := by rw [← Nat.succ_mul]; exact Nat.mul_le_mul_right _ (by omega)
    refine World.rangeAt_setCells_apart (fun c u hu => (hb2.cell (p := ⟨w.heap.size, j * 4 + c, none⟩) HZ.o).trans (HR.o j (by omega) c u hu)) _ _ _ (.inr (.inl ?_))
    show j * 4 + 4 ≤ _
    exact hjk
   have hu3 : Upper (w.heap.size + 1) w2 (w2.setCells w.heap.size (k * 4) [.int .i64 y.t.k, .slice y.t.a y.t.len y.t.cap, .int .i64 y.t.n, .int .i64 y.t.s]) := upper_sets _ _ _ _
   have HN3 : Hd (∀ j, j < k + 1 → (if j = k then y else f j).own (w.heap.size + 1) (w2.setCells w.heap.size (k * 4) [.int .i64 y.t.k, .slice y.t.a y.t.len y.t.cap, .int .i64 y.t.n, .int .i64 y.t.s])) := fun j hj => by
    by_cases e : j = k
    · rw [if_pos e]
      exact ((hy).base HZ.o).upper hu3
    rw [if_neg e]
    exact ((HL.o j (by omega)).upper (uB hb2)).upper hu3
   have HN4 : Hd (∀ j, j < k + 1 → (tm j).same (if j = k then y else f j)) := fun j hj => by
    by_cases e : j = k
    · rw [if_pos e, e]
      exact he
    rw [if_neg e]
    exact HS.o j (by omega)
   have HN5 : Hd (Bl w (w2.setCells w.heap.size (k * 4) [.int .i64 y.t.k, .slice y.t.a y.t.len y.t.cap, .int .i64 y.t.n, .int .i64 y.t.s])) := below_sets _ nR _ _ _ (bl_trans HB.o hb2)
   have HN6 := iH (Nat.lt_of_lt_of_le (Nat.lt_of_lt_of_le HZ.o hb2.size) hu3.size)
   have one1 := all_oneCell_toArray (cs := [.int .i64 y.t.k, .slice y.t.a y.t.len y.t.cap, .int .i64 y.t.n, .int .i64 y.t.s]) (by simp [Value.oneCell'])
   clear Z hcx hy he hb2 hu3 hlen hkz HX HR HL HS HB HZ
   go_upto_region 4 with (refine wpList_store_mid rfl 35 _ _ rfl w.heap.size (k * 4) #[.int .i64 y.t.k, .slice y.t.a y.t.len y.t.cap, .int .i64 y.t.n, .int .i64 y.t.s] rfl rfl hth (by kernel_rfl) one1 ?_; try simp only [Act.put])
   clear hth one1
   go_wp2
   go_roundw
   case rel => exact ⟨k + 1, fun j => if j = k then y else f j, by omega, by go_num, HN1, HN2, HN3, HN4, HN5, HN6⟩
   case measure => simp [intOf]; omega
 obtain rfl : k = n := by omega
 have hlkz : ¬ (k : Int) < (k : Int) := by omega
 go_wp2
 go_ret
 exact ⟨w.heap.size, f, rfl, .inr ⟨w.heap.size, 0, rfl, nR, HZ.o, fun i hi c u hu => by rw [Nat.zero_add]; exact HR.o i hi c u hu⟩, .inr ⟨nR, HZ.o, fun j hj => by have h := (HX.o j hj).2; rwa [Nat.zero_add] at h⟩, fun i hi => (HL.o i hi).base (Nat.le_succ _), HS.o, HB.o⟩
theorem toTermSW (a : Option Addr) (cap : Nat) (tb : List TB) (w : World) (hn : tb.length ≤ 1048576) (h : TRowF 0 w a tb) :
 Calls Tryz.prog 34 #[.slice a tb.length cap] w fun e w' => ∃ (a' : Option Addr) (c' : Nat) (l' : List TB), e = .returned (.slice a' l'.length c') ∧ TRowF w.heap.size w' a' l' ∧ TsW w.heap.size w' a' l' ∧ tb.map TB.td = l'.map TB.td ∧ Bl w w' := by
 refine (toTermSW_of a cap _ _ w hn (trow_krow h) fun i hi W hW => ?_).mono ?_
 · have hm := (tbG_at hi)
   have h2 := h.2.2 _ hm.2
   rw [← hm.1] at h2
   refine (toTermW _ W (h2.1.upper (uB hW)) h2.2).mono ?_
   rintro e w' ⟨y, rfl, h3, h4, h5, h6, h7⟩
   exact ⟨y, rfl, ⟨⟨h3, h5⟩, h4⟩, h6, h7⟩
 rintro e w' ⟨g, f, rfl, h1, hw, h2, h3, h4⟩
 refine ⟨some _, tb.length, (List.range _).map f, by simp, krow_trow h1 (fun i hi => (h2 i hi).1), ⟨⟨g, rfl, by simpa using hw⟩, fun x hx => ?_⟩, ?_, h4⟩
 · obtain ⟨i, hi, rfl⟩ := List.mem_map.1 hx
   exact (h2 i (List.mem_range.1 hi)).2
 apply List.ext_getElem
 · simp
 intro i hi hi'
 have hi1 : i < tb.length := by simpa using hi
 have := h3 i hi1
 rw [(tbG_at hi1).1] at this
 have h5 : tb[i].td = (f i).td := this
 simpa using h5
end Go.Proofs.YtoloadogihbdeaaGreat
