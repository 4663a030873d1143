import Derived.Test.YtoloadogihbdeaaGreatMk19
namespace Go.Proofs.YtoloadogihbdeaaGreat
open Go.RowKit Go.Deep
set_option maxHeartbeats 40000000
set_option maxRecDepth 100000
structure KR (α : Type) where
 a : Option Addr
 c : Nat
 k : Nat → α
structure KRE (n B : Nat) (w : World) (y : KR ET) : Prop where
 le : n ≤ y.c
 row : KRow B w 8 y.a n (fun i => (y.k i).d.cells)
 z : RoZ B w y.a n 8
 o : ∀ i, i < n → (y.k i).ow B w
theorem KRE.upper {n B : Nat} {w w' : World} {y : KR ET} (h : KRE n B w y) (hu : Upper B w w') : KRE n B w' y := ⟨h.le, h.row.upper hu, h.z.upper hu, fun i hi => (h.o i hi).upper hu⟩
theorem KRE.base {n B B' : Nat} {w : World} {y : KR ET} (h : KRE n B w y) (hB : B' ≤ B) : KRE n B' w y := ⟨h.le, h.row.base hB, h.z.base hB, fun i hi => (h.o i hi).base hB⟩
theorem exprCopied (e : ET) : ∀ (w : World), e.lies 0 w → Calls Tryz.prog 91 #[.agg e.d.ar] w fun r w' => ∃ y : ET, r = .returned (.agg y.d.ar) ∧ y.ow w.heap.size w' ∧ Cp w.heap.size w'.heap.size y.fp ∧ e.same y ∧ Bl w w' := by
 induction e with
 | nil => exact fun _ h => False.elim h
 | mk d kid ih =>
  intro w h
  show Calls Tryz.prog 91 #[.agg d.ar] w fun r w' => ∃ y : ET, r = .returned (.agg y.d.ar) ∧ y.ow w.heap.size w' ∧ Cp w.heap.size w'.heap.size y.fp ∧ (ET.mk d kid).same y ∧ Bl w w'
  obtain ⟨hv, ht, hf, hn, hR, hk⟩ := h
  have HX := iH ((Box.new w d.ar 42 (0, 0)).below (bl_a (.cells zEa 42)))
  have HO : Hd (OB ((w.alloc (.cells d.ar 42)).alloc (.cells zEa 42)) (w.heap.size + 1) zEl) := (show OB _ _ _ by have h := OB.new (w.alloc (.cells d.ar 42)) zEa 42; simpa using h)
  have HB : Hd (Bl w ((w.alloc (.cells d.ar 42)).alloc (.cells zEa 42))) := bl_alloc (bl_a _) _
  have HC0 := iH (fun W (hb : Bl w W) => clone_own d.v W (hv.upper (uB hb)))
  have HC1 := iH (fun W (hb : Bl w W) => termCopied d.t W (ht.upper (uB hb)) hf)
  have HC2 : Hd (∀ W, Bl w W → Cl 131 #[.slice d.ka d.n d.kc] W fun r w' => ∃ y : KR ET, r = .returned (.slice y.a d.n y.c) ∧ KRE d.n W.heap.size w' y ∧ Cp W.heap.size w'.heap.size (rfp y.a d.n ++ catB (fun i => (y.k i).fp) d.n) ∧ (∀ i, i < d.n → (kid i).same (y.k i)) ∧ Bl W w') := fun W hb => (copiesE d.ka d.kc d.n kid W hn (hR.upper (uB hb)) (fun i hi W' hW => ih i W' (ET.lies.upper (uB (bl_trans hb hW)) (hk i hi)))).mono fun r w' ⟨a', c', k', h1, h2, h3, h4, h5, h6, h7, h8⟩ => ⟨⟨a', c', k'⟩, h1, ⟨h2, h3, h4, h5⟩, h7, h6, h8⟩
  have HN := iH hn
  clear hv ht hf hn hR hk ih
  go_in
  go_upto_region 1 with fail
  generalize ((w.alloc _).alloc _) = W1 at *
  have HG : Hd (w.heap.size + 1 < W1.heap.size) := HO.o.1
  go_wp2_with fail
  refine wqd (fun w' => Bl w w' ∧ Box w' w.heap.size d.cl) ?_ fun hHeld => ?_
  · exact ⟨Below.drew HB.o, HX.o.below bdr⟩
  refine tqB 0 3 ?_
  refine tqB 1 4 (v := .int .i64 d.k) (hy := by intro w' hSw; have c0 := hSw.2.2 0 _ rfl; go_simp; (try with_reducible rfl)) ?_
  refine tqB 2 5 ?_
  refine tqB 3 6 (v := .int .i64 d.op) (hy := by intro w' hSw; have c0 := hSw.2.2 1 _ rfl; go_simp; (try with_reducible rfl)) ?_
  refine tqB 4 7 ?_
  refine tqB 5 8 (v := .slice d.v.a d.v.len d.v.cap) (hy := by intro w' hSw; have c0 := hSw.2.2 2 _ rfl; go_simp; (try with_reducible rfl)) ?_
  refine tqB 7 10 ?_
  refine ldq 8 11 Tryz.underlying35 (fun w' h => h.2.range 3 [.int .i64 d.t.t.k, .slice d.t.t.a d.t.t.len d.t.t.cap, .int .i64 d.t.t.n, .int .i64 d.t.t.s] rfl) ?_
  refine tqB 10 13 ?_
  refine tqB 11 14 (v := .slice d.ka d.n d.kc) (hy := by intro w' hSw; have c0 := hSw.2.2 7 _ rfl; go_simp; (try with_reducible rfl)) ?_
  refine rqA 6 fun K hK => ?_
  go_simp
  refine (HC0.o _ hHeld.1).mono ?_
  rintro r w2 ⟨y1, rfl, hy, hc, he, hb2⟩
  have HBn := iH (bl_trans (Below.drew HB.o) hb2)
  have HXn := iH ((HX.o.below bdr).below hb2)
  have HOn := iH ((HO.o.below bdr).below hb2)
  have HZn : Hd (W1.heap.size ≤ w2.heap.size) := (show W1.heap.size ≤ _ from hb2.size)
  have HC : Hd (Cp W1.heap.size w2.heap.size (y1.fp)) := hc
  have HY1 : Hd (y1.own W1.heap.size w2) := hy
  have HE1 := iH he
  clear hy hc he hb2 hHeld HB HX HO
  have HB := HBn
  have HX := HXn
  have HO := HOn
  have HZ := HZn
  clear HBn HXn HOn HZn
  go_wp2_with fail
  refine hK.out _ _ ?_ fun hHeld => ?_
  · exact ⟨HB.o, HX.o⟩
  clear hK K
  try simp only [Act.put, sA, zA, cA]
  refine rqA 9 fun K hK => ?_
  go_simp
  refine (HC1.o _ hHeld.1).mono ?_
  rintro r w3 ⟨y2, rfl, hy, hc, he, hb2⟩
  have HBn := iH (bl_trans HB.o hb2)
  have HXn := iH (HX.o.below hb2)
  have HOn := iH (HO.o.below hb2)
  have HZn : Hd (W1.heap.size ≤ w3.heap.size) := Nat.le_trans HZ.o hb2.size
  have HCn : Hd (Cp W1.heap.size w3.heap.size (y1.fp ++ y2.fp)) := HC.o.app hc HZ.o hb2.size
  have HY1n := iH (HY1.o.upper (uB hb2))
  have HY2 : Hd (y2.own W1.heap.size w3) := hy.base HZ.o
  have HE2 := iH he
  clear hy hc he hb2 hHeld HB HX HO HZ HC HY1
  have HB := HBn
  have HX := HXn
  have HO := HOn
  have HZ := HZn
  have HC := HCn
  have HY1 := HY1n
  clear HBn HXn HOn HZn HCn HY1n
  go_wp2_with fail
  refine hK.out _ _ ?_ fun hHeld => ?_
  · exact ⟨HB.o, HX.o⟩
  clear hK K
  try simp only [Act.put, sA, zA, cA]
  refine rqA 12 fun K hK => ?_
  go_simp
  refine (HC2.o _ hHeld.1).mono ?_
  rintro r w4 ⟨y3, rfl, hy, hc, he, hb2⟩
  have HBn := iH (bl_trans HB.o hb2)
  have HXn := iH (HX.o.below hb2)
  have HOn := iH (HO.o.below hb2)
  have HZn : Hd (W1.heap.size ≤ w4.heap.size) := Nat.le_trans HZ.o hb2.size
  have HCn : Hd (Cp W1.heap.size w4.heap.size (y1.fp ++ y2.fp ++ (rfp y3.a d.n ++ catB (fun i => (y3.k i).fp) d.n))) := HC.o.app hc HZ.o hb2.size
  have HY1n := iH (HY1.o.upper (uB hb2))
  have HY2n := iH (HY2.o.upper (uB hb2))
  have HY3 : Hd (KRE d.n W1.heap.size w4 y3) := hy.base HZ.o
  have HE3 := iH he
  clear hy hc he hb2 hHeld HB HX HO HZ HC HY1 HY2
  have HB := HBn
  have HX := HXn
  have HO := HOn
  have HZ := HZn
  have HC := HCn
  have HY1 := HY1n
  have HY2 := HY2n
  clear HBn HXn HOn HZn HCn HY1n HY2n
  go_wp2_with fail
  refine hK.out _ _ ?_ fun hHeld => ?_
  · exact ⟨HB.o, HX.o⟩
  clear hK K
  try simp only [Act.put, sA, zA, cA]
  refine tqB 13 16 (v := .agg (eA d.k d.op y1 y2 (.slice y3.a d.n y3.c))) ?_
  have st : w4.there (w.heap.size + 1) 0 8 := HO.o.there 0 8 (by simp)
  have on : ((eA d.k d.op y1 y2 (.slice y3.a d.n y3.c)) : Array Value).all (·.oneCell') = true := all_oneCell_toArray (cs := (eL d.k d.op y1 y2 (.slice y3.a d.n y3.c))) (by simp [Value.oneCell'])
  have hrd : (w4.setCells (w.heap.size + 1) 0 (eL d.k d.op y1 y2 (.slice y3.a d.n y3.c))).rangeAt (w.heap.size + 1) 0 (eL d.k d.op y1 y2 (.slice y3.a d.n y3.c)) := World.rangeAt_setCells_same _ _ _ _ st
  have hbf := iH (below_sets (w0 := w) (w.heap.size + 1) (by omega) (eL d.k d.op y1 y2 (.slice y3.a d.n y3.c)) 0 w4 HB.o)
  have hxf := iH (HX.o.upper (but_sets (w.heap.size + 1) (eL d.k d.op y1 y2 (.slice y3.a d.n y3.c)) 0 w4) (by omega))
  have hsf : Hd ((w4.setCells (w.heap.size + 1) 0 (eL d.k d.op y1 y2 (.slice y3.a d.n y3.c))).heap.size = w4.heap.size) := (but_sets (w.heap.size + 1) (eL d.k d.op y1 y2 (.slice y3.a d.n y3.c)) 0 w4).size
  have HY1f := iH ((HY1.o.upper ((upper_sets (w.heap.size + 1) (eL d.k d.op y1 y2 (.slice y3.a d.n y3.c)) 0 w4).mono HG.o)).base (by have := HG.o; omega : w.heap.size ≤ W1.heap.size))
  have HY2f := iH ((HY2.o.upper ((upper_sets (w.heap.size + 1) (eL d.k d.op y1 y2 (.slice y3.a d.n y3.c)) 0 w4).mono HG.o)).base (by have := HG.o; omega : w.heap.size ≤ W1.heap.size))
  have HY3f := iH ((HY3.o.upper ((upper_sets (w.heap.size + 1) (eL d.k d.op y1 y2 (.slice y3.a d.n y3.c)) 0 w4).mono HG.o)).base (by have := HG.o; omega : w.heap.size ≤ W1.heap.size))
  refine rqA 14 fun K hK => ?_
  refine step_storeV 42 (w.heap.size + 1) 0 (eA d.k d.op y1 y2 (.slice y3.a d.n y3.c)) st on ?_
  refine hK.out _ _ ?_ fun hHeld => ?_
  · exact ⟨hbf.o, hxf.o⟩
  clear hK K st on hHeld
  try simp only [Act.put]
  generalize w4.setCells (w.heap.size + 1) 0 (eL d.k d.op y1 y2 (.slice y3.a d.n y3.c)) = W5 at *
  refine wpAnyH_done (by kernel_rfl) ?_ _
  go_wp2
  try simp only [Exit.inBlock, Exit.then]
  refine bodyPost_ret (v := .agg (eA d.k d.op y1 y2 (.slice y3.a d.n y3.c))) ?hr rfl ?hp
  case hr => exact results_cell rfl rfl (run_loadVar_mid (P := Tryz.prog) _ (w.heap.size + 1) 0 42 (eL d.k d.op y1 y2 (.slice y3.a d.n y3.c)) _ hrd Tryz.underlying42 rfl (by kernel_rfl))
  have HCf : Cp w.heap.size W5.heap.size (y1.fp ++ y2.fp ++ (rfp y3.a d.n ++ catB (fun i => (y3.k i).fp) d.n)) := HC.o.mono (by have := HG.o; omega) (by rw [hsf.o]; exact nR)
  exact ⟨ET.mk ⟨d.k, d.op, y1, y2, y3.a, y3.c, d.n⟩ y3.k, rfl, ⟨⟨HY1f.o.1, HY2f.o.1.1, HY2f.o.1.2, HN.o, HY3f.o.row, fun i hi => (HY3f.o.o i hi).l⟩, ⟨HY1f.o.2, HY2f.o.2, HY3f.o.z, fun i hi => (HY3f.o.o i hi).z⟩⟩, HCf, ⟨rfl, rfl, HE1.o.symm, HE2.o, rfl, HE3.o⟩, hbf.o⟩
structure TR where
 a : Option Addr
 c : Nat
 l : List TB
structure TR.own (B : Nat) (w : World) (y : TR) : Prop where
 le : y.l.length ≤ y.c
 row : TRowF B w y.a y.l
 z : RoZ B w y.a y.l.length 4
 t : ∀ x ∈ y.l, TxW B w x.sl
theorem TR.own.upper {B : Nat} {w w' : World} {y : TR} (h : y.own B w) (hu : Upper B w w') : y.own B w' := ⟨h.le, h.row.upper hu, h.z.upper hu, fun x hx => (h.t x hx).upper hu⟩
theorem TR.own.base {B B' : Nat} {w : World} {y : TR} (h : y.own B w) (hB : B' ≤ B) : y.own B' w := ⟨h.le, h.row.base hB, h.z.base hB, fun x hx => (h.t x hx).base hB⟩
def tfp (a : Option Addr) (l : List TB) : List Nat := rfp a l.length ++ catB (fun i => (tbN l i).fp) l.length
theorem tbN_map {n : Nat} {f : Nat → TB} {i : Nat} (hi : i < n) : tbN ((List.range n).map f) i = f i := by
 unfold tbN
 rw [List.getElem?_map, List.getElem?_range hi]
 rfl
theorem krow_trowZ {B : Nat} {w : World} {a : Option Addr} {n : Nat} {f : Nat → TB} (h : KRow B w 4 a n (fun i => enc4 (f i).t)) (hz : RoZ B w a n 4) (hl : ∀ i, i < n → (f i).lies B w) : TRowF B w a ((List.range n).map f) := by
 rcases hz with rfl | ⟨g, rfl, _⟩
 · exact ⟨.inl rfl, .inl rfl, fun x hx => by cases hx⟩
 exact krow_trow h hl
theorem termsCopied (a : Option Addr) (cap : Nat) (tb : List TB) (w : World) (hn : tb.length ≤ 1048576) (h : TRowF 0 w a tb) :
 Calls Tryz.prog 93 #[.slice a tb.length cap] w fun e w' => ∃ y : TR, e = .returned (.slice y.a y.l.length y.c) ∧ y.own w.heap.size w' ∧ Cp w.heap.size w'.heap.size (tfp y.a y.l) ∧ tb.map TB.td = y.l.map TB.td ∧ Bl w w' := by
 refine (copiesT a cap tb.length (tbG tb) w hn (trow_krow h) fun i hi W hW => ?_).mono ?_
 · have hm := (tbG_at hi)
   have h2 := h.2.2 _ hm.2
   rw [← hm.1] at h2
   exact termCopied (tbG tb i) W (h2.1.upper (uB hW)) h2.2
 rintro e w' ⟨a', c', f, rfl, h1, h2, h3, h4, h5, h6, h7⟩
 have el : ((List.range tb.length).map f).length = tb.length := by simp
 refine ⟨⟨a', c', (List.range tb.length).map f⟩, by rw [el], ⟨by rw [el]; exact h1, krow_trowZ h2 h3 (fun i hi => (h4 i hi).1), by rw [el]; exact h3, fun x hx => ?_⟩, ?_, ?_, h7⟩
 · obtain ⟨i, hi, rfl⟩ := List.mem_map.1 hx
   exact (h4 i (List.mem_range.1 hi)).2
 · unfold tfp
   rw [el, catB_congr (f := fun i => (f i).fp) fun i hi => (by show (tbN _ i).fp = _; rw [tbN_map hi])]
   exact h6
 apply List.ext_getElem
 · simp
 intro i hi hi'
 have hi1 : i < tb.length := by simpa using hi
 have := h5 i hi1
 rw [(tbG_at hi1).1] at this
 simpa using this
theorem wpq_at {P : Program} {ops : Array Oper} {rest : List Oper} {op : Oper} {a : Act} {w : World} {Q : Exit → Act → World → Prop} (h : wpList P ops Q (op :: rest) a w) : wpList P ops Q (op :: rest) a w := h
def kidsP (k : Int) : Nat := if k = 7 ∨ k = 8 then 0 else if k = 0 ∨ k = 5 ∨ k = 6 then 1 else 2
structure NodeP (d : PN) : Prop where
 k0 : 0 ≤ d.k
 k8 : d.k ≤ 8
 o0 : 0 ≤ d.ord
 o5 : d.ord ≤ 5
 n : d.n = kidsP d.k
 p1 : d.k = 0 → ptOk d.p
 p0 : d.k ≠ 0 → zeroP d.p
 oz : d.k ≠ 0 → d.ord = 0
 t0 : d.k ≠ 7 → d.tb = []
 tn : d.tb.length ≤ 8
 e1 : hasE d.k → eOk 120 d.e 1
 e0 : ¬ hasE d.k → zeroE d.e
 v1 : hasV d.k → nameOk d.v.b = true
 v0 : ¬ hasV d.k → d.v.b = []
 tm : ∀ x ∈ d.tb, x.td.ok = true
def cellsT (d : PN) (k : Int) (nt : Nat) : List Value := [.int .i64 k, .int .i64 d.ord, .slice d.p.s.v.a d.p.s.v.len d.p.s.v.cap, .int .i64 d.p.s.t.t.k, .slice d.p.s.t.t.a d.p.s.t.t.len d.p.s.t.t.cap, .int .i64 d.p.s.t.t.n, .int .i64 d.p.s.t.t.s, .slice d.p.p.v.a d.p.p.v.len d.p.p.v.cap, .int .i64 d.p.p.t.t.k, .slice d.p.p.t.t.a d.p.p.t.t.len d.p.p.t.t.cap, .int .i64 d.p.p.t.t.n, .int .i64 d.p.p.t.t.s, .slice d.p.o.v.a d.p.o.v.len d.p.o.v.cap, .int .i64 d.p.o.t.t.k, .slice d.p.o.t.t.a d.p.o.t.t.len d.p.o.t.t.cap, .int .i64 d.p.o.t.t.n, .int .i64 d.p.o.t.t.s, .int .i64 d.e.d.k, .int .i64 d.e.d.op, .slice d.e.d.v.a d.e.d.v.len d.e.d.v.cap, .int .i64 d.e.d.t.t.k, .slice d.e.d.t.t.a d.e.d.t.t.len d.e.d.t.t.cap, .int .i64 d.e.d.t.t.n, .int .i64 d.e.d.t.t.s, .slice d.e.d.ka d.e.d.n d.e.d.kc, .slice d.v.a d.v.len d.v.cap, .slice d.ta nt d.tc, .slice d.ka d.n d.kc]
def ownP (d : PN) : Nat := 1 + (if d.k = 2 ∨ d.k = 5 ∨ d.k = 6 then esz d.e else 0)
def pOk : PT → Int → Prop
 | .nil, _ => False
 | .mk d kid, deep => deep ≤ 480 ∧ NodeP d ∧ ∀ i, i < d.n → pOk (kid i) (deep + 1)
def psz : PT → Nat
 | .nil => 0
 | .mk d kid => ownP d + sumN d.n (fun i => psz (kid i))
theorem psz_mk (d : PN) (kid : Nat → PT) : psz (.mk d kid) = ownP d + sumN d.n (fun i => psz (kid i)) := rfl
theorem pOk_no {deep : Int} {d : PN} {kid : Nat → PT} {L : Int} {s : Nat} (h : ¬ NodeP d) : ¬ (pOk (.mk d kid) deep ∧ (s : Int) ≤ L) := fun hh => h hh.1.2.1
theorem l7planOk_0 (d : PN) (kid : Nat → PT) (hkv : d.k = 0) (deep L : Int) (g : Nat) (w0 w : World) (hl : (PT.mk d kid).lies 0 w0) (hw : Bl w0 w) (hg : w0.heap.size ≤ g) (hc : Ctr w g L) (hd0 : 0 ≤ deep) (hd1 : deep ≤ 100000) (hL0 : 0 ≤ L) (hL1 : L ≤ 100000)
 (IH : ∀ i, i < d.n → ∀ (L' : Int) (W : World), Bl w0 W → Ctr W g L' → 0 ≤ L' → L' ≤ 100000 → deep ≤ 480 → Calls Tryz.prog 75 #[.agg (kid i).d.ar, .int .i64 (deep + 1), .pointer (some ⟨g, 0, none⟩)] W (CtrAns (pOk (kid i) (deep + 1)) (psz (kid i)) g L' W)) :
 Calls Tryz.prog 75 #[.agg d.ar, .int .i64 deep, .pointer (some ⟨g, 0, none⟩)] w (CtrAns (pOk (.mk d kid) deep) (psz (.mk d kid)) g L w) := by
 try unfold PN.ar
 obtain ⟨hp, he, hv, ht, htn, hn, hR, hk⟩ := hl
 have hgw : g < w.heap.size := hc.lt
 have hsz : w0.heap.size ≤ w.heap.size := hw.size
 have HKV : Hd (d.k = 0) := hkv
 obtain ⟨nt, hnt⟩ : ∃ nt, nt = d.tb.length := ⟨_, rfl⟩
 have HNT : Hd (nt = d.tb.length) := hnt
 have HLV : Hd (d.v.b = [] ↔ d.v.len = 0) := nil_len hv.1.1
 have HVR : Hd (∀ W, Bl w0 W → Cl 108 #[.slice d.v.a d.v.len d.v.cap] W (Tells (nameOk d.v.b = true) W)) := fun W hb => l4var_any d.v W (hv.upper (uB hb))
 have HZE : Hd (∀ W, Bl w0 W → Cl 107 #[.agg d.e.d.ar] W (Tells (zeroE d.e) W)) := fun W hb => l4zeroExpr_any d.e W (ET.lies.upper (uB hb) he)
 have HEF : Hd (∀ W L', Bl w0 W → Ctr W g L' → 0 ≤ L' → L' ≤ 100000 → Cl 106 #[.agg d.e.d.ar, .int .i64 1, .pointer (some ⟨g, 0, none⟩)] W (CtrAns (eOk 120 d.e 1) (esz d.e) g L' W)) := fun W L' hb hc' h0 h1 => l5fits_any d.e 1 L' g w0 W he hb hg hc' (by omega) (by omega) h0 h1
 have HPT : Hd (∀ W, Bl w0 W → Cl 109 #[.agg d.p.ar] W (Tells (ptOk d.p) W)) := fun W hb => l4pat_any d.p W (hp.upper (uB hb))
 have HZP : Hd (∀ W, Bl w0 W → Cl 114 #[.agg d.p.ar] W (Tells (zeroP d.p) W)) := fun W hb => l4zeroPat_any d.p W (hp.upper (uB hb))
 have HTM : Hd (∀ x ∈ d.tb, ∀ W, Bl w0 W → Cl 110 #[.agg #[.int .i64 x.t.k, .slice x.t.a x.t.len x.t.cap, .int .i64 x.t.n, .int .i64 x.t.s]] W (Tells (x.td.ok = true) W)) := fun x hx W hb => (specTermOk_any x.t.k x.t.n x.t.s x.t.a x.t.len x.t.cap x.b W ((ht.2.2 x hx).1.upper (uB hb)).1 (ht.2.2 x hx).2.1 (ht.2.2 x hx).2.2.1).mono fun e w' ⟨h1, o, h2⟩ => by
  subst h1 h2
  exact Tells.of Iff.rfl (bl_a _)
 have HIH : Hd (∀ i, i < d.n → ∀ (L' : Int) (W : World), Bl w0 W → Ctr W g L' → 0 ≤ L' → L' ≤ 100000 → deep ≤ 480 → Cl 75 #[.agg (kid i).d.ar, .int .i64 (deep + 1), .pointer (some ⟨g, 0, none⟩)] W (CtrAns (pOk (kid i) (deep + 1)) (psz (kid i)) g L' W)) := IH
 have HTR : Hd (TRow w0 d.ta d.tb) := ht.1
 have HKR : Hd (KRow 0 w0 28 d.ka d.n (fun i => (kid i).d.cells)) := hR
 have HSZ : Hd (psz (.mk d kid) = 1 + 0 + sumN d.n (fun i => psz (kid i))) := (show psz (.mk d kid) = _ by rw [psz_mk]; unfold ownP; rw [hkv]; simp)
 have HCS : Hd (CS w0 w ((w.setCell ⟨g, 0, none⟩ (.int .i64 (L - 1))).alloc (.cells (wA 0 d.ord d.p d.e.d d.v (.slice d.ta nt d.tc) (.slice d.ka d.n d.kc)) 46)) g (L - 1) (cellsT d 0 nt)) := CS.new hw hg hc (wA 0 d.ord d.p d.e.d d.v (.slice d.ta nt d.tc) (.slice d.ka d.n d.kc)) 46 (L - 1)
 have c0 := fun o => ((bl_a (w := w) o).cell (p := ⟨g, 0, none⟩) hgw).trans hc.cell
 have f0 := fun o => ((bl_a (w := w) o).frozen (p := ⟨g, 0, none⟩) hgw).trans hc.fr
 have hwr : IntKind.i64.wrap (L - 1) = L - 1 := by rw [IntKind.wrap_i64]; omega
 rw [hkv, ← hnt]
 clear hp he hv ht htn hn hR hk hw hc IH hkv hnt
 go_enter Tryz.func75, Tryz.ntmps75
 go_upto_region 2 with fail
 generalize ((w.setCell ⟨g, 0, none⟩ (.int .i64 (L - 1))).alloc (.cells (wA 0 d.ord d.p d.e.d d.v (.slice d.ta nt d.tc) (.slice d.ka d.n d.kc)) 46)) = W1 at *
 clear c0 f0 hwr
 have hW1 : w0.heap.size ≤ W1.heap.size := HCS.o.bl.size
 have cg := HCS.o.ct.cell
 have x0 := HCS.o.bx.2 0 _ rfl
 have x1 := HCS.o.bx.2 1 _ rfl
 by_cases hLz : L - 1 < 0
 · have HNO : Hd (¬ (pOk (.mk d kid) deep ∧ ((psz (.mk d kid) : Nat) : Int) ≤ L)) := fun hh => by
    have h := hh.2
    have h2 := HSZ.o
    omega
   go_wp2
   go_ret
   exact CtrAns.no HNO.o HCS.o.ct HCS.o.pa
 by_cases hdz : deep > 480
 · have HNO : Hd (¬ (pOk (.mk d kid) deep ∧ ((psz (.mk d kid) : Nat) : Int) ≤ L)) := fun hh => by
    have h := hh.1.1
    omega
   go_wp2
   go_ret
   exact CtrAns.no HNO.o HCS.o.ct HCS.o.pa
 by_cases ho0 : d.ord < 0
 · have HNO : Hd (¬ NodeP d) := fun hh => by
    have h := hh.o0
    omega
   go_wp2
   go_ret
   exact CtrAns.no (pOk_no HNO.o) HCS.o.ct HCS.o.pa
 by_cases ho5 : d.ord > 5
 · have HNO : Hd (¬ NodeP d) := fun hh => by
    have h := hh.o5
    omega
   go_wp2
   go_ret
   exact CtrAns.no (pOk_no HNO.o) HCS.o.ct HCS.o.pa
 have hd10 : deep ≤ 480 := by omega
 have HO0 : Hd (0 ≤ d.ord) := (show 0 ≤ d.ord by omega)
 have HO5 : Hd (d.ord ≤ 5) := (show d.ord ≤ 5 by omega)
 have HCq : Hd (∀ o, CS w0 w (W1.alloc o) g (L - 1) (cellsT d 0 nt)) := fun o => HCS.o.below hW1 (bl_a o)
 have y0 := fun o => (HCq.o o).bx.2 0 _ rfl
 have y1 := fun o => (HCq.o o).bx.2 1 _ rfl
 have y26 := fun o => (HCq.o o).bx.2 26 _ rfl
 have y27 := fun o => (HCq.o o).bx.2 27 _ rfl
 have y2 := fun o => (HCq.o o).bx.2 2 _ rfl
 have y3 := fun o => (HCq.o o).bx.2 3 _ rfl
 have y4 := fun o => (HCq.o o).bx.2 4 _ rfl
 have y5 := fun o => (HCq.o o).bx.2 5 _ rfl
 have y6 := fun o => (HCq.o o).bx.2 6 _ rfl
 have y7 := fun o => (HCq.o o).bx.2 7 _ rfl
 have y8 := fun o => (HCq.o o).bx.2 8 _ rfl
 have y9 := fun o => (HCq.o o).bx.2 9 _ rfl
 have y10 := fun o => (HCq.o o).bx.2 10 _ rfl
 have y11 := fun o => (HCq.o o).bx.2 11 _ rfl
 have y12 := fun o => (HCq.o o).bx.2 12 _ rfl
 have y13 := fun o => (HCq.o o).bx.2 13 _ rfl
 have y14 := fun o => (HCq.o o).bx.2 14 _ rfl
 have y15 := fun o => (HCq.o o).bx.2 15 _ rfl
 have y16 := fun o => (HCq.o o).bx.2 16 _ rfl
 by_cases hn1 : d.n = 1
 rotate_left
 · have HNO : Hd (¬ NodeP d) := fun hh => hn1 (by have h := hh.n; rw [HKV.o] at h; exact h)
   have hne : ((1 : Int) == (d.n : Int)) = false := by simp; omega
   have hnf : ((1 : Int) != (d.n : Int)) = true := by simp; omega
   clear hn1
   go_wp2
   go_ret
   exact CtrAns.no (pOk_no HNO.o) (HCq.o _).ct (HCq.o _).pa
 have HN : Hd (d.n = 1) := hn1
 have hne : ((1 : Int) == (d.n : Int)) = true := by simp; omega
 have hnf : ((1 : Int) != (d.n : Int)) = false := by simp; omega
 clear hn1
 have ZP := fun o => HPT.o (W1.alloc o) (HCq.o o).bl
 go_wp2_with fail
 refine (ZP _).mono ?_
 rintro e w2 ⟨q2, rfl, hq2, hb2⟩
 have HC2 : Hd (CS w0 w w2 g (L - 1) (cellsT d 0 nt)) := (HCq.o _).below (HCq.o _).bl.size hb2
 clear ZP hb2 HCq y0 y1 y26 y27 y2 y3 y4 y5 y6 y7 y8 y9 y10 y11 y12 y13 y14 y15 y16 x0 x1 cg
 cases q2
 · have HNO : Hd (¬ NodeP d) := fun hh => by
    have h4 := hq2.2 (hh.p1 HKV.o)
    cases h4
   clear hq2
   go_wp2
   go_ret
   exact CtrAns.no (pOk_no HNO.o) HC2.o.ct HC2.o.pa
 have HP1 : Hd (d.k = 0 → ptOk d.p) := fun _ => hq2.1 rfl
 have HP0 : Hd (d.k ≠ 0 → zeroP d.p) := fun h => absurd HKV.o h
 have HOZ : Hd (d.k ≠ 0 → d.ord = 0) := fun h => absurd HKV.o h
 clear hq2
 have y0 := HC2.o.bx.2 0 _ rfl
 have y1 := HC2.o.bx.2 1 _ rfl
 have y26 := HC2.o.bx.2 26 _ rfl
 have y27 := HC2.o.bx.2 27 _ rfl
 by_cases ht1 : nt = 0
 rotate_left
 · have HNO : Hd (¬ NodeP d) := fun hh => ht1 (by rw [HNT.o]; exact tb_nil.1 (hh.t0 (by rw [HKV.o]; decide)))
   have htz : (0 : Int) < (nt : Int) := by omega
   clear ht1
   go_wp2
   go_ret
   exact CtrAns.no (pOk_no HNO.o) HC2.o.ct HC2.o.pa
 have HT0 : Hd (d.tb.length = 0) := (show d.tb.length = 0 by rw [← HNT.o]; exact ht1)
 have htz : ¬ (0 : Int) < (nt : Int) := by omega
 have htz2 : ¬ (8 : Int) < (nt : Int) := by omega
 clear ht1
 have y17 := HC2.o.bx.2 17 _ rfl
 have y18 := HC2.o.bx.2 18 _ rfl
 have y19 := HC2.o.bx.2 19 _ rfl
 have y20 := HC2.o.bx.2 20 _ rfl
 have y21 := HC2.o.bx.2 21 _ rfl
 have y22 := HC2.o.bx.2 22 _ rfl
 have y23 := HC2.o.bx.2 23 _ rfl
 have y24 := HC2.o.bx.2 24 _ rfl
 have ZE := HZE.o w2 HC2.o.bl
 go_wp2_with fail
 refine ZE.mono ?_
 rintro e w3 ⟨q3, rfl, hq3, hb3⟩
 have HC3 : Hd (CS w0 w w3 g (L - 1) (cellsT d 0 nt)) := HC2.o.below HC2.o.bl.size hb3
 clear ZE hb3 HC2 y0 y1 y26 y27 y17 y18 y19 y20 y21 y22 y23 y24
 cases q3
 · have HNO : Hd (¬ NodeP d) := fun hh => by
    have h4 := hq3.2 (hh.e0 (by rw [HKV.o]; unfold hasE; omega))
    cases h4
   clear hq3
   go_wp2
   go_ret
   exact CtrAns.no (pOk_no HNO.o) HC3.o.ct HC3.o.pa
 have HE0 : Hd (¬ hasE d.k → zeroE d.e) := fun _ => hq3.1 rfl
 have HE1 : Hd (hasE d.k → eOk 120 d.e 1) := fun h => absurd h (by rw [HKV.o]; unfold hasE; omega)
 obtain ⟨L3, hL3e⟩ : ∃ L3, L3 = L - 1 := ⟨_, rfl⟩
 have HL3 : Hd (L3 = L - (1 + 0 : Nat)) := (show L3 = _ by omega)
 have hL30 : 0 ≤ L3 := by omega
 have hL31 : L3 ≤ 100000 := by omega
 rw [← hL3e] at HC3
 clear hq3 hL3e
 have x25 := HC3.o.bx.2 25 _ rfl
 by_cases hv1 : d.v.len = 0
 rotate_left
 · have HNO : Hd (¬ NodeP d) := fun hh => hv1 (HLV.o.1 (hh.v0 (by rw [HKV.o]; unfold hasV; omega)))
   have hvz : (0 : Int) < (d.v.len : Int) := by omega
   clear hv1
   go_wp2
   go_ret
   exact CtrAns.no (pOk_no HNO.o) HC3.o.ct HC3.o.pa
 have HV1 : Hd (hasV d.k → nameOk d.v.b = true) := fun h => absurd h (by rw [HKV.o]; unfold hasV; omega)
 have HV0 : Hd (¬ hasV d.k → d.v.b = []) := fun _ => HLV.o.2 hv1
 have hvz : ¬ (0 : Int) < (d.v.len : Int) := by omega
 clear hv1
 have x26 := HC3.o.bx.2 26 _ rfl
 have x27 := HC3.o.bx.2 27 _ rfl
 have HTO : Hd (∀ x ∈ d.tb, x.td.ok = true) := fun x hx => absurd hx (by rw [tb_nil.2 HT0.o]; exact List.not_mem_nil)
 have HND : Hd (NodeP d) := ⟨by rw [HKV.o]; decide, by rw [HKV.o]; decide, HO0.o, HO5.o, by rw [HKV.o, HN.o]; rfl, HP1.o, HP0.o, HOZ.o, fun _ => tb_nil.2 HT0.o, by rw [HT0.o]; omega, HE1.o, HE0.o, HV1.o, HV0.o, HTO.o⟩
 obtain ⟨b, off, eK, _, hbk, hck⟩ := HKR.o.resolve_left (by rw [HN.o]; omega)
 have HCK : Hd (∀ i, i < d.n → ∀ c u, ((kid i).d.cells)[c]? = some u → w0.cell? ⟨b, off + i * 28 + c, none⟩ = some u) := hck
 have hbk' : b < w0.heap.size := hbk
 have HEK : Hd (d.ka = some ⟨b, off, none⟩) := eK
 clear eK hck hbk
 go_wp2_with fail
 refine wp_loop_rounds 1 ?_
 rw [rounds_succ]
 go_wp2_with fail
 clear x26 x27 x25
 go_loopw [11] (fun i wr => ∃ (k : Nat) (Lr : Int), k ≤ d.n ∧ i = .int .i64 k ∧ 0 ≤ Lr ∧ Lr ≤ 100000 ∧ Hd (Lr = L3 - (sumN k (fun i => psz (kid i)) : Nat)) ∧ Hd (∀ j, j < k → pOk (kid j) (deep + 1)) ∧ Hd (CS w0 w wr g Lr (cellsT d 0 nt))) (fun i _ => d.n - (intOf i).toNat)
 case atStart => exact ⟨0, L3, nZ, rfl, by omega, by omega, (show L3 = L3 - ((0 : Nat) : Int) by omega), fun j hj => absurd hj nN, HC3⟩
 clear HC3
 obtain ⟨k, Lr, hk, rfl, hLr0, hLr1, HLR, HOKS, HCr⟩ := hrel
 have x27 := HCr.o.bx.2 27 _ rfl
 have hn2 : d.n ≤ 2 := (show d.n ≤ 2 by rw [HN.o]; omega)
 by_cases hlk : k < d.n
 · have hlkz : (k : Int) < (d.n : Int) := by omega
   rw [HEK.o] at x27
   have hcx : wr.rangeAt b (off + k * 28) (kid k).d.cl := fun c u hu => (HCr.o.bl.cell (p := ⟨b, off + k * 28 + c, none⟩) hbk').trans (HCK.o k hlk c u hu)
   have Z := HIH.o k hlk Lr wr HCr.o.bl HCr.o.ct hLr0 hLr1 hd10
   have hdw : IntKind.i64.wrap (deep + 1) = deep + 1 := by rw [IntKind.wrap_i64]; omega
   go_wp2_with (with_reducible refine wpq_at ?_; refine wpList_load_mid rfl 46 _ rfl b (off + k * 28) rfl (kid k).d.cl _ hcx Tryz.underlying46 rfl (by kernel_rfl) ?_; try simp only [Act.put, sA, zA, cA])
   refine Z.mono ?_
   rintro e w5 ⟨q5, L5, rfl, hq5, hL5, hc5, hp5⟩
   have HC5 : Hd (CS w0 w w5 g L5 (cellsT d 0 nt)) := HCr.o.past hg hgw hp5 hc5
   clear Z hcx hc5 hp5 x27 HCr hdw
   have HS : Hd (sumN (k + 1) (fun i => psz (kid i)) = sumN k (fun i => psz (kid i)) + psz (kid k)) := rfl
   cases q5
   · have HNO : Hd (¬ (pOk (.mk d kid) deep ∧ ((psz (.mk d kid) : Nat) : Int) ≤ L)) := fun hh => by
      have h1 := hh.1.2.2 k hlk
      have h2 := HSZ.o
      have h3 := sumN_mono (f := fun i => psz (kid i)) (show k + 1 ≤ d.n by omega)
      have h4 := HLR.o
      have h5 := HS.o
      have h6 := hh.2
      have h8 := HL3.o
      have h7 := hq5.2 ⟨h1, by omega⟩
      cases h7
     clear hq5 hL5
     go_wp2
     go_ret
     exact CtrAns.no HNO.o HC5.o.ct HC5.o.pa
   obtain ⟨h51, h52⟩ := hq5.1 rfl
   have h53 := hL5 rfl
   have HN5 : Hd (pOk (kid k) (deep + 1)) := h51
   have HL5 : Hd (L5 = L3 - (sumN (k + 1) (fun i => psz (kid i)) : Nat)) := (show L5 = _ by have h1 := HS.o; have h2 := HLR.o; omega)
   have hL50 : 0 ≤ L5 := by omega
   have hL51 : L5 ≤ 100000 := by omega
   clear h51 h52 h53 hq5 hL5
   go_wp2
   go_roundw
   case rel =>
    refine ⟨k + 1, L5, by omega, by go_num, hL50, hL51, HL5, fun j hj => ?_, HC5⟩
    by_cases e : j = k
    · subst e
      exact HN5.o
    exact HOKS.o j (by omega)
   case measure => simp [intOf]; omega
 obtain rfl : k = d.n := by omega
 have hlkz : ¬ (d.n : Int) < (d.n : Int) := by omega
 go_wp2
 go_ret
 have h2 := HSZ.o
 have h4 := HLR.o
 have h8 := HL3.o
 exact CtrAns.yes ⟨hd10, HND.o, fun i hi => HOKS.o i hi⟩ (by omega) (by omega) HCr.o.ct HCr.o.pa
end Go.Proofs.YtoloadogihbdeaaGreat
