import Derived.Test.YtoloadogihbdeaaGreatMk06
namespace Go.Proofs.YtoloadogihbdeaaGreat
open Go.RowKit Go.Deep
set_option maxHeartbeats 40000000
variable {d : AN} {a : Act} {ops : Array Oper} {Q : Exit → Act → World → Prop} {rest : List Oper} {l : List TB} {op : Oper} {P : Program} {w : World}
theorem ldr {ty : TypeId} {x : Operand} {b o : Nat} {cs : List Value} {d : TypeDesc} (hgd : op.guard = none) (ho : op.op = .load ty x) (hx : a.eval x = .pointer (some ⟨b, o, none⟩)) (hu : P.underlying ty = some d) (hc : w.rangeAt b o cs) (hd : d.isRow = true)
  (h : wpList P ops Q rest (a.put op.dst (.agg cs.toArray)) w) (hi : (P.info? ty).map (·.size) = some cs.length := by kernel_rfl) : wpList P ops Q (op :: rest) a w := wpList_load_mid hgd ty x ho b o hx cs d hc hu hd hi h
set_option maxRecDepth 100000
def algOk (e : AT) : Prop := aOk e 1 ∧ asz e ≤ 480 ∧ (aV e []).length ≤ 8
theorem specAlgOk_any (e : AT) (w : World) (h : e.lies 0 w) : Calls Tryz.prog 27 #[.agg e.d.ar] w (Tells (algOk e) w) := by
 try unfold AN.ar AN.cl
 have A1 := fun (W : World) (g : Nat) (hb : Bl w W) (hg : w.heap.size ≤ g) (hc : Ctr W g 480) => l5alg_any e 1 480 g w W h hb hg hc (by omega) (by omega) (by omega) (by omega);have HV : Hd (∀ W, Bl w W → ac e ≤ 1000000 → Cl 71 #[.slice none 0 0, .agg e.d.ar] W (AddAns w W.heap.size (.slice none 0 0) (aV e []) W)) := fun W hb ha => l5vars_any e (.slice none 0 0) [] W.heap.size w W h (VL.nil _ _ _) hb (by simpa using ha) nR hb.size;have HAC : Hd (aOk e 1 → ac e ≤ 4 * asz e) := fun h => ac_le h;clear h;go_enter Tryz.func27, Tryz.ntmps27;go_upto_region 2 with fail
 obtain ⟨W1, hW1⟩ : ∃ W1, W1 = (w.alloc (.cells e.d.ar 52)).alloc (.cells #[.int .i64 480] 3) := ⟨_, rfl⟩;have HX : Hd (Box W1 w.heap.size e.d.cl) := (show Box _ _ _ by rw [hW1]; exact (Box.new w e.d.ar 52 _).below (bl_a _));have HC : Hd (Ctr W1 (w.heap.size + 1) 480) := (show Ctr _ _ _ by rw [hW1]; exact ⟨by simp, by simp [go_sem], by simp [go_sem]⟩);have HB : Hd (Bl w W1) := (show Below _ _ _ by rw [hW1]; exact bl_alloc (bl_a _) _);rw [← hW1];clear hW1;have A2 := A1 W1 (w.heap.size + 1) HB.o (Nat.le_succ _) HC.o;have lr : W1.rangeAt w.heap.size 0 e.d.cl := HX.o.range 0 _ rfl;clear A1;go_wp2_with (refine ldn Tryz.underlying52 lr ?_)
 refine A2.mono ?_;rintro r w2 ⟨q, L', rfl, hq, _, hc2, hp2⟩;have HB2 : Hd (Bl w w2) := HB.o.trans (hp2.below (Nat.le_succ _) HB.o.size);have HX2 : Hd (Box w2 w.heap.size e.d.cl) := HX.o.past hp2 (by omega);clear A2 lr hc2 hp2;cases q
 · have HNO : Hd (¬ algOk e) := fun hh => by
    have h1 := hq.2 ⟨hh.1, by have := hh.2.1; omega⟩
    cases h1
   clear hq;go_wp2;go_ret;exact Tells.no HNO.o HB2.o
 obtain ⟨h1, h2⟩ := hq.1 rfl;have HOK : Hd (aOk e 1 ∧ asz e ≤ 480) := ⟨h1, by omega⟩
 have V := HV.o w2 HB2.o (by have h3 := HAC.o h1; omega);clear hq h1 h2;have x0 := HX2.o.2 0 _ rfl;have x1 := HX2.o.2 1 _ rfl;have x2 := HX2.o.2 2 _ rfl;have x3 := HX2.o.2 3 _ rfl;have x4 := HX2.o.2 4 _ rfl;have x5 := HX2.o.2 5 _ rfl;have x6 := HX2.o.2 6 _ rfl;have x7 := HX2.o.2 7 _ rfl;have x8 := HX2.o.2 8 _ rfl;have x9 := HX2.o.2 9 _ rfl;have x10 := HX2.o.2 10 _ rfl;have x11 := HX2.o.2 11 _ rfl;have x12 := HX2.o.2 12 _ rfl;go_wp2_with fail
 refine V.mono ?_;rintro r w3 ⟨v3, L3, rfl, hV3, hR3, hK3⟩;obtain ⟨a3, c3, rfl, _⟩ := hV3.form;have hb3 : Bl w2 w3 := hK3.low (fun g hg => by cases hg) nR;have HB3 : Hd (Bl w w3) := bl_trans HB2.o hb3;obtain ⟨n3, hn3⟩ : ∃ n3, n3 = L3.length := ⟨_, rfl⟩;have HE : Hd ((decide ((n3 : Int) ≤ 8)) = true ↔ algOk e) := by
  show (_ ↔ _);rw [decide_eq_true_iff];have h4 : (aV e []).length = n3 := by rw [← hR3, List.length_map, hn3]
  exact ⟨fun h => ⟨HOK.o.1, HOK.o.2, by omega⟩, fun h => by have := h.2.2; omega⟩
 rw [← hn3];clear V hV3 hR3 hK3 hb3 hn3 x0 x1 x2 x3 x4 x5 x6 x7 x8 x9 x10 x11 x12;go_wp2;go_ret;exact Tells.of HE.o HB3.o
theorem spares_any (g : Nat) (L n : Int) (w : World) (hc : Ctr w g L) (h0 : -100000 ≤ L) (h1 : L ≤ 100000) (h2 : 0 ≤ n) (h3 : n ≤ 1048576) :
 Calls Tryz.prog 142 #[.pointer (some ⟨g, 0, none⟩), .int .i64 n] w fun e w' => e = .returned (.bool (decide (0 ≤ L - n))) ∧ Ctr w' g (L - n) ∧ Past g w w' := by
 have HC : Hd (Ctr (w.setCell ⟨g, 0, none⟩ (.int .i64 (L - n))) g (L - n) ∧ Past g w (w.setCell ⟨g, 0, none⟩ (.int .i64 (L - n)))) := ⟨hc.set _, (Past.refl g w).set 0 _⟩;have c0 := hc.cell;have f0 := hc.fr;have c1 : (w.setCell ⟨g, 0, none⟩ (.int .i64 (L - n))).cell? ⟨g, 0, none⟩ = some (.int .i64 (L - n)) := (hc.set _).cell;have hwr : IntKind.i64.wrap (L - n) = L - n := by rw [IntKind.wrap_i64]; omega
 clear hc;go_in;go_wp2;go_ret;exact ⟨by simp, HC.o⟩
theorem isTooDeep_any (p q : Int) (w : World) : Calls Tryz.prog 148 #[.agg #[.int .i64 p, .int .i64 q]] w (Tells (q < p) w) := by
 go_in;go_wp2;go_ret;exact Tells.of (by simp) (bl_a _)
def AdAns (P : Prop) (g : Nat) (L : Int) (w : World) (e : Ending) (w' : World) : Prop := ∃ q : Bool, e = .returned (.bool q) ∧ (q = true ↔ P) ∧ Ctr w' g L ∧ Past g w w'
theorem admits_any (g : Nat) (L p q : Int) (w : World) (hc : Ctr w g L) (h0 : 0 ≤ L) (h1 : L ≤ 100000) :
 Calls Tryz.prog 124 #[.pointer (some ⟨g, 0, none⟩), .agg #[.int .i64 p, .int .i64 q]] w (AdAns (1 ≤ L ∧ p ≤ q) g (L - 1) w) := by
 have SP := fun o => spares_any g L 1 (w.alloc o) (hc.below (bl_a o)) (by omega) h1 (by omega) (by omega);have hg := hc.lt;clear hc;go_in;go_wp2_with fail
 refine (SP _).mono ?_;rintro e w1 ⟨rfl, hc1, hp1⟩;have HC1 := iH hc1;have HP1 := iH ((Past.of_below (bl_a _)).trans hp1);have x0 : w1.cell? ⟨w.heap.size, 0, none⟩ = some (.int .i64 p) := (hp1.cell (p := ⟨w.heap.size, 0, none⟩) (by simp) (by show w.heap.size ≠ g; omega)).trans (by simp [go_sem]);have x1 : w1.cell? ⟨w.heap.size, 1, none⟩ = some (.int .i64 q) := (hp1.cell (p := ⟨w.heap.size, 1, none⟩) (by simp) (by show w.heap.size ≠ g; omega)).trans (by simp [go_sem]);clear SP hc1 hp1;by_cases hL : 0 ≤ L - 1
 · have hLd : decide (0 ≤ L - 1) = true := by simp; omega
   have TD := isTooDeep_any p q w1;rw [hLd];go_wp2_with fail
   refine TD.mono ?_;rintro e w2 ⟨q2, rfl, hq2, hb2⟩;have HC2 := iH (HC1.o.below hb2);have HP2 := iH (HP1.o.trans (Past.of_below hb2));have HE : Hd ((!q2) = true ↔ (1 ≤ L ∧ p ≤ q)) := by
    show (_ ↔ _);cases q2 with
    | true => exact ⟨fun h => (by cases h), fun h => by have := hq2.1 rfl; omega⟩
    | false => exact ⟨fun _ => ⟨by omega, by
       apply Classical.byContradiction
       intro hn
       have := hq2.2 (by omega)
       cases this⟩, fun _ => rfl⟩
   clear TD hq2 hb2 x0 x1;go_wp2;go_ret;exact ⟨_, rfl, HE.o, HC2.o, HP2.o⟩
 have hLd : decide (0 ≤ L - 1) = false := by simp; omega
 rw [hLd];go_wp2;go_ret;exact ⟨false, rfl, ⟨fun h => (by cases h), fun h => absurd h.1 (by omega)⟩, HC1.o, HP1.o⟩
theorem placeBelow_any (p q : Int) (w : World) (h0 : 0 ≤ p) (h1 : p ≤ 100000) : Calls Tryz.prog 128 #[.agg #[.int .i64 p, .int .i64 q]] w fun e w' => e = .returned (.agg #[.int .i64 (p + 1), .int .i64 q]) ∧ Bl w w' := by
 go_in;go_wp2_with fail
 refine bodyPost_ret (v := .agg #[.int .i64 (p + 1), .int .i64 q]) (by simp [results, Tryz.results128, go_sem]) rfl ?_;exact ⟨rfl, bl_alloc (bl_a _) _⟩
theorem isZeroT_any (x : TB) (w : World) (h : BsF 0 w x.sl) :
 Calls Tryz.prog 180 #[.agg #[.int .i64 x.t.k, .slice x.t.a x.t.len x.t.cap, .int .i64 x.t.n, .int .i64 x.t.s]] w (Tells (zeroT x.td) w) := by
 have HL : Hd (x.b = [] ↔ x.t.len = 0) := nil_len h.1.1;clear h;by_cases h0 : x.t.k = 0;rotate_left
 · go_in
   go_wp2;go_ret;exact Tells.no (P := zeroT x.td) (fun hp => h0 hp.1) (bl_a _)
 by_cases h1 : x.t.len = 0;rotate_left
 · go_in
   go_wp2;go_ret;exact Tells.no (P := zeroT x.td) (fun hp => h1 (HL.o.1 hp.2.1)) (bl_a _)
 by_cases h2 : x.t.n = 0;rotate_left
 · go_in
   go_wp2;go_ret;exact Tells.no (P := zeroT x.td) (fun hp => h2 hp.2.2.1) (bl_a _)
 by_cases h3 : x.t.s = 0;rotate_left
 · have h3' : (x.t.s == 0) = false := by simp [h3]
   go_in;go_wp2;go_ret;exact Tells.no (P := zeroT x.td) (fun hp => h3 hp.2.2.2) (bl_a _)
 have HP : Hd (zeroT x.td) := ⟨h0, HL.o.2 h1, h2, h3⟩;go_in;go_wp2;go_ret;exact Tells.yes HP.o (bl_a _)
theorem isBare_any (d : EN) (w : World) (hv : BsF 0 w d.v) (ht : BsF 0 w d.t.sl) : Calls Tryz.prog 175 #[.agg d.ar] w (Tells (d.op = 0 ∧ d.v.b = [] ∧ zeroT d.t.td) w) := by
 try unfold EN.ar EN.cl
 have HL := iH (nil_len hv.1.1);have HZ := iH (fun W (hb : Bl w W) => isZeroT_any d.t W (ht.upper (uB hb)));obtain ⟨P, hP⟩ : ∃ P, P = (d.op = 0 ∧ d.v.b = [] ∧ zeroT d.t.td) := ⟨_, rfl⟩;have HP := iH (show (P ↔ _) by rw [hP]);rw [← hP];clear hv ht hP;by_cases h1 : d.op = 0;rotate_left
 · go_in
   go_wp2;go_ret;exact Tells.no (fun hp => h1 (HP.o.1 hp).1) (bl_a _)
 by_cases h2 : d.v.len = 0;rotate_left
 · go_in
   go_wp2;go_ret;exact Tells.no (fun hp => h2 (HL.o.1 (HP.o.1 hp).2.1)) (bl_a _)
 have H3 : Hd (d.op = 0 ∧ d.v.b = []) := ⟨h1, HL.o.2 h2⟩;have Z := HZ.o;go_in;go_wp2_with fail
 refine (Z _ (bl_a _)).mono ?_;rintro e w1 ⟨q1, rfl, hq1, hb1⟩;have HQ := iH (show (q1 = true ↔ P) from hq1.trans ⟨fun h => HP.o.2 ⟨H3.o.1, H3.o.2, h⟩, fun h => (HP.o.1 h).2.2⟩);have HB := iH (bl_trans (bl_a _) hb1);clear Z hq1 hb1;go_wp2;go_ret;exact Tells.of HQ.o HB.o
theorem isZeroE_any (e : ET) (w : World) (h : e.lies 0 w) : Calls Tryz.prog 173 #[.agg #[.int .i64 e.d.k, .int .i64 e.d.op, .slice e.d.v.a e.d.v.len e.d.v.cap, .int .i64 e.d.t.t.k, .slice e.d.t.t.a e.d.t.t.len e.d.t.t.cap, .int .i64 e.d.t.t.n, .int .i64 e.d.t.t.s, .slice e.d.ka e.d.n e.d.kc]] w (Tells (zeroE e) w) := by
 cases e with
 | nil => exact False.elim h
 | mk d kid =>
 obtain ⟨hv, ht, _⟩ := h;show Calls Tryz.prog 173 #[.agg #[.int .i64 d.k, .int .i64 d.op, .slice d.v.a d.v.len d.v.cap, .int .i64 d.t.t.k, .slice d.t.t.a d.t.t.len d.t.t.cap, .int .i64 d.t.t.n, .int .i64 d.t.t.s, .slice d.ka d.n d.kc]] w (Tells (zeroE (.mk d kid)) w);have HZ : Hd (∀ W, Below w.heap.size w W → Calls Tryz.prog 175 #[.agg #[.int .i64 d.k, .int .i64 d.op, .slice d.v.a d.v.len d.v.cap, .int .i64 d.t.t.k, .slice d.t.t.a d.t.t.len d.t.t.cap, .int .i64 d.t.t.n, .int .i64 d.t.t.s, .slice d.ka d.n d.kc]] W (Tells (d.op = 0 ∧ d.v.b = [] ∧ zeroT d.t.td) W)) := fun W hb => isBare_any d W (hv.upper (Upper.of_below hb)) (ht.upper (Upper.of_below hb));obtain ⟨P, hP⟩ : ∃ P, P = zeroE (.mk d kid) := ⟨_, rfl⟩;have HP : Hd (P ↔ (d.k = 0 ∧ d.op = 0 ∧ d.v.b = [] ∧ zeroT d.t.td ∧ d.n = 0)) := (show (P ↔ _) by rw [hP]; exact Iff.rfl);rw [← hP];clear hv ht hP;by_cases h0 : d.k = 0;rotate_left
 · go_in
   go_wp2;go_ret;exact Tells.no (fun hp => h0 (HP.o.1 hp).1) (bl_a _)
 by_cases h5 : d.n = 0;rotate_left
 · go_in
   go_wp2;go_ret;exact Tells.no (fun hp => h5 (HP.o.1 hp).2.2.2.2) (bl_a _)
 have H3 : Hd (d.k = 0 ∧ d.n = 0) := ⟨h0, h5⟩;have Z := HZ.o;rw [h0, h5] at Z ⊢;clear HZ h0 h5;go_in;go_wp2_with fail
 refine (Z _ (bl_a _)).mono ?_;rintro e w1 ⟨q1, rfl, hq1, hb1⟩;have HQ := iH (show (q1 = true ↔ P) from hq1.trans ⟨fun h => HP.o.2 ⟨H3.o.1, h.1, h.2.1, h.2.2, H3.o.2⟩, fun h => ⟨(HP.o.1 h).2.1, (HP.o.1 h).2.2.1, (HP.o.1 h).2.2.2.1⟩⟩);have HB := iH (bl_trans (bl_a _) hb1);clear Z hq1 hb1;go_wp2;go_ret;exact Tells.of HQ.o HB.o
def kLo (k : Int) : Int := if k = 2 then 2 else if k = 3 ∨ k = 7 then 1 else if k = 5 then 3 else if k = 6 then 1 else 0
def kHi (k : Int) : Int := if k = 2 then 2 else if k = 3 ∨ k = 7 then 1 else if k = 5 then 3 else if k = 6 then 4 else 0
theorem kidCount_any (k : Int) (w : World) : Calls Tryz.prog 174 #[.int .i64 k] w fun e w' => e = .returned (.tuple #[.int .i64 (kLo k), .int .i64 (kHi k)]) ∧ w' = w := by
 go_in;go_wp2;all_goals go_ret2
 all_goals refine ⟨?_, rfl⟩
 all_goals (unfold kLo kHi; simp_all <;> omega)
def BareN (d : EN) : Prop := d.op = 0 ∧ d.v.b = [] ∧ zeroT d.t.td
theorem BareN.mk {d : EN} (h1 : d.op = 0) (h2 : d.v.b = []) (h3 : zeroT d.t.td) : BareN d := And.intro h1 (And.intro h2 h3)
theorem wpl_at (h : wpList P ops Q (op :: rest) a w) : wpList P ops Q (op :: rest) a w := h
theorem zeroT0 : zeroT (TB.td ⟨⟨0, none, 0, 0, 0, 0⟩, []⟩) := by unfold zeroT; exact ⟨rfl, rfl, rfl, rfl⟩
theorem hasOwnE_0 (d : EN) (w : World) (hkv : d.k = 0) (hv : BsF 0 w d.v) (ht : BsF 0 w d.t.sl) (_hf : d.t.t.fits) (hn : d.n ≤ 1048576) : Calls Tryz.prog 155 #[.agg d.ar] w (Tells (nodeOk d) w) := by
 try unfold EN.ar EN.cl
 have KC := fun W => kidCount_any 0 W;have e1 : kLo 0 = 0 := by decide
 have e2 : kHi 0 = 0 := by decide
 rw [e1, e2] at KC;clear e1 e2;have WI := fun W => within_any (d.n : Int) 0 0 W;have HIB : Hd (∀ W, Bl w W → Cl 175 #[.agg #[.int .i64 0, .int .i64 d.op, .slice none 0 0, .int .i64 d.t.t.k, .slice d.t.t.a d.t.t.len d.t.t.cap, .int .i64 d.t.t.n, .int .i64 d.t.t.s, .slice d.ka d.n d.kc]] W (Tells (BareN ⟨0, d.op, ⟨none, 0, 0, []⟩, d.t, d.ka, d.kc, d.n⟩) W)) := fun W hb => isBare_any _ W (bs_nil W) (ht.upper (uB hb));have HKO : Hd (kOk d.k d.n ↔ ((0 : Int) ≤ (d.n : Int) ∧ (d.n : Int) ≤ 0)) := (show (_ ↔ _) by rw [hkv]; unfold kOk; omega);have HKV := iH hkv;have HIN := iH (fun W (hb : Bl w W) => isName_any d.v.a d.v.len d.v.cap d.v.b W (hv.upper (uB hb)).1);rw [hkv];clear hv ht hkv;go_in;go_wp2_with fail
 refine (KC _).mono ?_;rintro e w1 ⟨rfl, rfl⟩;clear KC;go_wp2_with fail
 refine (WI _).mono ?_;rintro e w1 ⟨rfl, rfl⟩;clear WI;by_cases hkn : (0 : Int) ≤ (d.n : Int) ∧ (d.n : Int) ≤ 0;rotate_left
 · have hw2 : (decide ((0 : Int) ≤ (d.n : Int)) && decide ((d.n : Int) ≤ 0)) = false := by simp; omega
   have HNO : Hd (¬ nodeOk d) := fun hh => hkn (HKO.o.1 hh.1);rw [hw2];clear hkn hw2;go_wp2;go_ret;exact Tells.no HNO.o (bl_a _)
 have hw2 : (decide ((0 : Int) ≤ (d.n : Int)) && decide ((d.n : Int) ≤ 0)) = true := by simp; omega
 have HK := iH (HKO.o.2 hkn);rw [hw2];clear hkn hw2 HKO;have IN := HIN.o;cases hnm : nameOk d.v.b with
 | false =>
  rw [hnm] at IN;have HNO : Hd (¬ nodeOk d) := fun hh => by have h := hh.2.1 (by rw [HKV.o]; simp); rw [hnm] at h; cases h
  clear hnm;go_wp2_with fail
  refine (IN _ (bl_alloc (bl_a _) _)).mono ?_;rintro e w3 ⟨rfl, rfl⟩;clear IN;go_wp2;go_ret;exact Tells.no HNO.o (bl_alloc (bl_a _) _)
 | true =>
  rw [hnm] at IN;have HNM := iH hnm;clear hnm;go_wp2_with fail
  refine (IN _ (bl_alloc (bl_a _) _)).mono ?_;rintro e w3 ⟨rfl, rfl⟩;clear IN;go_wp2_with fail
  refine (HIB.o _ (bl_alloc (bl_a _) _)).mono ?_;rintro e w9 ⟨q9, rfl, hq9, hb9⟩;have HE := iH (show (q9 = true ↔ nodeOk d) from hq9.trans ⟨fun h => ⟨HK.o, fun _ => HNM.o, fun h2 => absurd (by rw [HKV.o]; simp) h2, fun h2 => absurd h2 (by rw [HKV.o]; decide), fun _ => h.2.2, ⟨by rw [h.1]; decide, by rw [h.1]; decide⟩, fun _ => h.1⟩, fun h => BareN.mk (h.2.2.2.2.2.2 (by rw [HKV.o]; decide)) rfl (h.2.2.2.2.1 (by rw [HKV.o]; decide))⟩);have HB9 := iH (bl_trans (bl_alloc (bl_a _) _) hb9);clear hq9 hb9;go_wp2;go_ret;exact Tells.of HE.o HB9.o
theorem hasOwnE_1 (d : EN) (w : World) (hkv : d.k = 1) (hv : BsF 0 w d.v) (ht : BsF 0 w d.t.sl) (hf : d.t.t.fits) (hn : d.n ≤ 1048576) : Calls Tryz.prog 155 #[.agg d.ar] w (Tells (nodeOk d) w) := by
 try unfold EN.ar EN.cl
 have KC := fun W => kidCount_any 1 W;have e1 : kLo 1 = 0 := by decide
 have e2 : kHi 1 = 0 := by decide
 rw [e1, e2] at KC;clear e1 e2;have WI := fun W => within_any (d.n : Int) 0 0 W;have HIB : Hd (∀ W, Bl w W → Cl 175 #[.agg #[.int .i64 1, .int .i64 d.op, .slice d.v.a d.v.len d.v.cap, .int .i64 0, .slice none 0 0, .int .i64 0, .int .i64 0, .slice d.ka d.n d.kc]] W (Tells (BareN ⟨1, d.op, d.v, ⟨⟨0, none, 0, 0, 0, 0⟩, []⟩, d.ka, d.kc, d.n⟩) W)) := fun W hb => isBare_any _ W (hv.upper (uB hb)) (bs_nil W);have HKO : Hd (kOk d.k d.n ↔ ((0 : Int) ≤ (d.n : Int) ∧ (d.n : Int) ≤ 0)) := (show (_ ↔ _) by rw [hkv]; unfold kOk; omega);have HKV := iH hkv;have HTO := iH (fun W (hb : Bl w W) => implTermOk_any d.t.t.k d.t.t.n d.t.t.s d.t.t.a d.t.t.len d.t.t.cap d.t.b W (ht.upper (uB hb)).1 hf.1 hf.2.1 hf.2.2.1 hf.2.2.2);rw [hkv];clear hv ht hf hkv;go_in;go_wp2_with fail
 refine (KC _).mono ?_;rintro e w1 ⟨rfl, rfl⟩;clear KC;go_wp2_with fail
 refine (WI _).mono ?_;rintro e w1 ⟨rfl, rfl⟩;clear WI;by_cases hkn : (0 : Int) ≤ (d.n : Int) ∧ (d.n : Int) ≤ 0;rotate_left
 · have hw2 : (decide ((0 : Int) ≤ (d.n : Int)) && decide ((d.n : Int) ≤ 0)) = false := by simp; omega
   have HNO : Hd (¬ nodeOk d) := fun hh => hkn (HKO.o.1 hh.1);rw [hw2];clear hkn hw2;go_wp2;go_ret;exact Tells.no HNO.o (bl_a _)
 have hw2 : (decide ((0 : Int) ≤ (d.n : Int)) && decide ((d.n : Int) ≤ 0)) = true := by simp; omega
 have HK := iH (HKO.o.2 hkn);rw [hw2];clear hkn hw2 HKO;have TO := HTO.o;cases hnm : termOk d.t.t.k d.t.b d.t.t.n d.t.t.s with
 | false =>
  rw [hnm] at TO;have HNO : Hd (¬ nodeOk d) := fun hh => by have h := hh.2.2.2.1 HKV.o; have h2 : termOk d.t.t.k d.t.b d.t.t.n d.t.t.s = true := h; rw [hnm] at h2; cases h2
  clear hnm;go_wp2_with fail
  refine (TO _ (bl_alloc (bl_a _) _)).mono ?_;rintro e w3 ⟨rfl, hb3⟩;have HB3 := iH (bl_trans (bl_alloc (bl_a _) _) hb3);have r3 := show OB _ _ _ by have h := (OB.new _ _ 42).below hb3; simpa using h
  have HBf : Hd (Bl w (w3.setCells (w.heap.size + 1) 3 [.int .i64 0, .slice none 0 0, .int .i64 0, .int .i64 0])) := below_sets _ (Nat.le_succ _) _ _ _ HB3.o;have st0 := r3.there 3 4 (by simp);have one1 := all_oneCell_toArray (cs := [.int .i64 0, .slice none 0 0, .int .i64 0, .int .i64 0]) (by simp [Value.oneCell']);clear TO hb3 r3;go_upto_region 18 with (with_reducible refine wpl_at ?_; refine wpList_store_mid rfl 35 _ _ rfl _ _ _ rfl rfl st0 (by kernel_rfl) one1 ?_; try simp only [Act.put])
  generalize w3.setCells _ _ _ = W4 at *;clear st0 one1;go_wp2;go_ret;exact Tells.no HNO.o HBf.o
 | true =>
  rw [hnm] at TO;have HNM : Hd (d.t.td.ok = true) := hnm;clear hnm;go_wp2_with fail
  refine (TO _ (bl_alloc (bl_a _) _)).mono ?_;rintro e w3 ⟨rfl, hb3⟩;have HB3 := iH (bl_trans (bl_alloc (bl_a _) _) hb3);have r3 := show OB _ _ _ by have h := (OB.new _ _ 42).below hb3; simpa using h
  have HBf : Hd (Bl w (w3.setCells (w.heap.size + 1) 3 [.int .i64 0, .slice none 0 0, .int .i64 0, .int .i64 0])) := below_sets _ (Nat.le_succ _) _ _ _ HB3.o;have HR4 : Hd (Box (w3.setCells (w.heap.size + 1) 3 [.int .i64 0, .slice none 0 0, .int .i64 0, .int .i64 0]) (w.heap.size + 1) [.int .i64 1, .int .i64 d.op, .slice d.v.a d.v.len d.v.cap, .int .i64 0, .slice none 0 0, .int .i64 0, .int .i64 0, .slice d.ka d.n d.kc]) := (r3.sets _ 3).box;have st0 := r3.there 3 4 (by simp);have one1 := all_oneCell_toArray (cs := [.int .i64 0, .slice none 0 0, .int .i64 0, .int .i64 0]) (by simp [Value.oneCell']);clear TO hb3 r3;go_upto_region 18 with (with_reducible refine wpl_at ?_; refine wpList_store_mid rfl 35 _ _ rfl _ _ _ rfl rfl st0 (by kernel_rfl) one1 ?_; try simp only [Act.put])
  generalize w3.setCells _ _ _ = W4 at *;clear st0 one1;have s0 := HR4.o.2 0 _ rfl;have s1 := HR4.o.2 1 _ rfl;have s2 := HR4.o.2 2 _ rfl;have s3 := HR4.o.2 3 _ rfl;have s4 := HR4.o.2 4 _ rfl;have s5 := HR4.o.2 5 _ rfl;have s6 := HR4.o.2 6 _ rfl;have s7 := HR4.o.2 7 _ rfl;go_wp2_with fail
  refine (HIB.o _ HBf.o).mono ?_;rintro e w9 ⟨q9, rfl, hq9, hb9⟩;have HE := iH (show (q9 = true ↔ nodeOk d) from hq9.trans ⟨fun h => ⟨HK.o, fun h2 => absurd h2 (by rw [HKV.o]; decide), fun _ => h.2.1, fun _ => HNM.o, fun h2 => absurd HKV.o h2, ⟨by rw [h.1]; decide, by rw [h.1]; decide⟩, fun _ => h.1⟩, fun h => BareN.mk (h.2.2.2.2.2.2 (by rw [HKV.o]; decide)) (h.2.2.1 (by rw [HKV.o]; decide)) zeroT0⟩);have HB9 := iH (bl_trans HBf.o hb9);clear hq9 hb9;go_wp2;go_ret;exact Tells.of HE.o HB9.o
theorem hasOwnE_2 (d : EN) (w : World) (hkv : d.k = 2) (hv : BsF 0 w d.v) (ht : BsF 0 w d.t.sl) (_hf : d.t.t.fits) (hn : d.n ≤ 1048576) : Calls Tryz.prog 155 #[.agg d.ar] w (Tells (nodeOk d) w) := by
 try unfold EN.ar EN.cl
 have KC := fun W => kidCount_any 2 W;have e1 : kLo 2 = 2 := by decide
 have e2 : kHi 2 = 2 := by decide
 rw [e1, e2] at KC;clear e1 e2;have WI := fun W => within_any (d.n : Int) 2 2 W;have HIB : Hd (∀ W, Bl w W → Cl 175 #[.agg (eA 2 0 d.v d.t (.slice d.ka d.n d.kc))] W (Tells (BareN ⟨2, 0, d.v, d.t, d.ka, d.kc, d.n⟩) W)) := fun W hb => isBare_any _ W (hv.upper (uB hb)) (ht.upper (uB hb));have HKO : Hd (kOk d.k d.n ↔ ((2 : Int) ≤ (d.n : Int) ∧ (d.n : Int) ≤ 2)) := (show (_ ↔ _) by rw [hkv]; unfold kOk; omega);have HKV := iH hkv;have WO := fun W => within_any d.op 0 7 W;rw [hkv];clear hv ht hkv;go_in;go_wp2_with fail
 refine (KC _).mono ?_;rintro e w1 ⟨rfl, rfl⟩;clear KC;go_wp2_with fail
 refine (WI _).mono ?_;rintro e w1 ⟨rfl, rfl⟩;clear WI;by_cases hkn : (2 : Int) ≤ (d.n : Int) ∧ (d.n : Int) ≤ 2;rotate_left
 · have hw2 : (decide ((2 : Int) ≤ (d.n : Int)) && decide ((d.n : Int) ≤ 2)) = false := by simp; omega
   have HNO : Hd (¬ nodeOk d) := fun hh => hkn (HKO.o.1 hh.1);rw [hw2];clear hkn hw2;go_wp2;go_ret;exact Tells.no HNO.o (bl_a _)
 have hw2 : (decide ((2 : Int) ≤ (d.n : Int)) && decide ((d.n : Int) ≤ 2)) = true := by simp; omega
 have HK := iH (HKO.o.2 hkn);rw [hw2];clear hkn hw2 HKO;by_cases ho : 0 ≤ d.op ∧ d.op ≤ 7;rotate_left
 · have hw3 : (decide (0 ≤ d.op) && decide (d.op ≤ 7)) = false := by simp; omega
   have HNO : Hd (¬ nodeOk d) := fun hh => ho hh.2.2.2.2.2.1;rw [hw3] at WO;clear ho hw3;go_wp2_with fail
   refine (WO _).mono ?_;rintro e w3 ⟨rfl, rfl⟩;clear WO;go_wp2;go_ret;exact Tells.no HNO.o (bl_alloc (bl_a _) _)
 have hw3 : (decide (0 ≤ d.op) && decide (d.op ≤ 7)) = true := by simp; omega
 have HO := iH ho;rw [hw3] at WO;clear ho hw3;go_wp2_with fail
 refine (WO _).mono ?_;rintro e w3 ⟨rfl, rfl⟩;clear WO;go_wp2_with fail
 refine (HIB.o _ (bl_alloc (bl_a _) _)).mono ?_;rintro e w9 ⟨q9, rfl, hq9, hb9⟩;have HE := iH (show (q9 = true ↔ nodeOk d) from hq9.trans ⟨fun h => ⟨HK.o, fun h2 => absurd h2 (by rw [HKV.o]; decide), fun _ => h.2.1, fun h2 => absurd h2 (by rw [HKV.o]; decide), fun _ => h.2.2, HO.o, fun h2 => absurd HKV.o h2⟩, fun h => BareN.mk rfl (h.2.2.1 (by rw [HKV.o]; decide)) (h.2.2.2.2.1 (by rw [HKV.o]; decide))⟩);have HB9 := iH (bl_trans (bl_alloc (bl_a _) _) hb9);clear hq9 hb9;go_wp2;go_ret;exact Tells.of HE.o HB9.o
theorem hasOwnE_3 (d : EN) (w : World) (hkv : d.k = 3) (hv : BsF 0 w d.v) (ht : BsF 0 w d.t.sl) (_hf : d.t.t.fits) (hn : d.n ≤ 1048576) : Calls Tryz.prog 155 #[.agg d.ar] w (Tells (nodeOk d) w) := by
 try unfold EN.ar EN.cl
 have KC := fun W => kidCount_any 3 W;have e1 : kLo 3 = 1 := by decide
 have e2 : kHi 3 = 1 := by decide
 rw [e1, e2] at KC;clear e1 e2;have WI := fun W => within_any (d.n : Int) 1 1 W;have HIB : Hd (∀ W, Bl w W → Cl 175 #[.agg (d.ca 3)] W (Tells (BareN ⟨3, d.op, d.v, d.t, d.ka, d.kc, d.n⟩) W)) := fun W hb => isBare_any _ W (hv.upper (uB hb)) (ht.upper (uB hb));have HKO : Hd (kOk d.k d.n ↔ ((1 : Int) ≤ (d.n : Int) ∧ (d.n : Int) ≤ 1)) := (show (_ ↔ _) by rw [hkv]; unfold kOk; omega);have HKV := iH hkv;rw [hkv];clear hv ht hkv;go_in;go_wp2_with fail
 refine (KC _).mono ?_;rintro e w1 ⟨rfl, rfl⟩;clear KC;go_wp2_with fail
 refine (WI _).mono ?_;rintro e w1 ⟨rfl, rfl⟩;clear WI;by_cases hkn : (1 : Int) ≤ (d.n : Int) ∧ (d.n : Int) ≤ 1;rotate_left
 · have hw2 : (decide ((1 : Int) ≤ (d.n : Int)) && decide ((d.n : Int) ≤ 1)) = false := by simp; omega
   have HNO : Hd (¬ nodeOk d) := fun hh => hkn (HKO.o.1 hh.1);rw [hw2];clear hkn hw2;go_wp2;go_ret;exact Tells.no HNO.o (bl_a _)
 have hw2 : (decide ((1 : Int) ≤ (d.n : Int)) && decide ((d.n : Int) ≤ 1)) = true := by simp; omega
 have HK := iH (HKO.o.2 hkn);rw [hw2];clear hkn hw2 HKO;go_wp2_with fail
 refine (HIB.o _ (bl_alloc (bl_a _) _)).mono ?_;rintro e w9 ⟨q9, rfl, hq9, hb9⟩;have HE := iH (show (q9 = true ↔ nodeOk d) from hq9.trans ⟨fun h => ⟨HK.o, fun h2 => absurd h2 (by rw [HKV.o]; decide), fun _ => h.2.1, fun h2 => absurd h2 (by rw [HKV.o]; decide), fun _ => h.2.2, ⟨by rw [h.1]; decide, by rw [h.1]; decide⟩, fun _ => h.1⟩, fun h => BareN.mk (h.2.2.2.2.2.2 (by rw [HKV.o]; decide)) (h.2.2.1 (by rw [HKV.o]; decide)) (h.2.2.2.2.1 (by rw [HKV.o]; decide))⟩);have HB9 := iH (bl_trans (bl_alloc (bl_a _) _) hb9);clear hq9 hb9;go_wp2;go_ret;exact Tells.of HE.o HB9.o
theorem hasOwnE_4 (d : EN) (w : World) (hkv : d.k = 4) (hv : BsF 0 w d.v) (ht : BsF 0 w d.t.sl) (_hf : d.t.t.fits) (hn : d.n ≤ 1048576) : Calls Tryz.prog 155 #[.agg d.ar] w (Tells (nodeOk d) w) := by
 try unfold EN.ar EN.cl
 have KC := fun W => kidCount_any 4 W;have e1 : kLo 4 = 0 := by decide
 have e2 : kHi 4 = 0 := by decide
 rw [e1, e2] at KC;clear e1 e2;have WI := fun W => within_any (d.n : Int) 0 0 W;have HIB : Hd (∀ W, Bl w W → Cl 175 #[.agg #[.int .i64 4, .int .i64 d.op, .slice none 0 0, .int .i64 d.t.t.k, .slice d.t.t.a d.t.t.len d.t.t.cap, .int .i64 d.t.t.n, .int .i64 d.t.t.s, .slice d.ka d.n d.kc]] W (Tells (BareN ⟨4, d.op, ⟨none, 0, 0, []⟩, d.t, d.ka, d.kc, d.n⟩) W)) := fun W hb => isBare_any _ W (bs_nil W) (ht.upper (uB hb));have HKO : Hd (kOk d.k d.n ↔ ((0 : Int) ≤ (d.n : Int) ∧ (d.n : Int) ≤ 0)) := (show (_ ↔ _) by rw [hkv]; unfold kOk; omega);have HKV := iH hkv;have HIN := iH (fun W (hb : Bl w W) => isName_any d.v.a d.v.len d.v.cap d.v.b W (hv.upper (uB hb)).1);rw [hkv];clear hv ht hkv;go_in;go_wp2_with fail
 refine (KC _).mono ?_;rintro e w1 ⟨rfl, rfl⟩;clear KC;go_wp2_with fail
 refine (WI _).mono ?_;rintro e w1 ⟨rfl, rfl⟩;clear WI;by_cases hkn : (0 : Int) ≤ (d.n : Int) ∧ (d.n : Int) ≤ 0;rotate_left
 · have hw2 : (decide ((0 : Int) ≤ (d.n : Int)) && decide ((d.n : Int) ≤ 0)) = false := by simp; omega
   have HNO : Hd (¬ nodeOk d) := fun hh => hkn (HKO.o.1 hh.1);rw [hw2];clear hkn hw2;go_wp2;go_ret;exact Tells.no HNO.o (bl_a _)
 have hw2 : (decide ((0 : Int) ≤ (d.n : Int)) && decide ((d.n : Int) ≤ 0)) = true := by simp; omega
 have HK := iH (HKO.o.2 hkn);rw [hw2];clear hkn hw2 HKO;have IN := HIN.o;cases hnm : nameOk d.v.b with
 | false =>
  rw [hnm] at IN;have HNO : Hd (¬ nodeOk d) := fun hh => by have h := hh.2.1 (by rw [HKV.o]; simp); rw [hnm] at h; cases h
  clear hnm;go_wp2_with fail
  refine (IN _ (bl_alloc (bl_a _) _)).mono ?_;rintro e w3 ⟨rfl, rfl⟩;clear IN;go_wp2;go_ret;exact Tells.no HNO.o (bl_alloc (bl_a _) _)
 | true =>
  rw [hnm] at IN;have HNM := iH hnm;clear hnm;go_wp2_with fail
  refine (IN _ (bl_alloc (bl_a _) _)).mono ?_;rintro e w3 ⟨rfl, rfl⟩;clear IN;go_wp2_with fail
  refine (HIB.o _ (bl_alloc (bl_a _) _)).mono ?_;rintro e w9 ⟨q9, rfl, hq9, hb9⟩;have HE := iH (show (q9 = true ↔ nodeOk d) from hq9.trans ⟨fun h => ⟨HK.o, fun _ => HNM.o, fun h2 => absurd (by rw [HKV.o]; simp) h2, fun h2 => absurd h2 (by rw [HKV.o]; decide), fun _ => h.2.2, ⟨by rw [h.1]; decide, by rw [h.1]; decide⟩, fun _ => h.1⟩, fun h => BareN.mk (h.2.2.2.2.2.2 (by rw [HKV.o]; decide)) rfl (h.2.2.2.2.1 (by rw [HKV.o]; decide))⟩);have HB9 := iH (bl_trans (bl_alloc (bl_a _) _) hb9);clear hq9 hb9;go_wp2;go_ret;exact Tells.of HE.o HB9.o
theorem hasOwnE_5 (d : EN) (w : World) (hkv : d.k = 5) (hv : BsF 0 w d.v) (ht : BsF 0 w d.t.sl) (_hf : d.t.t.fits) (hn : d.n ≤ 1048576) : Calls Tryz.prog 155 #[.agg d.ar] w (Tells (nodeOk d) w) := by
 try unfold EN.ar EN.cl
 have KC := fun W => kidCount_any 5 W;have e1 : kLo 5 = 3 := by decide
 have e2 : kHi 5 = 3 := by decide
 rw [e1, e2] at KC;clear e1 e2;have WI := fun W => within_any (d.n : Int) 3 3 W;have HIB : Hd (∀ W, Bl w W → Cl 175 #[.agg (d.ca 5)] W (Tells (BareN ⟨5, d.op, d.v, d.t, d.ka, d.kc, d.n⟩) W)) := fun W hb => isBare_any _ W (hv.upper (uB hb)) (ht.upper (uB hb));have HKO : Hd (kOk d.k d.n ↔ ((3 : Int) ≤ (d.n : Int) ∧ (d.n : Int) ≤ 3)) := (show (_ ↔ _) by rw [hkv]; unfold kOk; omega);have HKV := iH hkv;rw [hkv];clear hv ht hkv;go_in;go_wp2_with fail
 refine (KC _).mono ?_;rintro e w1 ⟨rfl, rfl⟩;clear KC;go_wp2_with fail
 refine (WI _).mono ?_;rintro e w1 ⟨rfl, rfl⟩;clear WI;by_cases hkn : (3 : Int) ≤ (d.n : Int) ∧ (d.n : Int) ≤ 3;rotate_left
 · have hw2 : (decide ((3 : Int) ≤ (d.n : Int)) && decide ((d.n : Int) ≤ 3)) = false := by simp; omega
   have HNO : Hd (¬ nodeOk d) := fun hh => hkn (HKO.o.1 hh.1);rw [hw2];clear hkn hw2;go_wp2;go_ret;exact Tells.no HNO.o (bl_a _)
 have hw2 : (decide ((3 : Int) ≤ (d.n : Int)) && decide ((d.n : Int) ≤ 3)) = true := by simp; omega
 have HK := iH (HKO.o.2 hkn);rw [hw2];clear hkn hw2 HKO;go_wp2_with fail
 refine (HIB.o _ (bl_alloc (bl_a _) _)).mono ?_;rintro e w9 ⟨q9, rfl, hq9, hb9⟩;have HE := iH (show (q9 = true ↔ nodeOk d) from hq9.trans ⟨fun h => ⟨HK.o, fun h2 => absurd h2 (by rw [HKV.o]; decide), fun _ => h.2.1, fun h2 => absurd h2 (by rw [HKV.o]; decide), fun _ => h.2.2, ⟨by rw [h.1]; decide, by rw [h.1]; decide⟩, fun _ => h.1⟩, fun h => BareN.mk (h.2.2.2.2.2.2 (by rw [HKV.o]; decide)) (h.2.2.1 (by rw [HKV.o]; decide)) (h.2.2.2.2.1 (by rw [HKV.o]; decide))⟩);have HB9 := iH (bl_trans (bl_alloc (bl_a _) _) hb9);clear hq9 hb9;go_wp2;go_ret;exact Tells.of HE.o HB9.o
theorem hasOwnE_6 (d : EN) (w : World) (hkv : d.k = 6) (hv : BsF 0 w d.v) (ht : BsF 0 w d.t.sl) (_hf : d.t.t.fits) (hn : d.n ≤ 1048576) : Calls Tryz.prog 155 #[.agg d.ar] w (Tells (nodeOk d) w) := by
 try unfold EN.ar EN.cl
 have KC := fun W => kidCount_any 6 W;have e1 : kLo 6 = 1 := by decide
 have e2 : kHi 6 = 4 := by decide
 rw [e1, e2] at KC;clear e1 e2;have WI := fun W => within_any (d.n : Int) 1 4 W;have HIB : Hd (∀ W, Bl w W → Cl 175 #[.agg (d.ca 6)] W (Tells (BareN ⟨6, d.op, d.v, d.t, d.ka, d.kc, d.n⟩) W)) := fun W hb => isBare_any _ W (hv.upper (uB hb)) (ht.upper (uB hb));have HKO : Hd (kOk d.k d.n ↔ ((1 : Int) ≤ (d.n : Int) ∧ (d.n : Int) ≤ 4)) := (show (_ ↔ _) by rw [hkv]; unfold kOk; omega);have HKV := iH hkv;rw [hkv];clear hv ht hkv;go_in;go_wp2_with fail
 refine (KC _).mono ?_;rintro e w1 ⟨rfl, rfl⟩;clear KC;go_wp2_with fail
 refine (WI _).mono ?_;rintro e w1 ⟨rfl, rfl⟩;clear WI;by_cases hkn : (1 : Int) ≤ (d.n : Int) ∧ (d.n : Int) ≤ 4;rotate_left
 · have hw2 : (decide ((1 : Int) ≤ (d.n : Int)) && decide ((d.n : Int) ≤ 4)) = false := by simp; omega
   have HNO : Hd (¬ nodeOk d) := fun hh => hkn (HKO.o.1 hh.1);rw [hw2];clear hkn hw2;go_wp2;go_ret;exact Tells.no HNO.o (bl_a _)
 have hw2 : (decide ((1 : Int) ≤ (d.n : Int)) && decide ((d.n : Int) ≤ 4)) = true := by simp; omega
 have HK := iH (HKO.o.2 hkn);rw [hw2];clear hkn hw2 HKO;go_wp2_with fail
 refine (HIB.o _ (bl_alloc (bl_a _) _)).mono ?_;rintro e w9 ⟨q9, rfl, hq9, hb9⟩;have HE := iH (show (q9 = true ↔ nodeOk d) from hq9.trans ⟨fun h => ⟨HK.o, fun h2 => absurd h2 (by rw [HKV.o]; decide), fun _ => h.2.1, fun h2 => absurd h2 (by rw [HKV.o]; decide), fun _ => h.2.2, ⟨by rw [h.1]; decide, by rw [h.1]; decide⟩, fun _ => h.1⟩, fun h => BareN.mk (h.2.2.2.2.2.2 (by rw [HKV.o]; decide)) (h.2.2.1 (by rw [HKV.o]; decide)) (h.2.2.2.2.1 (by rw [HKV.o]; decide))⟩);have HB9 := iH (bl_trans (bl_alloc (bl_a _) _) hb9);clear hq9 hb9;go_wp2;go_ret;exact Tells.of HE.o HB9.o
theorem hasOwnE_7 (d : EN) (w : World) (hkv : d.k = 7) (hv : BsF 0 w d.v) (ht : BsF 0 w d.t.sl) (_hf : d.t.t.fits) (hn : d.n ≤ 1048576) : Calls Tryz.prog 155 #[.agg d.ar] w (Tells (nodeOk d) w) := by
 try unfold EN.ar EN.cl
 have KC := fun W => kidCount_any 7 W;have e1 : kLo 7 = 1 := by decide
 have e2 : kHi 7 = 1 := by decide
 rw [e1, e2] at KC;clear e1 e2;have WI := fun W => within_any (d.n : Int) 1 1 W;have HIB : Hd (∀ W, Bl w W → Cl 175 #[.agg (d.ca 7)] W (Tells (BareN ⟨7, d.op, d.v, d.t, d.ka, d.kc, d.n⟩) W)) := fun W hb => isBare_any _ W (hv.upper (uB hb)) (ht.upper (uB hb));have HKO : Hd (kOk d.k d.n ↔ ((1 : Int) ≤ (d.n : Int) ∧ (d.n : Int) ≤ 1)) := (show (_ ↔ _) by rw [hkv]; unfold kOk; omega);have HKV := iH hkv;rw [hkv];clear hv ht hkv;go_in;go_wp2_with fail
 refine (KC _).mono ?_;rintro e w1 ⟨rfl, rfl⟩;clear KC;go_wp2_with fail
 refine (WI _).mono ?_;rintro e w1 ⟨rfl, rfl⟩;clear WI;by_cases hkn : (1 : Int) ≤ (d.n : Int) ∧ (d.n : Int) ≤ 1;rotate_left
 · have hw2 : (decide ((1 : Int) ≤ (d.n : Int)) && decide ((d.n : Int) ≤ 1)) = false := by simp; omega
   have HNO : Hd (¬ nodeOk d) := fun hh => hkn (HKO.o.1 hh.1);rw [hw2];clear hkn hw2;go_wp2;go_ret;exact Tells.no HNO.o (bl_a _)
 have hw2 : (decide ((1 : Int) ≤ (d.n : Int)) && decide ((d.n : Int) ≤ 1)) = true := by simp; omega
 have HK := iH (HKO.o.2 hkn);rw [hw2];clear hkn hw2 HKO;go_wp2_with fail
 refine (HIB.o _ (bl_alloc (bl_a _) _)).mono ?_;rintro e w9 ⟨q9, rfl, hq9, hb9⟩;have HE := iH (show (q9 = true ↔ nodeOk d) from hq9.trans ⟨fun h => ⟨HK.o, fun h2 => absurd h2 (by rw [HKV.o]; decide), fun _ => h.2.1, fun h2 => absurd h2 (by rw [HKV.o]; decide), fun _ => h.2.2, ⟨by rw [h.1]; decide, by rw [h.1]; decide⟩, fun _ => h.1⟩, fun h => BareN.mk (h.2.2.2.2.2.2 (by rw [HKV.o]; decide)) (h.2.2.1 (by rw [HKV.o]; decide)) (h.2.2.2.2.1 (by rw [HKV.o]; decide))⟩);have HB9 := iH (bl_trans (bl_alloc (bl_a _) _) hb9);clear hq9 hb9;go_wp2;go_ret;exact Tells.of HE.o HB9.o
theorem hasOwnE_x (d : EN) (w : World) (n0 : d.k ≠ 0) (n1 : d.k ≠ 1) (n2 : d.k ≠ 2) (n3 : d.k ≠ 3) (n4 : d.k ≠ 4) (n5 : d.k ≠ 5) (n6 : d.k ≠ 6) (n7 : d.k ≠ 7) : Calls Tryz.prog 155 #[.agg d.ar] w (Tells (nodeOk d) w) := by
 have KC := fun W => kidCount_any d.k W;have WI := fun W => within_any (d.n : Int) (kLo d.k) (kHi d.k) W;have HNO : Hd (¬ nodeOk d) := fun hh => by have h := hh.1; unfold kOk at h; omega
 have m0 : (d.k == 0) = false := by simp [n0]
 have m1 : (d.k == 1) = false := by simp [n1]
 have m2 : (d.k == 2) = false := by simp [n2]
 have m3 : (d.k == 3) = false := by simp [n3]
 have m4 : (d.k == 4) = false := by simp [n4]
 have m5 : (d.k == 5) = false := by simp [n5]
 have m6 : (d.k == 6) = false := by simp [n6]
 have m7 : (d.k == 7) = false := by simp [n7]
 clear n0;clear n1;clear n2;clear n3;clear n4;clear n5;clear n6;clear n7;obtain ⟨lo, hlo⟩ : ∃ lo, lo = kLo d.k := ⟨_, rfl⟩;obtain ⟨hi, hhi⟩ : ∃ hi, hi = kHi d.k := ⟨_, rfl⟩;rw [← hlo, ← hhi] at KC WI;clear hlo hhi;obtain ⟨q, hq⟩ : ∃ q, q = (decide (lo ≤ (d.n : Int)) && decide ((d.n : Int) ≤ hi)) := ⟨_, rfl⟩;rw [← hq] at WI;clear hq;go_in;go_wp2_with fail
 refine (KC _).mono ?_;rintro e w1 ⟨rfl, rfl⟩;clear KC;go_wp2_with fail
 refine (WI _).mono ?_;rintro e w1 ⟨rfl, rfl⟩;clear WI;cases q
 · go_wp2
   go_ret;exact Tells.no HNO.o (bl_a _)
 go_wp2;go_ret;exact Tells.no HNO.o (bl_alloc (bl_a _) _)
theorem hasOwnE_any (d : EN) (w : World) (hv : BsF 0 w d.v) (ht : BsF 0 w d.t.sl) (hf : d.t.t.fits) (hn : d.n ≤ 1048576) : Calls Tryz.prog 155 #[.agg d.ar] w (Tells (nodeOk d) w) := by
 by_cases n0 : d.k = 0
 · exact hasOwnE_0 d w n0 hv ht hf hn
 by_cases n1 : d.k = 1
 · exact hasOwnE_1 d w n1 hv ht hf hn
 by_cases n2 : d.k = 2
 · exact hasOwnE_2 d w n2 hv ht hf hn
 by_cases n3 : d.k = 3
 · exact hasOwnE_3 d w n3 hv ht hf hn
 by_cases n4 : d.k = 4
 · exact hasOwnE_4 d w n4 hv ht hf hn
 by_cases n5 : d.k = 5
 · exact hasOwnE_5 d w n5 hv ht hf hn
 by_cases n6 : d.k = 6
 · exact hasOwnE_6 d w n6 hv ht hf hn
 by_cases n7 : d.k = 7
 · exact hasOwnE_7 d w n7 hv ht hf hn
 exact hasOwnE_x d w n0 n1 n2 n3 n4 n5 n6 n7
theorem exprOk_any (e : ET) : ∀ (p q L : Int) (g : Nat) (w0 w : World), e.lies 0 w0 → Bl w0 w → w0.heap.size ≤ g → Ctr w g L → 0 ≤ p → p ≤ 100000 → q ≤ 1000 → 0 ≤ L → L ≤ 100000 →
 Calls Tryz.prog 127 #[.pointer (some ⟨g, 0, none⟩), .agg #[.int .i64 p, .int .i64 q, .int .i64 e.d.k, .int .i64 e.d.op, .slice e.d.v.a e.d.v.len e.d.v.cap, .int .i64 e.d.t.t.k, .slice e.d.t.t.a e.d.t.t.len e.d.t.t.cap, .int .i64 e.d.t.t.n, .int .i64 e.d.t.t.s, .slice e.d.ka e.d.n e.d.kc]] w (CtrAns (eOk q e p) (esz e) g L w) := by
 induction e with
 | nil => exact fun _ _ _ _ _ _ h => False.elim h
 | mk d kid ih =>
  intro p q L g w0 w hl hw hg hc hp0 hp1 hq1 hL0 hL1;show Calls Tryz.prog 127 #[.pointer (some ⟨g, 0, none⟩), .agg #[.int .i64 p, .int .i64 q, .int .i64 d.k, .int .i64 d.op, .slice d.v.a d.v.len d.v.cap, .int .i64 d.t.t.k, .slice d.t.t.a d.t.t.len d.t.t.cap, .int .i64 d.t.t.n, .int .i64 d.t.t.s, .slice d.ka d.n d.kc]] w (CtrAns (eOk q (.mk d kid) p) (esz (.mk d kid)) g L w);obtain ⟨hv, ht, hf, hn, hR, hk⟩ := hl;have hgw := hc.lt;have hsz := hw.size;have HOWN := iH (fun W (hb : Bl w0 W) => hasOwnE_any d W (hv.upper (uB hb)) (ht.upper (uB hb)) hf hn);have HIH := iH (fun i (hi : i < d.n) (L' : Int) (W : World) (hb : Bl w0 W) (hc' : Ctr W g L') (h0 : 0 ≤ L') (h1 : L' ≤ 100000) (h10 : p ≤ q) => ih i (p + 1) q L' g w0 W (hk i hi) hb hg hc' (by omega) (by omega) hq1 h0 h1);have HKR := iH hR;have HCS : Hd (CS w0 w (w.alloc (.cells #[.int .i64 p, .int .i64 q, .int .i64 d.k, .int .i64 d.op, .slice d.v.a d.v.len d.v.cap, .int .i64 d.t.t.k, .slice d.t.t.a d.t.t.len d.t.t.cap, .int .i64 d.t.t.n, .int .i64 d.t.t.s, .slice d.ka d.n d.kc] 182)) g L [.int .i64 p, .int .i64 q, .int .i64 d.k, .int .i64 d.op, .slice d.v.a d.v.len d.v.cap, .int .i64 d.t.t.k, .slice d.t.t.a d.t.t.len d.t.t.cap, .int .i64 d.t.t.n, .int .i64 d.t.t.s, .slice d.ka d.n d.kc]) := ⟨Box.new w #[.int .i64 p, .int .i64 q, .int .i64 d.k, .int .i64 d.op, .slice d.v.a d.v.len d.v.cap, .int .i64 d.t.t.k, .slice d.t.t.a d.t.t.len d.t.t.cap, .int .i64 d.t.t.n, .int .i64 d.t.t.s, .slice d.ka d.n d.kc] 182 (0, 0), hc.below (bl_a _), Past.of_below (bl_a _), hw.trans ((bl_a _).mono hsz)⟩;have AD := admits_any g L p q _ HCS.o.ct hL0 hL1;have HSZ : Hd (esz (.mk d kid) = 1 + sumN d.n (fun i => esz (kid i))) := rfl;clear hv ht hf hR hk ih hw hc;go_in;go_wp2_with fail
  refine AD.mono ?_;rintro e w1 ⟨q1, rfl, hq1', hc1, hp1'⟩;have HC1 := iH (HCS.o.past hg hgw hp1' hc1);clear AD hc1 hp1' HCS;cases q1
  · have HNO : Hd (¬ (eOk q (.mk d kid) p ∧ ((esz (.mk d kid) : Nat) : Int) ≤ L)) := fun hh => by
     have h1 := HSZ.o;have h2 := hh.2;have h3 := hh.1.1;have h4 := hq1'.2 ⟨by omega, h3⟩
     cases h4
    clear hq1';go_wp2;go_ret;exact CtrAns.no HNO.o HC1.o.ct HC1.o.pa
  obtain ⟨hLp, hpq⟩ := hq1'.1 rfl;clear hq1';have y2 := HC1.o.bx.2 2 _ rfl;have y3 := HC1.o.bx.2 3 _ rfl;have y4 := HC1.o.bx.2 4 _ rfl;have y5 := HC1.o.bx.2 5 _ rfl;have y6 := HC1.o.bx.2 6 _ rfl;have y7 := HC1.o.bx.2 7 _ rfl;have y8 := HC1.o.bx.2 8 _ rfl;have y9 := HC1.o.bx.2 9 _ rfl;have OW := HOWN.o w1 HC1.o.bl;go_wp2_with fail
  refine OW.mono ?_;rintro e w2 ⟨q2, rfl, hq2, hb2⟩;have HC2 := iH (HC1.o.below HC1.o.bl.size hb2);clear OW hb2 HC1 HOWN y2 y3 y4 y5 y6 y7 y8 y9;cases q2
  · have HNO : Hd (¬ nodeOk d) := fun hh => by have h := hq2.2 hh; cases h
    clear hq2;go_wp2;go_ret;exact CtrAns.no (eOk_no HNO.o) HC2.o.ct HC2.o.pa
  have HNODE := iH (hq2.1 rfl);clear hq2;have x9 := HC2.o.bx.2 9 _ rfl;obtain ⟨n, hnn⟩ : ∃ n, n = d.n := ⟨_, rfl⟩;have HNN := iH hnn;rw [← hnn] at x9;have hn20 := show n ≤ 4 by have h := HNODE.o.1; unfold kOk at h; omega
  by_cases hn1 : n = 0
  · have HN0 := iH hn1
    rw [hn1] at x9;clear hn1 hnn;go_wp2_with fail
    clear x9;go_loopw [22] (fun i wr => i = .int .i64 0 ∧ Hd (CS w0 w wr g (L - 1) [.int .i64 p, .int .i64 q, .int .i64 d.k, .int .i64 d.op, .slice d.v.a d.v.len d.v.cap, .int .i64 d.t.t.k, .slice d.t.t.a d.t.t.len d.t.t.cap, .int .i64 d.t.t.n, .int .i64 d.t.t.s, .slice d.ka d.n d.kc])) (fun _ _ => 0)
    case atStart => exact ⟨rfl, HC2⟩
    obtain ⟨rfl, HCr⟩ := hrel;go_wp2;go_ret;have h4 := HSZ.o;rw [← HNN.o, HN0.o] at h4;have h5 : sumN 0 (fun i => esz (kid i)) = 0 := rfl;exact CtrAns.yes ⟨hpq, HNODE.o, fun i hi => by rw [← HNN.o, HN0.o] at hi; exact absurd hi nN⟩ (by omega) (by omega) HCr.o.ct HCr.o.pa
  obtain ⟨b, off, eK, _, hbk, hck⟩ := HKR.o.resolve_left (by omega);have HCK := iH hck;have hbk' : b < w0.heap.size := hbk;rw [eK] at x9;clear eK hck hnn hbk HKR;go_wp2_with fail
  clear x9;go_loopw [22] (fun i wr => ∃ (k : Nat) (Lr : Int), k ≤ n ∧ i = .int .i64 k ∧ 0 ≤ Lr ∧ Lr ≤ 100000 ∧ Hd (Lr = L - 1 - (sumN k (fun i => esz (kid i)) : Nat)) ∧ Hd (∀ j, j < k → eOk q (kid j) (p + 1)) ∧ Hd (CS w0 w wr g Lr [.int .i64 p, .int .i64 q, .int .i64 d.k, .int .i64 d.op, .slice d.v.a d.v.len d.v.cap, .int .i64 d.t.t.k, .slice d.t.t.a d.t.t.len d.t.t.cap, .int .i64 d.t.t.n, .int .i64 d.t.t.s, .slice d.ka d.n d.kc])) (fun i _ => n - (intOf i).toNat)
  case atStart => exact ⟨0, L - 1, nZ, rfl, by omega, by omega, (show L - 1 = L - 1 - ((0 : Nat) : Int) by omega), fun j hj => absurd hj nN, HC2⟩
  clear HC2;obtain ⟨k, Lr, hk, rfl, hLr0, hLr1, HLR, HOKS, HCr⟩ := hrel;by_cases hlk : k < n;rotate_left
  · obtain rfl : k = n := by omega
    have hlkz : ¬ (k : Int) < (k : Int) := by omega
    go_wp2;go_ret;have h2 := HSZ.o;have h4 := HLR.o;rw [HNN.o] at h4;exact CtrAns.yes ⟨hpq, HNODE.o, fun i hi => HOKS.o i (by rw [HNN.o]; exact hi)⟩ (by omega) (by omega) HCr.o.ct HCr.o.pa
  have hlkz : (k : Int) < (n : Int) := by omega
  have hcx : wr.rangeAt b (off + k * 8) (kid k).d.cl := fun c u hu => (HCr.o.bl.cell (p := ⟨b, off + k * 8 + c, none⟩) hbk').trans (HCK.o k (by rw [← HNN.o]; exact hlk) c u hu);go_upto_region 6 with (with_reducible refine wpl_at ?_; refine wpList_load_mid rfl 42 _ rfl _ _ rfl (kid k).d.cl _ hcx Tryz.underlying42 rfl (by kernel_rfl) ?_; try simp only [Act.put, sA, zA, cA])
  clear hcx;have HCw : Hd (CS w0 w (wr.alloc (.cells (kid k).d.ar 42)).drew g Lr [.int .i64 p, .int .i64 q, .int .i64 d.k, .int .i64 d.op, .slice d.v.a d.v.len d.v.cap, .int .i64 d.t.t.k, .slice d.t.t.a d.t.t.len d.t.t.cap, .int .i64 d.t.t.n, .int .i64 d.t.t.s, .slice d.ka d.n d.kc]) := (HCr.o.below HCr.o.bl.size (bl_a _)).below (Nat.le_trans HCr.o.bl.size (bl_a _).size) bdr;have HBk := iH ((Box.new wr (kid k).d.ar 42 (0, 0)).below bdr);have hwne : wr.heap.size ≠ g := by have := HCr.o.pa.size; omega
  refine whd (fun w' => Bl w0 w' ∧ Box w' w.heap.size [.int .i64 p, .int .i64 q, .int .i64 d.k, .int .i64 d.op, .slice d.v.a d.v.len d.v.cap, .int .i64 d.t.t.k, .slice d.t.t.a d.t.t.len d.t.t.cap, .int .i64 d.t.t.n, .int .i64 d.t.t.s, .slice d.ka d.n d.kc] ∧ Box w' wr.heap.size (kid k).d.cl) ?_ fun hHeld => ?_
  · exact ⟨HCw.o.bl, HCw.o.bx, HBk.o⟩
  refine tkB 0 26 ?_;refine tkB 1 27 ?_;refine tkA 2 28 (v := ?v3) ?y3 ?_
  case y3 => (intro w' hSw; have q1 := hSw.2.1.2 0 _ rfl; have q2 := hSw.2.1.2 1 _ rfl; go_simp; (try with_reducible rfl))
  try simp only [Act.put, sA, zA, cA]
  refine takeq (i := 4) 30 (v := .agg (kid k).d.ar) rfl rfl (by kernel_rfl) (by kernel_rfl) (by kernel_rfl) (fun _ _ _ h => h) (yieldsIf_load_mid (by rfl) 42 _ rfl wr.heap.size 0 rfl _ _ (fun w' hw' => hw'.2.2.range 0 _ rfl) Tryz.underlying42 rfl (by kernel_rfl)) hHeld ?_;try simp only [Act.put, sA, zA, cA]
  refine rdA 3 fun K hK => ?_;go_simp;refine (placeBelow_any p q _ hp0 hp1).mono ?_;rintro e z1 ⟨rfl, hb1⟩;have HC3 := iH (HCw.o.below HCw.o.bl.size hb1);have HBz := iH (HBk.o.below hb1);clear hb1;go_wp2_with fail
  refine hK.out _ _ ?_ fun hHeld => ?_
  · exact ⟨HC3.o.bl, HC3.o.bx, HBz.o⟩
  clear hK K;refine tkB 5 31 ?_;refine rdA 6 fun K hK => ?_;go_simp;refine (HIH.o k (by rw [← HNN.o]; exact hlk) Lr z1 HC3.o.bl HC3.o.ct hLr0 hLr1 hpq).mono ?_;rintro e w5 ⟨q5, L5, rfl, hq5, hL5, hc5, hp5⟩;have HC5 := iH (HC3.o.past hg hgw hp5 hc5);have HB5 := iH (HBz.o.past hp5 hwne);clear hc5 hp5;go_wp2_with fail
  refine hK.out _ _ ?_ fun hHeld => ?_
  · exact ⟨HC5.o.bl, HC5.o.bx, HB5.o⟩
  clear hK K;refine tkB 7 33 ?_;refine wpAnyH_done (by kernel_rfl) ?_ _;clear hHeld HBk HBz HB5 HC3 HCw HCr;have HS : Hd (sumN (k + 1) (fun i => esz (kid i)) = sumN k (fun i => esz (kid i)) + esz (kid k)) := rfl;cases q5
  · have HNO : Hd (¬ (eOk q (.mk d kid) p ∧ ((esz (.mk d kid) : Nat) : Int) ≤ L)) := fun hh => by
     have h1 := hh.1.2.2 k (by rw [← HNN.o]; exact hlk);have h2 := HSZ.o;have h3 := sumN_mono (f := (fun i => esz (kid i))) (show k + 1 ≤ d.n by rw [← HNN.o]; omega);have h4 := HLR.o;have h5 := HS.o;have h6 := hh.2;have h7 := hq5.2 ⟨h1, by omega⟩
     cases h7
    clear hq5 hL5;go_wp2;go_ret;exact CtrAns.no HNO.o HC5.o.ct HC5.o.pa
  obtain ⟨h51, h52⟩ := hq5.1 rfl;have h53 := hL5 rfl;have HN5 := iH h51;have HL5 : Hd (L5 = L - 1 - (sumN (k + 1) (fun i => esz (kid i)) : Nat)) := (show L5 = _ by have h1 := HS.o; have h2 := HLR.o; omega);have hL50 : 0 ≤ L5 := by omega
  have hL51 : L5 ≤ 100000 := by omega
  clear h51 h52 h53 hq5 hL5;go_wp2;go_roundw
  case rel =>
   refine ⟨k + 1, L5, by omega, by go_num, hL50, hL51, HL5, fun j hj => ?_, HC5⟩
   by_cases e : j = k
   · subst e
     exact HN5.o
   exact HOKS.o j (by omega)
  case measure => simp [intOf]; omega
theorem isVar_any (x : IB) (w : World) (h : x.lies 0 w) : Calls Tryz.prog 179 #[.agg x.ar] w (Tells (x.v.b ≠ []) w) := by
 have HL := iH (nil_len h.1.1.1);clear h;go_in;go_wp2;go_ret;refine Tells.of ?_ (bl_a _);have h1 := HL.o;constructor
 · intro h2 h3
   have h4 := h1.1 h3;simp at h2;omega
 intro h2;simp;apply Nat.pos_of_ne_zero;exact fun h3 => h2 (h1.2 h3)
theorem ok_kind {x : TD} (h : x.ok = true) : 0 ≤ x.k ∧ x.k ≤ 3 := by
 unfold TD.ok termOk at h;by_cases h0 : x.k = 0
 · omega
 by_cases h1 : x.k = 1
 · omega
 by_cases h2 : x.k = 2
 · omega
 by_cases h3 : x.k = 3
 · omega
 rw [if_neg h0, if_neg h1, if_neg h2, if_neg h3] at h;cases h
theorem itemOkS (x : IB) (w : World) (h : x.lies 0 w) : Calls Tryz.prog 164 #[.agg x.ar, .func (.func 165) #[] #[]] w (Tells (itOk x 1) w) := by
 have HIV := iH (fun W (hb : Bl w W) => isVar_any x W ⟨h.1.upper (uB hb), h.2.1.upper (uB hb), h.2.2⟩);have HIN := iH (fun W (hb : Bl w W) => isName_any x.v.a x.v.len x.v.cap x.v.b W (h.1.upper (uB hb)).1);have HZ := iH (fun W (hb : Bl w W) => isZeroT_any x.t W (h.2.1.upper (uB hb)));have HMS : Hd (∀ W, Bl w W → Cl 165 #[.agg #[.int .i64 x.t.t.k, .slice x.t.t.a x.t.t.len x.t.t.cap, .int .i64 x.t.t.n, .int .i64 x.t.t.s]] W (Tells (x.t.td.ok = true ∧ x.t.t.k ≤ 1) W)) := fun W hb => (isSubject_any x.t.t x.t.b W h.2.2 (h.2.1.upper (uB hb)).1).mono fun e w' ⟨h1, h2⟩ => ⟨_, h1, (show (_ ↔ _) by rw [Bool.and_eq_true, decide_eq_true_iff]; exact Iff.rfl), h2⟩;clear h;go_in;go_wp2_with fail
 refine (HIV.o _ (bl_a _)).mono ?_;rintro e w1 ⟨q1, rfl, hq1, hb1⟩;have HB1 := iH (bl_trans (bl_a _) hb1);have hx := (Box.new w _ 37 (0, 0)).below hb1;have y0 := hx.2 0 _ rfl;have y1 := hx.2 1 _ rfl;have y2 := hx.2 2 _ rfl;have y3 := hx.2 3 _ rfl;have y4 := hx.2 4 _ rfl;clear hb1 hx;cases q1 with
 | true =>
  have HNE := iH (hq1.1 rfl);clear hq1 HMS;cases hnm : nameOk x.v.b with
  | false =>
   have HNO : Hd (¬ itOk x 1) := fun hh => by
    rcases hh with hh | hh
    · have h := hh.2.1
      rw [hnm] at h;cases h
    exact HNE.o hh.1
   have IN := HIN.o w1 HB1.o;rw [hnm] at IN;clear hnm;go_wp2_with fail
   refine IN.mono ?_;rintro e w2 ⟨rfl, h2⟩;subst w2;clear IN;go_wp2;go_ret;exact Tells.no HNO.o HB1.o
  | true =>
   have HNM := iH hnm;have IN := HIN.o w1 HB1.o;rw [hnm] at IN;clear hnm;go_wp2_with fail
   refine IN.mono ?_;rintro e w2 ⟨rfl, h2⟩;subst w2;clear IN;go_wp2_with fail
   refine (HZ.o w1 HB1.o).mono ?_;rintro e w3 ⟨q3, rfl, hq3, hb3⟩;have HE : Hd (q3 = true ↔ itOk x 1) := (show (q3 = true ↔ itOk x 1) from hq3.trans ⟨fun hh => Or.inl ⟨HNE.o, HNM.o, hh⟩, fun hh => by
    rcases hh with hh | hh
    · exact hh.2.2
    exact absurd hh.1 HNE.o⟩)
   have HB3 := iH (bl_trans HB1.o hb3);clear hq3 hb3 y0 y1 y2 y3 y4;go_wp2;go_ret;exact Tells.of HE.o HB3.o
 | false =>
  have HNE := iH (show x.v.b = [] from Classical.byContradiction fun hh => by have h := hq1.2 hh; cases h);clear hq1 HZ HIN;go_wp2_with fail
  refine (HMS.o w1 HB1.o).mono ?_;rintro e w3 ⟨q3, rfl, hq3, hb3⟩;have HE : Hd (q3 = true ↔ itOk x 1) := (show (q3 = true ↔ itOk x 1) from hq3.trans ⟨fun hh => Or.inr ⟨HNE.o, hh.1, hh.2⟩, fun hh => by
   rcases hh with hh | hh
   · exact absurd HNE.o hh.1
   exact hh.2⟩)
  have HB3 := iH (bl_trans HB1.o hb3);clear hq3 hb3 y0 y1 y2 y3 y4;go_wp2;go_ret;exact Tells.of HE.o HB3.o
theorem itemOkP (x : IB) (w : World) (h : x.lies 0 w) : Calls Tryz.prog 164 #[.agg x.ar, .func (.func 166) #[] #[]] w (Tells (itOk x 0) w) := by
 have HIV := iH (fun W (hb : Bl w W) => isVar_any x W ⟨h.1.upper (uB hb), h.2.1.upper (uB hb), h.2.2⟩);have HIN := iH (fun W (hb : Bl w W) => isName_any x.v.a x.v.len x.v.cap x.v.b W (h.1.upper (uB hb)).1);have HZ := iH (fun W (hb : Bl w W) => isZeroT_any x.t W (h.2.1.upper (uB hb)));have HMS : Hd (∀ W, Bl w W → Cl 166 #[.agg #[.int .i64 x.t.t.k, .slice x.t.t.a x.t.t.len x.t.t.cap, .int .i64 x.t.t.n, .int .i64 x.t.t.s]] W (Tells (x.t.td.ok = true ∧ x.t.t.k ≤ 0) W)) := fun W hb => (isProperty_any x.t.t x.t.b W h.2.2 (h.2.1.upper (uB hb)).1).mono fun e w' ⟨h1, h2⟩ => ⟨_, h1, (show (_ ↔ _) by rw [Bool.and_eq_true, beq_iff_eq]; exact ⟨fun hh => ⟨hh.1, Int.le_of_eq hh.2⟩, fun hh => ⟨hh.1, Int.le_antisymm hh.2 (ok_kind (x := x.t.td) hh.1).1⟩⟩), h2⟩;clear h;go_in;go_wp2_with fail
 refine (HIV.o _ (bl_a _)).mono ?_;rintro e w1 ⟨q1, rfl, hq1, hb1⟩;have HB1 := iH (bl_trans (bl_a _) hb1);have hx := (Box.new w _ 37 (0, 0)).below hb1;have y0 := hx.2 0 _ rfl;have y1 := hx.2 1 _ rfl;have y2 := hx.2 2 _ rfl;have y3 := hx.2 3 _ rfl;have y4 := hx.2 4 _ rfl;clear hb1 hx;cases q1 with
 | true =>
  have HNE := iH (hq1.1 rfl);clear hq1 HMS;cases hnm : nameOk x.v.b with
  | false =>
   have HNO : Hd (¬ itOk x 0) := fun hh => by
    rcases hh with hh | hh
    · have h := hh.2.1
      rw [hnm] at h;cases h
    exact HNE.o hh.1
   have IN := HIN.o w1 HB1.o;rw [hnm] at IN;clear hnm;go_wp2_with fail
   refine IN.mono ?_;rintro e w2 ⟨rfl, h2⟩;subst w2;clear IN;go_wp2;go_ret;exact Tells.no HNO.o HB1.o
  | true =>
   have HNM := iH hnm;have IN := HIN.o w1 HB1.o;rw [hnm] at IN;clear hnm;go_wp2_with fail
   refine IN.mono ?_;rintro e w2 ⟨rfl, h2⟩;subst w2;clear IN;go_wp2_with fail
   refine (HZ.o w1 HB1.o).mono ?_;rintro e w3 ⟨q3, rfl, hq3, hb3⟩;have HE : Hd (q3 = true ↔ itOk x 0) := (show (q3 = true ↔ itOk x 0) from hq3.trans ⟨fun hh => Or.inl ⟨HNE.o, HNM.o, hh⟩, fun hh => by
    rcases hh with hh | hh
    · exact hh.2.2
    exact absurd hh.1 HNE.o⟩)
   have HB3 := iH (bl_trans HB1.o hb3);clear hq3 hb3 y0 y1 y2 y3 y4;go_wp2;go_ret;exact Tells.of HE.o HB3.o
 | false =>
  have HNE := iH (show x.v.b = [] from Classical.byContradiction fun hh => by have h := hq1.2 hh; cases h);clear hq1 HZ HIN;go_wp2_with fail
  refine (HMS.o w1 HB1.o).mono ?_;rintro e w3 ⟨q3, rfl, hq3, hb3⟩;have HE : Hd (q3 = true ↔ itOk x 0) := (show (q3 = true ↔ itOk x 0) from hq3.trans ⟨fun hh => Or.inr ⟨HNE.o, hh.1, hh.2⟩, fun hh => by
   rcases hh with hh | hh
   · exact absurd HNE.o hh.1
   exact hh.2⟩)
  have HB3 := iH (bl_trans HB1.o hb3);clear hq3 hb3 y0 y1 y2 y3 y4;go_wp2;go_ret;exact Tells.of HE.o HB3.o
theorem itemOkO (x : IB) (w : World) (h : x.lies 0 w) : Calls Tryz.prog 164 #[.agg x.ar, .func (.func 167) #[] #[]] w (Tells (itOk x 3) w) := by
 have HIV := iH (fun W (hb : Bl w W) => isVar_any x W ⟨h.1.upper (uB hb), h.2.1.upper (uB hb), h.2.2⟩);have HIN := iH (fun W (hb : Bl w W) => isName_any x.v.a x.v.len x.v.cap x.v.b W (h.1.upper (uB hb)).1);have HZ := iH (fun W (hb : Bl w W) => isZeroT_any x.t W (h.2.1.upper (uB hb)));have HMS : Hd (∀ W, Bl w W → Cl 167 #[.agg #[.int .i64 x.t.t.k, .slice x.t.t.a x.t.t.len x.t.t.cap, .int .i64 x.t.t.n, .int .i64 x.t.t.s]] W (Tells (x.t.td.ok = true ∧ x.t.t.k ≤ 3) W)) := fun W hb => (implTermOk_any x.t.t.k x.t.t.n x.t.t.s x.t.t.a x.t.t.len x.t.t.cap x.t.b W (h.2.1.upper (uB hb)).1 h.2.2.1 h.2.2.2.1 h.2.2.2.2.1 h.2.2.2.2.2).mono fun e w' ⟨h1, h2⟩ => ⟨_, h1, ⟨fun hh => ⟨hh, (ok_kind (x := x.t.td) hh).2⟩, fun hh => hh.1⟩, h2⟩;clear h;go_in;go_wp2_with fail
 refine (HIV.o _ (bl_a _)).mono ?_;rintro e w1 ⟨q1, rfl, hq1, hb1⟩;have HB1 := iH (bl_trans (bl_a _) hb1);have hx := (Box.new w _ 37 (0, 0)).below hb1;have y0 := hx.2 0 _ rfl;have y1 := hx.2 1 _ rfl;have y2 := hx.2 2 _ rfl;have y3 := hx.2 3 _ rfl;have y4 := hx.2 4 _ rfl;clear hb1 hx;cases q1 with
 | true =>
  have HNE := iH (hq1.1 rfl);clear hq1 HMS;cases hnm : nameOk x.v.b with
  | false =>
   have HNO : Hd (¬ itOk x 3) := fun hh => by
    rcases hh with hh | hh
    · have h := hh.2.1
      rw [hnm] at h;cases h
    exact HNE.o hh.1
   have IN := HIN.o w1 HB1.o;rw [hnm] at IN;clear hnm;go_wp2_with fail
   refine IN.mono ?_;rintro e w2 ⟨rfl, h2⟩;subst w2;clear IN;go_wp2;go_ret;exact Tells.no HNO.o HB1.o
  | true =>
   have HNM := iH hnm;have IN := HIN.o w1 HB1.o;rw [hnm] at IN;clear hnm;go_wp2_with fail
   refine IN.mono ?_;rintro e w2 ⟨rfl, h2⟩;subst w2;clear IN;go_wp2_with fail
   refine (HZ.o w1 HB1.o).mono ?_;rintro e w3 ⟨q3, rfl, hq3, hb3⟩;have HE : Hd (q3 = true ↔ itOk x 3) := (show (q3 = true ↔ itOk x 3) from hq3.trans ⟨fun hh => Or.inl ⟨HNE.o, HNM.o, hh⟩, fun hh => by
    rcases hh with hh | hh
    · exact hh.2.2
    exact absurd hh.1 HNE.o⟩)
   have HB3 := iH (bl_trans HB1.o hb3);clear hq3 hb3 y0 y1 y2 y3 y4;go_wp2;go_ret;exact Tells.of HE.o HB3.o
 | false =>
  have HNE := iH (show x.v.b = [] from Classical.byContradiction fun hh => by have h := hq1.2 hh; cases h);clear hq1 HZ HIN;go_wp2_with fail
  refine (HMS.o w1 HB1.o).mono ?_;rintro e w3 ⟨q3, rfl, hq3, hb3⟩;have HE : Hd (q3 = true ↔ itOk x 3) := (show (q3 = true ↔ itOk x 3) from hq3.trans ⟨fun hh => Or.inr ⟨HNE.o, hh.1, hh.2⟩, fun hh => by
   rcases hh with hh | hh
   · exact absurd HNE.o hh.1
   exact hh.2⟩)
  have HB3 := iH (bl_trans HB1.o hb3);clear hq3 hb3 y0 y1 y2 y3 y4;go_wp2;go_ret;exact Tells.of HE.o HB3.o
theorem patOk_any (x : PB) (w : World) (h : x.lies 0 w) : Calls Tryz.prog 151 #[.agg x.ar] w (Tells (ptOk x) w) := by
 have HI1 := iH (fun W (hb : Bl w W) => itemOkS x.s W (h.1.upper (uB hb)));have HI2 := iH (fun W (hb : Bl w W) => itemOkP x.p W (h.2.1.upper (uB hb)));have HI3 := iH (fun W (hb : Bl w W) => itemOkO x.o W (h.2.2.upper (uB hb)));clear h;go_in;go_wp2_with fail
 refine (HI1.o _ (bl_a _)).mono ?_;rintro e w1 ⟨q1, rfl, hq1, hb1⟩;have HB1 := iH (bl_trans (bl_a _) hb1);have HX1 := iH ((Box.new w _ 39 (0, 0)).below hb1);clear hb1 HI1;cases q1
 · have HNO : Hd (¬ ptOk x) := fun hh => by have h := hq1.2 hh.1; cases h
   clear hq1;go_wp2;go_ret;exact Tells.no HNO.o HB1.o
 have HO1 := iH (hq1.1 rfl);clear hq1;have y5 := HX1.o.2 5 _ rfl;have y6 := HX1.o.2 6 _ rfl;have y7 := HX1.o.2 7 _ rfl;have y8 := HX1.o.2 8 _ rfl;have y9 := HX1.o.2 9 _ rfl;go_wp2_with fail
 refine (HI2.o w1 HB1.o).mono ?_;rintro e w2 ⟨q2, rfl, hq2, hb2⟩;have HB2 := iH (bl_trans HB1.o hb2);have HX2 := iH (HX1.o.below hb2);clear hb2 HI2 HX1 y5 y6 y7 y8 y9;cases q2
 · have HNO : Hd (¬ ptOk x) := fun hh => by have h := hq2.2 hh.2.1; cases h
   clear hq2;go_wp2;go_ret;exact Tells.no HNO.o HB2.o
 have HO2 := iH (hq2.1 rfl);clear hq2;have y10 := HX2.o.2 10 _ rfl;have y11 := HX2.o.2 11 _ rfl;have y12 := HX2.o.2 12 _ rfl;have y13 := HX2.o.2 13 _ rfl;have y14 := HX2.o.2 14 _ rfl;go_wp2_with fail
 refine (HI3.o w2 HB2.o).mono ?_;rintro e w3 ⟨q3, rfl, hq3, hb3⟩;have HB3 := iH (bl_trans HB2.o hb3);have HE := iH (show (q3 = true ↔ ptOk x) from hq3.trans ⟨fun hh => ⟨HO1.o, HO2.o, hh⟩, fun hh => hh.2.2⟩);clear hb3 hq3 y10 y11 y12 y13 y14;go_wp2;go_ret;exact Tells.of HE.o HB3.o
def IdxAns (P : Prop) (w : World) (e : Ending) (w' : World) : Prop := ∃ v : Int, e = .returned (.int .i64 v) ∧ (0 ≤ v ↔ ¬ P) ∧ Bl w w'
theorem IdxAns.of {P : Prop} {v : Int} {w' : World} (h : 0 ≤ v ↔ ¬ P) (hb : Bl w w') : IdxAns P w (.returned (.int .i64 v)) w' := ⟨v, rfl, h, hb⟩
theorem noPat_any (x : PB) (w : World) (h : x.lies 0 w) : Calls Tryz.prog 177 #[.agg x.ar] w (Tells (¬ ptOk x) w) := by
 try unfold PB.ar PB.cl
 have HP : Hd (∀ W, Bl w W → Cl 151 #[.agg x.ar] W (Tells (ptOk x) W)) := fun W hb => patOk_any x W (h.upper (uB hb));clear h;go_enter Tryz.func177, Tryz.ntmps177;go_wp2_with fail
 refine (HP.o _ (bl_a _)).mono ?_;rintro e w1 ⟨q1, rfl, hq1, hb1⟩;have HB : Hd (Bl w w1) := bl_trans (bl_a _) hb1;have HE : Hd ((!q1) = true ↔ ¬ ptOk x) := (show ((!q1) = true ↔ _) by
  rw [← hq1]
  cases q1 <;> simp)
 clear hq1 hb1 HP;go_wp2;go_ret;exact Tells.of HE.o HB.o
theorem indexPat_any (a : Option Addr) (n cap : Nat) (f : Nat → PB) (w : World) (hn : n ≤ 1048576) (hR : KRow 0 w 15 a n (fun i => (f i).cells)) (hk : ∀ i, i < n → (f i).lies 0 w) :
 Calls Tryz.prog 186 #[.slice a n cap, .func (.func 177) #[] #[]] w (IdxAns (∀ i, i < n → ptOk (f i)) w) := by
 have HNP : Hd (∀ i, i < n → ∀ W, Bl w W → Cl 177 #[.agg (f i).ar] W (Tells (¬ ptOk (f i)) W)) := fun i hi W hb => noPat_any (f i) W ((hk i hi).upper (uB hb));by_cases hn1 : n = 0
 · subst hn1
   clear hR hk;go_enter Tryz.func186, Tryz.ntmps186;go_wp2_with fail
   go_loopw [8] (fun i wr => i = .int .i64 0 ∧ Hd (Bl w wr)) (fun _ _ => 0)
   case atStart => exact ⟨rfl, Below.refl _ _⟩
   obtain ⟨rfl, HB⟩ := hrel;go_wp2;go_ret;exact IdxAns.of ⟨fun h => absurd h (by decide), fun h => absurd (fun i hi => absurd hi nN) h⟩ HB.o
 obtain ⟨b, off, rfl, _, hbk, hck⟩ := hR.resolve_left hn1;have HCK : Hd (∀ i, i < n → ∀ c u, ((f i).cells)[c]? = some u → w.cell? ⟨b, off + i * 15 + c, none⟩ = some u) := hck;clear hck hR hk hn1;go_enter Tryz.func186, Tryz.ntmps186;go_wp2_with fail
 go_loopw [8] (fun i wr => ∃ k : Nat, k ≤ n ∧ i = .int .i64 k ∧ Hd (∀ j, j < k → ptOk (f j)) ∧ Hd (Bl w wr)) (fun i _ => n - (intOf i).toNat)
 case atStart => exact ⟨0, nZ, rfl, fun j hj => absurd hj nN, Below.refl _ _⟩
 obtain ⟨k, hk, rfl, HOK, HB⟩ := hrel;by_cases hlk : k < n;rotate_left
 · obtain rfl : k = n := by omega
   have hlkz : ¬ (k : Int) < (k : Int) := by omega
   go_wp2;go_ret;exact IdxAns.of ⟨fun h => absurd h (by decide), fun h => absurd HOK.o h⟩ HB.o
 have hlkz : (k : Int) < (n : Int) := by omega
 have hcx : wr.rangeAt b (off + k * 15) (f k).cl := fun c u hu => (HB.o.cell (p := ⟨b, off + k * 15 + c, none⟩) hbk).trans (HCK.o k hlk c u hu);go_wp2_with (with_reducible refine wpl_at ?_; refine wpList_load_mid rfl 39 _ rfl _ _ rfl (f k).cl _ hcx Tryz.underlying39 rfl (by kernel_rfl) ?_; try simp only [Act.put, sA, zA, cA])
 refine (HNP.o k hlk wr HB.o).mono ?_;rintro e w1 ⟨q1, rfl, hq1, hb1⟩;have HB1 : Hd (Bl w w1) := bl_trans HB.o hb1;clear hb1 hcx HB;cases q1 with
 | true =>
  have HNO : Hd (¬ ptOk (f k)) := hq1.1 rfl;clear hq1;go_wp2;go_ret;exact IdxAns.of ⟨fun _ h => HNO.o (h k hlk), fun _ => by omega⟩ HB1.o
 | false =>
  have HYE : Hd (ptOk (f k)) := (show ptOk (f k) from Classical.byContradiction fun hh => by have h := hq1.2 hh; cases h);clear hq1;go_wp2;go_roundw
  case rel =>
   refine ⟨k + 1, by omega, by go_num, fun j hj => ?_, HB1⟩
   by_cases e : j = k
   · subst e
     exact HYE.o
   exact HOK.o j (by omega)
  case measure => simp [intOf]; omega
theorem containsPat_any (a : Option Addr) (n cap : Nat) (f : Nat → PB) (w : World) (hn : n ≤ 1048576) (hR : KRow 0 w 15 a n (fun i => (f i).cells)) (hk : ∀ i, i < n → (f i).lies 0 w) :
 Calls Tryz.prog 176 #[.slice a n cap, .func (.func 177) #[] #[]] w (Tells (¬ ∀ i, i < n → ptOk (f i)) w) := by
 have IX := indexPat_any a n cap f w hn hR hk;obtain ⟨P, hP⟩ : ∃ P : Prop, P = (∀ i, i < n → ptOk (f i)) := ⟨_, rfl⟩;rw [← hP] at IX ⊢;clear hP hR hk hn;go_enter Tryz.func176, Tryz.ntmps176;go_wp2_with fail
 refine IX.mono ?_;rintro e w1 ⟨v, rfl, hv, hb⟩;have HV : Hd (0 ≤ v ↔ ¬ P) := hv;have HB : Hd (Bl w w1) := hb;clear IX hv hb;go_wp2;go_ret;refine Tells.of ?_ HB.o;rw [← HV.o];simp
theorem noTerm_any (x : TB) (w : World) (h : BsF 0 w x.sl ∧ x.t.fits) : Calls Tryz.prog 171 #[.agg #[.int .i64 x.t.k, .slice x.t.a x.t.len x.t.cap, .int .i64 x.t.n, .int .i64 x.t.s]] w (Tells (¬ x.td.ok = true) w) := by
 have HP : Hd (∀ W, Bl w W → Cl 167 #[.agg #[.int .i64 x.t.k, .slice x.t.a x.t.len x.t.cap, .int .i64 x.t.n, .int .i64 x.t.s]] W (Tells (x.td.ok = true) W)) := fun W hb => (implTermOk_any x.t.k x.t.n x.t.s x.t.a x.t.len x.t.cap x.b W (h.1.upper (uB hb)).1 h.2.1 h.2.2.1 h.2.2.2.1 h.2.2.2.2).mono fun e w' ⟨h1, h2⟩ => ⟨_, h1, Iff.rfl, h2⟩;clear h;go_in;go_wp2_with fail
 refine (HP.o _ (bl_a _)).mono ?_;rintro e w1 ⟨q1, rfl, hq1, hb1⟩;have HB := iH (bl_trans (bl_a _) hb1);have HE : Hd ((!q1) = true ↔ ¬ x.td.ok = true) := (show ((!q1) = true ↔ _) by
  rw [← hq1]
  cases q1 <;> simp)
 clear hq1 hb1 HP;go_wp2;go_ret;exact Tells.of HE.o HB.o
theorem indexTerm_any (a : Option Addr) (n cap : Nat) (f : Nat → TB) (w : World) (hn : n ≤ 1048576) (hR : KRow 0 w 4 a n (fun i => enc4 (f i).t)) (hk : ∀ i, i < n → BsF 0 w (f i).sl ∧ (f i).t.fits) :
 Calls Tryz.prog 184 #[.slice a n cap, .func (.func 171) #[] #[]] w (IdxAns (∀ i, i < n → (f i).td.ok = true) w) := by
 have HNP := iH (fun i (hi : i < n) W (hb : Bl w W) => noTerm_any (f i) W (⟨(hk i hi).1.upper (uB hb), (hk i hi).2⟩));by_cases hn1 : n = 0
 · subst hn1
   clear hR hk;go_in;go_wp2_with fail
   go_loopw [8] (fun i wr => i = .int .i64 0 ∧ Hd (Bl w wr)) (fun _ _ => 0)
   case atStart => exact ⟨rfl, Below.refl _ _⟩
   obtain ⟨rfl, HB⟩ := hrel;go_wp2;go_ret;exact IdxAns.of ⟨fun h => absurd h (by decide), fun h => absurd (fun i hi => absurd hi nN) h⟩ HB.o
 obtain ⟨b, off, rfl, _, hbk, hck⟩ := hR.resolve_left hn1;have HCK := iH hck;clear hck hR hk hn1;go_in;go_wp2_with fail
 go_loopw [8] (fun i wr => ∃ k : Nat, k ≤ n ∧ i = .int .i64 k ∧ Hd (∀ j, j < k → (f j).td.ok = true) ∧ Hd (Bl w wr)) (fun i _ => n - (intOf i).toNat)
 case atStart => exact ⟨0, nZ, rfl, fun j hj => absurd hj nN, Below.refl _ _⟩
 obtain ⟨k, hk, rfl, HOK, HB⟩ := hrel;by_cases hlk : k < n;rotate_left
 · obtain rfl : k = n := by omega
   have hlkz : ¬ (k : Int) < (k : Int) := by omega
   go_wp2;go_ret;exact IdxAns.of ⟨fun h => absurd h (by decide), fun h => absurd HOK.o h⟩ HB.o
 have hlkz : (k : Int) < (n : Int) := by omega
 have hcx : wr.rangeAt b (off + k * 4) [.int .i64 (f k).t.k, .slice (f k).t.a (f k).t.len (f k).t.cap, .int .i64 (f k).t.n, .int .i64 (f k).t.s] := fun c u hu => (HB.o.cell (p := ⟨b, off + k * 4 + c, none⟩) hbk).trans (HCK.o k hlk c u hu);go_wp2_with (with_reducible refine wpl_at ?_; refine ldr rfl rfl rfl Tryz.underlying35 hcx rfl ?_; try simp only [Act.put, sA, zA, cA])
 refine (HNP.o k hlk wr HB.o).mono ?_;rintro e w1 ⟨q1, rfl, hq1, hb1⟩;have HB1 := iH (bl_trans HB.o hb1);clear hb1 hcx HB;cases q1 with
 | true =>
  have HNO := iH (hq1.1 rfl);clear hq1;go_wp2;go_ret;exact IdxAns.of ⟨fun _ h => HNO.o (h k hlk), fun _ => by omega⟩ HB1.o
 | false =>
  have HYE := iH (show (f k).td.ok = true from Classical.byContradiction fun hh => by have h := hq1.2 hh; cases h);clear hq1;go_wp2;go_roundw
  case rel =>
   refine ⟨k + 1, by omega, by go_num, fun j hj => ?_, HB1⟩
   by_cases e : j = k
   · subst e
     exact HYE.o
   exact HOK.o j (by omega)
  case measure => simp [intOf]; omega
theorem containsTerm_any (a : Option Addr) (n cap : Nat) (f : Nat → TB) (w : World) (hn : n ≤ 1048576) (hR : KRow 0 w 4 a n (fun i => enc4 (f i).t)) (hk : ∀ i, i < n → BsF 0 w (f i).sl ∧ (f i).t.fits) :
 Calls Tryz.prog 170 #[.slice a n cap, .func (.func 171) #[] #[]] w (Tells (¬ ∀ i, i < n → (f i).td.ok = true) w) := by
 have IX := indexTerm_any a n cap f w hn hR hk;obtain ⟨P, hP⟩ : ∃ P : Prop, P = (∀ i, i < n → (f i).td.ok = true) := ⟨_, rfl⟩;rw [← hP] at IX ⊢;clear hP hR hk hn;go_in;go_wp2_with fail
 refine IX.mono ?_;rintro e w1 ⟨v, rfl, hv, hb⟩;have HV := iH hv;have HB := iH hb;clear IX hv hb;go_wp2;go_ret;refine Tells.of ?_ HB.o;rw [← HV.o];simp
theorem patsOk_any (a : Option Addr) (n cap : Nat) (f : Nat → PB) (w : World) (hn : n ≤ 1048576) (hR : KRow 0 w 15 a n (fun i => (f i).cells)) (hk : ∀ i, i < n → (f i).lies 0 w) :
 Calls Tryz.prog 157 #[.slice a n cap] w (Tells (n ≤ 120 ∧ ∀ i, i < n → ptOk (f i)) w) := by
 have CN := containsPat_any a n cap f w hn hR hk;obtain ⟨P, hP⟩ : ∃ P : Prop, P = (∀ i, i < n → ptOk (f i)) := ⟨_, rfl⟩;rw [← hP] at CN ⊢;clear hP hR hk hn;by_cases hl : n ≤ 120
 · have hlz : (n : Int) ≤ 120 := by omega
   have HL : Hd (n ≤ 120) := hl;clear hl;go_enter Tryz.func157, Tryz.ntmps157;go_wp2_with fail
   refine CN.mono ?_;rintro e w1 ⟨q1, rfl, hq1, hb1⟩;have HB : Hd (Bl w w1) := hb1;have HE : Hd ((!q1) = true ↔ n ≤ 120 ∧ P) := (show ((!q1) = true ↔ _) by
    cases q1 with
    | true => exact ⟨fun h => (by cases h), fun h => absurd h.2 (hq1.1 rfl)⟩
    | false => exact ⟨fun _ => ⟨HL.o, Classical.byContradiction fun hh => by have h := hq1.2 hh; cases h⟩, fun _ => rfl⟩)
   clear hq1 hb1 CN;go_wp2;go_ret;exact Tells.of HE.o HB.o
 have hlz : ¬ (n : Int) ≤ 120 := by omega
 have HNO : Hd (¬ (n ≤ 120 ∧ P)) := fun hh => hl hh.1;clear hl CN;go_enter Tryz.func157, Tryz.ntmps157;go_wp2;go_ret;exact Tells.no HNO.o brf
theorem valuesOk_any (a : Option Addr) (n cap : Nat) (f : Nat → TB) (w : World) (hn : n ≤ 1048576) (hR : KRow 0 w 4 a n (fun i => enc4 (f i).t)) (hk : ∀ i, i < n → BsF 0 w (f i).sl ∧ (f i).t.fits) :
 Calls Tryz.prog 153 #[.slice a n cap] w (Tells (n ≤ 8 ∧ ∀ i, i < n → (f i).td.ok = true) w) := by
 have CN := containsTerm_any a n cap f w hn hR hk;obtain ⟨P, hP⟩ : ∃ P : Prop, P = (∀ i, i < n → (f i).td.ok = true) := ⟨_, rfl⟩;rw [← hP] at CN ⊢;clear hP hR hk hn;by_cases hl : n ≤ 8
 · have hlz : (n : Int) ≤ 8 := by omega
   have HL := iH hl;clear hl;go_in;go_wp2_with fail
   refine CN.mono ?_;rintro e w1 ⟨q1, rfl, hq1, hb1⟩;have HB := iH hb1;have HE : Hd ((!q1) = true ↔ n ≤ 8 ∧ P) := (show ((!q1) = true ↔ _) by
    cases q1 with
    | true => exact ⟨fun h => (by cases h), fun h => absurd h.2 (hq1.1 rfl)⟩
    | false => exact ⟨fun _ => ⟨HL.o, Classical.byContradiction fun hh => by have h := hq1.2 hh; cases h⟩, fun _ => rfl⟩)
   clear hq1 hb1 CN;go_wp2;go_ret;exact Tells.of HE.o HB.o
 have hlz : ¬ (n : Int) ≤ 8 := by omega
 have HNO : Hd (¬ (n ≤ 8 ∧ P)) := fun hh => hl hh.1;clear hl CN;go_in;go_wp2;go_ret;exact Tells.no HNO.o brf
def pKids (k : Int) : Int := if k = 1 ∨ k = 2 ∨ k = 3 ∨ k = 4 then 2 else if k = 5 ∨ k = 6 then 1 else 0
theorem algKidCount_any (k : Int) (w : World) : Calls Tryz.prog 156 #[.int .i64 k] w fun e w' => e = .returned (.int .i64 (pKids k)) ∧ w' = w := by
 go_enter Tryz.func156, Tryz.ntmps156;go_wp2;all_goals go_ret
 all_goals refine ⟨?_, rfl⟩
 all_goals (unfold pKids; simp_all)
def BareA (d : AN) : Prop := d.pn = 0 ∧ zeroE d.e ∧ d.v.b = [] ∧ d.tb = []
theorem BareA.mk (h1 : d.pn = 0) (h2 : zeroE d.e) (h3 : d.v.b = []) (h4 : d.tb = []) : BareA d := And.intro h1 (And.intro h2 (And.intro h3 h4))
def ET0 : ET := .mk ⟨0, 0, ⟨none, 0, 0, []⟩, ⟨⟨0, none, 0, 0, 0, 0⟩, []⟩, none, 0, 0⟩ (fun _ => .nil)
theorem ET0_lies (w : World) : ET0.lies 0 w := ⟨bs_nil w, bs_nil w, ⟨by decide, by decide, by decide, by decide⟩, nZ, .inl rfl, fun i hi => absurd hi nN⟩
theorem ET0_zero : zeroE ET0 := ⟨rfl, rfl, rfl, zeroT0, rfl⟩
theorem isBareA_any (d : AN) (w : World) (he : d.e.lies 0 w) (hv : BsF 0 w d.v) : Calls Tryz.prog 158 #[.agg d.ar] w (Tells (BareA d) w) := by
 try unfold AN.ar AN.cl
 have HL : Hd (d.v.b = [] ↔ d.v.len = 0) := nil_len hv.1.1;have HZ : Hd (∀ W, Bl w W → Cl 173 #[.agg d.e.d.ar] W (Tells (zeroE d.e) W)) := fun W hb => isZeroE_any d.e W (ET.lies.upper (uB hb) he);obtain ⟨P, hP⟩ : ∃ P, P = BareA d := ⟨_, rfl⟩;have HP : Hd (P ↔ (d.pn = 0 ∧ zeroE d.e ∧ d.v.b = [] ∧ d.tb = [])) := (show (P ↔ _) by rw [hP]; exact Iff.rfl);rw [← hP];obtain ⟨nt, hnt⟩ : ∃ nt, nt = d.tb.length := ⟨_, rfl⟩;rw [← hnt];have HT : Hd (d.tb = [] ↔ nt = 0) := (show (_ ↔ _) by rw [hnt]; exact tb_nil);clear he hv hP hnt;by_cases h1 : d.pn = 0;rotate_left
 · go_enter Tryz.func158, Tryz.ntmps158
   go_wp2;go_ret;exact Tells.no (fun hp => h1 (HP.o.1 hp).1) (bl_a _)
 have H1 : Hd (d.pn = 0) := h1;go_enter Tryz.func158, Tryz.ntmps158;go_wp2_with fail
 refine (HZ.o _ (bl_a _)).mono ?_;rintro e w1 ⟨q1, rfl, hq1, hb1⟩;have HB : Hd (Bl w w1) := bl_trans (bl_a _) hb1;have HX : Hd (w1.cell? ⟨w.heap.size, 10, none⟩ = some (.slice d.v.a d.v.len d.v.cap) ∧ w1.cell? ⟨w.heap.size, 11, none⟩ = some (.slice d.ta nt d.tc)) := ⟨(hb1.cell (p := ⟨w.heap.size, 10, none⟩) (by simp)).trans (by simp [go_sem]), (hb1.cell (p := ⟨w.heap.size, 11, none⟩) (by simp)).trans (by simp [go_sem])⟩;clear hb1 h1 HZ;cases q1
 · have HNO : Hd (¬ P) := fun hh => by have h := hq1.2 (HP.o.1 hh).2.1; cases h
   clear hq1;go_wp2;go_ret;exact Tells.no HNO.o HB.o
 have HE : Hd (zeroE d.e) := hq1.1 rfl;clear hq1;obtain ⟨x10, x11⟩ := HX.o;by_cases h2 : d.v.len = 0;rotate_left
 · go_wp2
   go_ret;exact Tells.no (fun hp => h2 (HL.o.1 (HP.o.1 hp).2.2.1)) HB.o
 by_cases h3 : nt = 0;rotate_left
 · go_wp2
   go_ret;refine Tells.of ⟨fun h => ?_, fun hp => absurd (HT.o.1 (HP.o.1 hp).2.2.2) h3⟩ HB.o;exfalso;simp at h;omega
 have HY : Hd P := HP.o.2 ⟨H1.o, HE.o, HL.o.2 h2, HT.o.2 h3⟩;go_wp2;go_ret;exact Tells.yes HY.o HB.o
theorem hasExpr_any (d : AN) (w : World) : Calls Tryz.prog 143 #[.agg d.ar] w (Tells (hasE d.k) w) := by
 try unfold AN.ar AN.cl
 obtain ⟨P, hP⟩ : ∃ P, P = hasE d.k := ⟨_, rfl⟩;have HP : Hd (P ↔ (d.k = 2 ∨ d.k = 5 ∨ d.k = 6)) := (show (P ↔ _) by rw [hP]; exact Iff.rfl);rw [← hP];clear hP;by_cases h2 : d.k = 2
 · have HY : Hd P := HP.o.2 (by omega)
   go_enter Tryz.func143, Tryz.ntmps143;go_wp2;go_ret;exact Tells.yes HY.o (bl_a _)
 by_cases h5 : d.k = 5
 · have HY : Hd P := HP.o.2 (by omega)
   go_enter Tryz.func143, Tryz.ntmps143;go_wp2;go_ret;exact Tells.yes HY.o (bl_a _)
 by_cases h6 : d.k = 6
 · have HY : Hd P := HP.o.2 (by omega)
   go_enter Tryz.func143, Tryz.ntmps143;go_wp2;go_ret;exact Tells.yes HY.o (bl_a _)
 have HN : Hd (¬ P) := fun hh => by have := HP.o.1 hh; omega
 go_enter Tryz.func143, Tryz.ntmps143;go_wp2;go_ret;refine Tells.of ⟨fun h => ?_, fun hp => absurd hp HN.o⟩ (bl_a _);exfalso;simp at h;omega
structure HasA (d : AN) : Prop where
 k0 : 0 ≤ d.k
 k7 : d.k ≤ 7
 n : d.n = kidsA d.k
 p0 : d.k ≠ 0 → d.pn = 0
 pn : d.pn ≤ 120
 t0 : d.k ≠ 7 → d.tb = []
 tn : d.tb.length ≤ 8
 e0 : ¬ hasE d.k → zeroE d.e
 v1 : hasV d.k → nameOk d.v.b = true
 v0 : ¬ hasV d.k → d.v.b = []
 pt : ∀ i, i < d.pn → ptOk (d.pat i)
 tm : ∀ x ∈ d.tb, x.td.ok = true
theorem HasA.node : NodeA d ↔ HasA d ∧ (hasE d.k → eOk 120 d.e 1) :=
 ⟨fun h => ⟨⟨h.k0, h.k7, h.n, h.p0, h.pn, h.t0, h.tn, h.e0, h.v1, h.v0, h.pt, h.tm⟩, h.e1⟩, fun h => ⟨h.1.k0, h.1.k7, h.1.n, h.1.p0, h.1.pn, h.1.t0, h.1.tn, h.2, h.1.e0, h.1.v1, h.1.v0, h.1.pt, h.1.tm⟩⟩
theorem tb_all : (∀ i, i < l.length → (tbG l i).td.ok = true) ↔ ∀ x ∈ l, x.td.ok = true := by
 constructor
 · intro h x hx
   obtain ⟨i, hi, rfl⟩ := List.getElem_of_mem hx;have := h i hi;rwa [(tbG_at hi).1] at this
 intro h i hi;rw [(tbG_at hi).1];exact h _ (tbG_at hi).2
theorem tb_lies {a : Option Addr} (h : TRowF 0 w a l) : ∀ i, i < l.length → BsF 0 w (tbG l i).sl ∧ (tbG l i).t.fits := fun i hi => by
 rw [(tbG_at hi).1]
 exact h.2.2 _ (tbG_at hi).2
end Go.Proofs.YtoloadogihbdeaaGreat
