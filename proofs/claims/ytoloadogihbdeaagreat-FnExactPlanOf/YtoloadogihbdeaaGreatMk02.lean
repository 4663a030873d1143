import Derived.Test.YtoloadogihbdeaaGreatMk01
namespace Go.Proofs.YtoloadogihbdeaaGreat
open Go.RowKit Go.Deep
set_option maxHeartbeats 40000000
set_option maxRecDepth 100000
variable {a a' : Act} {p : Addr} {listed : Array Bool} {ops : Array Oper} {Q : Exit → Act → World → Prop} {fuel g : Nat} {oi : Oper} {P : Program} {md : Region.Mode} {v : Value} {w w' : World} {S : World → Prop}
theorem takeq {i : Nat} (d : Nat) (hi : ops[i]? = some oi) (hd : oi.dst = some d)
 (hs : Region.noSelect ops = true) (hf : Region.free md ops listed i = true) (hr : (Region.ready md ops listed).contains i = true)
 (hQ : ∀ c a w, Q (.panic c) (a.put (some d) v) w → Q (.panic c) a w) (hy : YieldsIf P ops S oi v a) (hS : S w)
 (h : wpAnyH P md ops Q S fuel (listed.setIfInBounds i true) (a.put (some d) v) w) : wpAnyH P md ops Q S (fuel + 1) listed a w :=
 wpAnyH_take hi hs hf hr (by rw [hd]; exact hQ) hy hS (by rw [hd]; exact h)
theorem tkA (i d : Nat) (hy : ∀ w, S w → (execOp a.eval oi).run P w = .ok (.value v) w)
  (h : wpAnyH P md ops Q S fuel (listed.setIfInBounds i true) (a.put (some d) v) w) (hS : S w := by assumption) (hi : ops[i]? = some oi := by rfl) (hd : oi.dst = some d := by rfl) (hk : (Region.noSelect ops && (Region.free md ops listed i && (Region.ready md ops listed).contains i)) = true := by kernel_rfl)
  (hQ : ∀ c a w, Q (.panic c) (a.put (some d) v) w → Q (.panic c) a w := by exact fun _ _ _ h => h) (hg : Region.wanted oi (yielded ops a.tmps) = true := by rfl) : wpAnyH P md ops Q S (fuel + 1) listed a w := by
  simp only [Bool.and_eq_true] at hk
  exact takeq d hi hd hk.1 hk.2.1 hk.2.2 hQ (Or.inl ⟨hg, hy⟩) hS h
theorem tkB (i d : Nat) {v : Value} {a : Act}
  (h : wpAnyH P md ops Q S fuel (listed.setIfInBounds i true) a' w) (hS : S w := by assumption) (hi : ops[i]? = some oi := by rfl) (hd : oi.dst = some d := by rfl) (hk : (Region.noSelect ops && (Region.free md ops listed i && (Region.ready md ops listed).contains i)) = true := by kernel_rfl)
  (hQ : ∀ c a w, Q (.panic c) (a.put (some d) v) w → Q (.panic c) a w := by exact fun _ _ _ h => h) (hg : Region.wanted oi (yielded ops a.tmps) = true := by rfl) (hy : ∀ w, S w → (execOp a.eval oi).run P w = .ok (.value v) w := by intro w' hSw; go_simp; (try with_reducible rfl)) (ha : a.put (some d) v = a' := by (try simp only [Act.put, sA, zA, cA]); rfl) : wpAnyH P md ops Q S (fuel + 1) listed a w := by
  simp only [Bool.and_eq_true] at hk
  exact takeq d hi hd hk.1 hk.2.1 hk.2.2 hQ (Or.inl ⟨hg, hy⟩) hS (ha ▸ h)
theorem rdA (i : Nat) {o : Oper}
  (h : ∀ K' : Act → World → Prop, Shut (∀ a w, S w → (S w → wpAnyH P md ops Q S fuel (listed.setIfInBounds i true) a w) → K' a w) → if Region.wanted o (yielded ops a.tmps) = true then Oper.wp P o a w K' Q else K' (a.put o.dst undef) w)
  (hr : Region.ready md ops listed = [i] := by kernel_rfl) (ho : ops[i]? = some o := by rfl) : wpAnyH P md ops Q S (fuel + 1) listed a w := wpAnyH_ready hr (by simp) (AllReadyH.cons ho h AllReadyH.nil)
theorem tkU (i d : Nat) {a : Act}
  (h : wpAnyH P md ops Q S fuel (listed.setIfInBounds i true) a' w) (hS : S w := by assumption) (hi : ops[i]? = some oi := by rfl) (hd : oi.dst = some d := by rfl) (hk : (Region.noSelect ops && (Region.free md ops listed i && (Region.ready md ops listed).contains i)) = true := by kernel_rfl)
  (hQ : ∀ c a w, Q (.panic c) (a.put (some d) undef) w → Q (.panic c) a w := by exact fun _ _ _ h => h) (hg : Region.wanted oi (yielded ops a.tmps) = false := by rfl) (ha : a.put (some d) undef = a' := by (try simp only [Act.put, sA, zA, cA]); rfl) : wpAnyH P md ops Q S (fuel + 1) listed a w := by
  simp only [Bool.and_eq_true] at hk
  exact takeq d hi hd hk.1 hk.2.1 hk.2.2 hQ (Or.inr ⟨hg, rfl⟩) hS (ha ▸ h)
theorem rhK {l : Array Bool} {K : Act → World → Prop} (hK : Shut (∀ a w, S w → (S w → wpAnyH P md ops Q S fuel l a w) → K a w)) (hS : S w) (h : S w → wpAnyH P md ops Q S fuel l a' w) (ha : a = a' := by (try simp only [Act.put, sA, zA, cA]); rfl) : K a w := by
  subst ha
  exact hK.out _ w hS h
theorem whd (S : World → Prop) {id : Nat} (hS : S w.drew) (h : S w.drew → wpAnyH P .any ops Q S ops.size (Array.replicate ops.size false) a w.drew) (hm : P.follows .mixedOrders = true := by kernel_rfl) : (Code.region id ops true).wp P Q a w := wp_region_held_drew hm hS h
def Yes (w : World) (e : Ending) (w' : World) : Prop := e = .returned (.bool true) ∧ Bl w w'
theorem eqByteS_same (x y : SL) (w : World) (hx : BsF 0 w x) (hy : BsF 0 w y) (h : x.b = y.b) : Calls Tryz.prog 42 #[.slice x.a x.len x.cap, .slice y.a y.len y.cap] w (Yes w) := by
 refine (eqByteS_any x.a y.a _ _ _ _ x.b y.b w hx.1 hy.1).mono ?_;rintro e w' ⟨rfl, q, rfl⟩;exact ⟨by rw [h]; simp, below_drewN brf _⟩
theorem eqTerm_same (x y : TB) (w : World) (hx : BsF 0 w x.sl) (hy : BsF 0 w y.sl) (h : x.td = y.td) : Calls Tryz.prog 96 #[.agg #[.int .i64 x.t.k, .slice x.t.a x.t.len x.t.cap, .int .i64 x.t.n, .int .i64 x.t.s], .agg #[.int .i64 y.t.k, .slice y.t.a y.t.len y.t.cap, .int .i64 y.t.n, .int .i64 y.t.s]] w (Yes w) := by
 refine (eqTerm_any _ _ _ _ _ _ _ _ _ _ _ _ x.b y.b w hx.1 hy.1).mono ?_;rintro e w' ⟨rfl, hb⟩;simp only [TB.td, TD.mk.injEq] at h;exact ⟨by simp [h], hb⟩
theorem eqItem_same (x y : IB) (w : World) (hx : x.lies 0 w) (hy : y.lies 0 w) (h : x.same y) : Calls Tryz.prog 95 #[.agg x.ar, .agg y.ar] w (Yes w) := by
 have HZ1 := iH (fun (W : World) (hb : Below _ w W) => eqByteS_same x.v y.v W (hx.1.upper (uB hb)) (hy.1.upper (uB hb)) h.1);have HZ2 := iH (fun (W : World) (hb : Below _ w W) => eqTerm_same x.t y.t W (hx.2.1.upper (uB hb)) (hy.2.1.upper (uB hb)) h.2);clear hx hy h;go_in;have Z1 := HZ1.o;go_wp2_with fail
 refine (Z1 _ (bl_alloc (bl_a _) _)).mono ?_;rintro e w1 ⟨rfl, hb1⟩;have HX1 := iH (((Box.new w _ 37 _).below (bl_a _)).below hb1);have HY1 := iH (show Box _ _ _ by have h := (Box.new _ _ 37 _).below hb1; simpa using h);have HB1 := iH (bl_trans (bl_alloc (bl_a _) _) hb1);clear hb1 Z1 HZ1;have la : w1.rangeAt w.heap.size 1 [.int .i64 x.t.t.k, .slice x.t.t.a x.t.t.len x.t.t.cap, .int .i64 x.t.t.n, .int .i64 x.t.t.s] := HX1.o.range 1 _ rfl;have lb : w1.rangeAt (w.heap.size + 1) 1 [.int .i64 y.t.t.k, .slice y.t.t.a y.t.t.len y.t.t.cap, .int .i64 y.t.t.n, .int .i64 y.t.t.s] := HY1.o.range 1 _ rfl;have Z2 := HZ2.o;go_wp2_with (first | (refine ldn Tryz.underlying35 la ?_) | (refine ldn Tryz.underlying35 lb ?_))
 refine (Z2 _ HB1.o).mono ?_;rintro e w2 ⟨rfl, hb2⟩;have HX2 := iH (HX1.o.below hb2);have HY2 := iH (HY1.o.below hb2);have HB2 := iH (bl_trans HB1.o hb2);clear hb2 Z2 HZ2 HX1 HY1 HB1 la lb;go_wp2;go_ret;exact ⟨rfl, HB2.o⟩
theorem eqPat_same (x y : PB) (w : World) (hx : x.lies 0 w) (hy : y.lies 0 w) (h : x.same y) : Calls Tryz.prog 40 #[.agg x.ar, .agg y.ar] w (Yes w) := by
 have HZ1 := iH (fun (W : World) (hb : Below _ w W) => eqItem_same x.s y.s W (hx.1.upper (uB hb)) (hy.1.upper (uB hb)) h.1);have HZ2 := iH (fun (W : World) (hb : Below _ w W) => eqItem_same x.p y.p W (hx.2.1.upper (uB hb)) (hy.2.1.upper (uB hb)) h.2.1);have HZ3 := iH (fun (W : World) (hb : Below _ w W) => eqItem_same x.o y.o W (hx.2.2.upper (uB hb)) (hy.2.2.upper (uB hb)) h.2.2);clear hx hy h;go_in;have Z1 := HZ1.o;go_wp2_with fail
 refine (Z1 _ (bl_alloc (bl_a _) _)).mono ?_;rintro e w1 ⟨rfl, hb1⟩;have HX1 := iH (((Box.new w _ 39 _).below (bl_a _)).below hb1);have HY1 := iH (show Box _ _ _ by have h := (Box.new _ _ 39 _).below hb1; simpa using h);have HB1 := iH (bl_trans (bl_alloc (bl_a _) _) hb1);clear hb1 Z1 HZ1;have la : w1.rangeAt w.heap.size 5 x.p.cl := HX1.o.range 5 _ rfl;have lb : w1.rangeAt (w.heap.size + 1) 5 y.p.cl := HY1.o.range 5 _ rfl;have Z2 := HZ2.o;go_wp2_with (first | (refine ldn Tryz.underlying37 la ?_) | (refine ldn Tryz.underlying37 lb ?_))
 refine (Z2 _ HB1.o).mono ?_;rintro e w2 ⟨rfl, hb2⟩;have HX2 := iH (HX1.o.below hb2);have HY2 := iH (HY1.o.below hb2);have HB2 := iH (bl_trans HB1.o hb2);clear hb2 Z2 HZ2 HX1 HY1 HB1 la lb;have la : w2.rangeAt w.heap.size 10 x.o.cl := HX2.o.range 10 _ rfl;have lb : w2.rangeAt (w.heap.size + 1) 10 y.o.cl := HY2.o.range 10 _ rfl;have Z3 := HZ3.o;go_wp2_with (first | (refine ldn Tryz.underlying37 la ?_) | (refine ldn Tryz.underlying37 lb ?_))
 refine (Z3 _ HB2.o).mono ?_;rintro e w3 ⟨rfl, hb3⟩;have HX3 := iH (HX2.o.below hb3);have HY3 := iH (HY2.o.below hb3);have HB3 := iH (bl_trans HB2.o hb3);clear hb3 Z3 HZ3 HX2 HY2 HB2 la lb;go_wp2;go_ret;exact ⟨rfl, HB3.o⟩
theorem eqPatS_of (a a' : Option Addr) (cap cap' n : Nat) (x y : Nat → PB) (w : World) (hn : n ≤ 1048576) (hR : KRow 0 w 15 a n (fun i => (x i).cells)) (hR' : KRow 0 w 15 a' n (fun i => (y i).cells))
 (IH : ∀ i, i < n → ∀ (W : World), Bl w W → Calls Tryz.prog 40 #[.agg (x i).ar, .agg (y i).ar] W (Yes W)) :
 Calls Tryz.prog 45 #[.slice a n cap, .slice a' n cap'] w (Yes w) := by
 try unfold PB.ar PB.cl
 by_cases hn0 : n = 0
 · subst hn0
   clear hR hR' IH hn;go_enter Tryz.func45, Tryz.ntmps45;go_wp2;refine wl1 ?_;go_wp2;go_ret;exact ⟨rfl, Below.refl _ _⟩
 obtain ⟨b, off, rfl, _, hlt, hc⟩ := hR.resolve_left hn0;obtain ⟨b', off', rfl, _, hlt', hc'⟩ := hR'.resolve_left hn0;have HC : Hd (∀ i, i < n → ∀ c u, ((x i).cells)[c]? = some u → w.cell? ⟨b, off + i * 15 + c, none⟩ = some u) := hc;have HC' : Hd (∀ i, i < n → ∀ c u, ((y i).cells)[c]? = some u → w.cell? ⟨b', off' + i * 15 + c, none⟩ = some u) := hc';have HI : Hd (∀ i, i < n → ∀ (W : World), Bl w W → Cl 40 #[.agg (x i).ar, .agg (y i).ar] W (Yes W)) := IH;clear hR hR' hc hc' IH;go_enter Tryz.func45, Tryz.ntmps45;go_wp2;go_loopw [5] (fun i wr => ∃ k : Nat, k ≤ n ∧ i = .int .i64 k ∧ Hd (Bl w wr)) (fun i _ => n - (intOf i).toNat)
 case atStart => exact ⟨0, nZ, rfl, Below.refl _ _⟩
 obtain ⟨k, hk, rfl, HB⟩ := hrel;by_cases hlk : k < n
 · have hlkz : (k : Int) < (n : Int) := by omega
   have HRX : Hd (∀ w', Bl wr w' → w'.rangeAt b (off + k * 15) (x k).cl) := fun w' hw c u hu => ((bl_trans HB.o hw).cell (p := ⟨b, off + k * 15 + c, none⟩) hlt).trans (HC.o k hlk c u hu);have HRY : Hd (∀ w', Bl wr w' → w'.rangeAt b' (off' + k * 15) (y k).cl) := fun w' hw c u hu => ((bl_trans HB.o hw).cell (p := ⟨b', off' + k * 15 + c, none⟩) hlt').trans (HC'.o k hlk c u hu);have Z := HI.o k hlk wr.drew (bl_trans HB.o bdr);go_wp2_with fail
   refine whd (fun w' => Bl wr w') ?_ fun hHeld => ?_
   · exact Below.drew brf
   refine tkB 0 17 ?_;refine tkB 1 18 ?_;refine tkB 2 19 ?_;refine takeq (i := 3) 20 (v := .agg (x k).ar) rfl rfl (by kernel_rfl) (by kernel_rfl) (by kernel_rfl) (fun _ _ _ h => h) (yieldsIf_load_mid (by rfl) 39 _ rfl b (off + k * 15) rfl (x k).cl _ HRX.o Tryz.underlying39 rfl (by kernel_rfl)) hHeld ?_;refine tkB 4 21 ?_;refine tkB 5 22 ?_;refine tkB 6 23 ?_;refine takeq (i := 7) 24 (v := .agg (y k).ar) rfl rfl (by kernel_rfl) (by kernel_rfl) (by kernel_rfl) (fun _ _ _ h => h) (yieldsIf_load_mid (by rfl) 39 _ rfl b' (off' + k * 15) rfl (y k).cl _ HRY.o Tryz.underlying39 rfl (by kernel_rfl)) hHeld ?_;try simp only [Act.put, sA, zA, cA]
   refine rdA 8 fun K hK => ?_;go_simp;refine Z.mono ?_;rintro e w2 ⟨rfl, hb2⟩;have HB2 : Hd (Bl wr w2) := bdr.trans hb2;clear hb2;go_wp2_with fail
   refine hK.out _ _ ?_ fun hHeld => ?_
   · exact HB2.o
   clear hK K;refine tkB 9 26 ?_;refine wpAnyH_done (by kernel_rfl) ?_ _;have HBq : Hd (Bl w w2) := bl_trans HB.o HB2.o;clear hHeld HRX HRY Z HB HB2;go_wp2;go_roundw
   case rel => exact ⟨k + 1, by omega, by go_num, HBq⟩
   case measure => simp [intOf]; omega
 obtain rfl : k = n := by omega
 have hlkz : ¬ (k : Int) < (k : Int) := by omega
 go_wp2;go_ret;exact ⟨rfl, HB.o⟩
theorem eqExprS_of (a a' : Option Addr) (cap cap' n : Nat) (x y : Nat → ET) (w : World) (hn : n ≤ 1048576) (hR : KRow 0 w 8 a n (fun i => (x i).d.cells)) (hR' : KRow 0 w 8 a' n (fun i => (y i).d.cells))
 (IH : ∀ i, i < n → ∀ (W : World), Bl w W → Calls Tryz.prog 41 #[.agg (x i).d.ar, .agg (y i).d.ar] W (Yes W)) :
 Calls Tryz.prog 97 #[.slice a n cap, .slice a' n cap'] w (Yes w) := by
 try unfold EN.ar EN.cl
 by_cases hn0 : n = 0
 · subst hn0
   clear hR hR' IH hn;go_in;go_wp2;refine wl1 ?_;go_wp2;go_ret;exact ⟨rfl, Below.refl _ _⟩
 obtain ⟨b, off, rfl, _, hlt, hc⟩ := hR.resolve_left hn0;obtain ⟨b', off', rfl, _, hlt', hc'⟩ := hR'.resolve_left hn0;have HC := iH hc;have HC' : Hd (∀ i, i < n → ∀ c u, ((y i).d.cells)[c]? = some u → w.cell? ⟨b', off' + i * 8 + c, none⟩ = some u) := hc';have HI := iH IH;clear hR hR' hc hc' IH;go_in;go_wp2;go_loopw [5] (fun i wr => ∃ k : Nat, k ≤ n ∧ i = .int .i64 k ∧ Hd (Bl w wr)) (fun i _ => n - (intOf i).toNat)
 case atStart => exact ⟨0, nZ, rfl, Below.refl _ _⟩
 obtain ⟨k, hk, rfl, HB⟩ := hrel;by_cases hlk : k < n
 · have hlkz : (k : Int) < (n : Int) := by omega
   have HRX : Hd (∀ w', Bl wr w' → w'.rangeAt b (off + k * 8) (x k).d.cl) := fun w' hw c u hu => ((bl_trans HB.o hw).cell (p := ⟨b, off + k * 8 + c, none⟩) hlt).trans (HC.o k hlk c u hu);have HRY : Hd (∀ w', Bl wr w' → w'.rangeAt b' (off' + k * 8) (y k).d.cl) := fun w' hw c u hu => ((bl_trans HB.o hw).cell (p := ⟨b', off' + k * 8 + c, none⟩) hlt').trans (HC'.o k hlk c u hu);have Z := HI.o k hlk wr.drew (bl_trans HB.o bdr);go_wp2_with fail
   refine whd (fun w' => Bl wr w') ?_ fun hHeld => ?_
   · exact Below.drew brf
   refine tkB 0 17 ?_;refine tkB 1 18 ?_;refine tkB 2 19 ?_;refine takeq (i := 3) 20 (v := .agg _) rfl rfl (by kernel_rfl) (by kernel_rfl) (by kernel_rfl) (fun _ _ _ h => h) (yieldsIf_load_mid (by rfl) 42 _ rfl b _ rfl _ _ HRX.o Tryz.underlying42 rfl (by kernel_rfl)) hHeld ?_;refine tkB 4 21 ?_;refine tkB 5 22 ?_;refine tkB 6 23 ?_;refine takeq (i := 7) 24 (v := .agg _) rfl rfl (by kernel_rfl) (by kernel_rfl) (by kernel_rfl) (fun _ _ _ h => h) (yieldsIf_load_mid (by rfl) 42 _ rfl b' _ rfl _ _ HRY.o Tryz.underlying42 rfl (by kernel_rfl)) hHeld ?_;try simp only [Act.put, sA, zA, cA]
   refine rdA 8 fun K hK => ?_;go_simp;refine Z.mono ?_;rintro e w2 ⟨rfl, hb2⟩;have HB2 : Hd (Bl wr w2) := bdr.trans hb2;clear hb2;go_wp2_with fail
   refine hK.out _ _ ?_ fun hHeld => ?_
   · exact HB2.o
   clear hK K;refine tkB 9 26 ?_;refine wpAnyH_done (by kernel_rfl) ?_ _;have HBq := iH (bl_trans HB.o HB2.o);clear hHeld HRX HRY Z HB HB2;go_wp2;go_roundw
   case rel => exact ⟨k + 1, by omega, by go_num, HBq⟩
   case measure => simp [intOf]; omega
 obtain rfl : k = n := by omega
 have hlkz : ¬ (k : Int) < (k : Int) := by omega
 go_wp2;go_ret;exact ⟨rfl, HB.o⟩
theorem eqTermS_of (a a' : Option Addr) (cap cap' n : Nat) (x y : Nat → TB) (w : World) (hn : n ≤ 1048576) (hR : KRow 0 w 4 a n (fun i => enc4 (x i).t)) (hR' : KRow 0 w 4 a' n (fun i => enc4 (y i).t))
 (IH : ∀ i, i < n → ∀ (W : World), Bl w W → Calls Tryz.prog 96 #[.agg #[.int .i64 (x i).t.k, .slice (x i).t.a (x i).t.len (x i).t.cap, .int .i64 (x i).t.n, .int .i64 (x i).t.s], .agg #[.int .i64 (y i).t.k, .slice (y i).t.a (y i).t.len (y i).t.cap, .int .i64 (y i).t.n, .int .i64 (y i).t.s]] W (Yes W)) :
 Calls Tryz.prog 43 #[.slice a n cap, .slice a' n cap'] w (Yes w) := by
 by_cases hn0 : n = 0
 · subst hn0
   clear hR hR' IH hn;go_in;go_wp2;refine wl1 ?_;go_wp2;go_ret;exact ⟨rfl, Below.refl _ _⟩
 obtain ⟨b, off, rfl, _, hlt, hc⟩ := hR.resolve_left hn0;obtain ⟨b', off', rfl, _, hlt', hc'⟩ := hR'.resolve_left hn0;have HC := iH hc;have HC' : Hd (∀ i, i < n → ∀ c u, (enc4 (y i).t)[c]? = some u → w.cell? ⟨b', off' + i * 4 + c, none⟩ = some u) := hc';have HI := iH IH;clear hR hR' hc hc' IH;go_in;go_wp2;go_loopw [5] (fun i wr => ∃ k : Nat, k ≤ n ∧ i = .int .i64 k ∧ Hd (Bl w wr)) (fun i _ => n - (intOf i).toNat)
 case atStart => exact ⟨0, nZ, rfl, Below.refl _ _⟩
 obtain ⟨k, hk, rfl, HB⟩ := hrel;by_cases hlk : k < n
 · have hlkz : (k : Int) < (n : Int) := by omega
   have HRX : Hd (∀ w', Bl wr w' → w'.rangeAt b (off + k * 4) [.int .i64 (x k).t.k, .slice (x k).t.a (x k).t.len (x k).t.cap, .int .i64 (x k).t.n, .int .i64 (x k).t.s]) := fun w' hw c u hu => ((bl_trans HB.o hw).cell (p := ⟨b, off + k * 4 + c, none⟩) hlt).trans (HC.o k hlk c u hu);have HRY : Hd (∀ w', Bl wr w' → w'.rangeAt b' (off' + k * 4) [.int .i64 (y k).t.k, .slice (y k).t.a (y k).t.len (y k).t.cap, .int .i64 (y k).t.n, .int .i64 (y k).t.s]) := fun w' hw c u hu => ((bl_trans HB.o hw).cell (p := ⟨b', off' + k * 4 + c, none⟩) hlt').trans (HC'.o k hlk c u hu);have Z := HI.o k hlk wr.drew (bl_trans HB.o bdr);go_wp2_with fail
   refine whd (fun w' => Bl wr w') ?_ fun hHeld => ?_
   · exact Below.drew brf
   refine tkB 0 17 ?_;refine tkB 1 18 ?_;refine tkB 2 19 ?_;refine takeq (i := 3) 20 (v := .agg _) rfl rfl (by kernel_rfl) (by kernel_rfl) (by kernel_rfl) (fun _ _ _ h => h) (yieldsIf_load_mid (by rfl) 35 _ rfl b _ rfl _ _ HRX.o Tryz.underlying35 rfl (by kernel_rfl)) hHeld ?_;refine tkB 4 21 ?_;refine tkB 5 22 ?_;refine tkB 6 23 ?_;refine takeq (i := 7) 24 (v := .agg _) rfl rfl (by kernel_rfl) (by kernel_rfl) (by kernel_rfl) (fun _ _ _ h => h) (yieldsIf_load_mid (by rfl) 35 _ rfl b' _ rfl _ _ HRY.o Tryz.underlying35 rfl (by kernel_rfl)) hHeld ?_;try simp only [Act.put, sA, zA, cA]
   refine rdA 8 fun K hK => ?_;go_simp;refine Z.mono ?_;rintro e w2 ⟨rfl, hb2⟩;have HB2 : Hd (Bl wr w2) := bdr.trans hb2;clear hb2;go_wp2_with fail
   refine hK.out _ _ ?_ fun hHeld => ?_
   · exact HB2.o
   clear hK K;refine tkB 9 26 ?_;refine wpAnyH_done (by kernel_rfl) ?_ _;have HBq := iH (bl_trans HB.o HB2.o);clear hHeld HRX HRY Z HB HB2;go_wp2;go_roundw
   case rel => exact ⟨k + 1, by omega, by go_num, HBq⟩
   case measure => simp [intOf]; omega
 obtain rfl : k = n := by omega
 have hlkz : ¬ (k : Int) < (k : Int) := by omega
 go_wp2;go_ret;exact ⟨rfl, HB.o⟩
theorem eqTermS_same (a a' : Option Addr) (cap cap' : Nat) (l l' : List TB) (w : World) (hn : l.length ≤ 1048576) (h : TRowF 0 w a l) (h' : TRowF 0 w a' l') (he : l.map TB.td = l'.map TB.td) :
 Calls Tryz.prog 43 #[.slice a l.length cap, .slice a' l'.length cap'] w (Yes w) := by
 have hl : l'.length = l.length := by have := congrArg List.length he; simpa using this.symm
 have h2 := trow_krow h';rw [hl] at h2 ⊢;refine eqTermS_of a a' cap _ _ _ _ w hn (trow_krow h) h2 fun i hi W hW => ?_;have m1 := tbG_at hi;have m2 := tbG_at (l := l') (i := i) (by omega);refine eqTerm_same (tbG l i) (tbG l' i) W ?_ ?_ ?_
 · rw [m1.1]
   exact (h.2.2 _ m1.2).1.upper (uB hW)
 · rw [m2.1]
   exact (h'.2.2 _ m2.2).1.upper (uB hW)
 rw [m1.1, m2.1];have e1 : (l.map TB.td)[i]? = (l'.map TB.td)[i]? := by rw [he]
 rw [List.getElem?_map, List.getElem?_map, List.getElem?_eq_getElem hi, List.getElem?_eq_getElem (by omega)] at e1;exact Option.some.inj e1
theorem eqExpr_same (e : ET) : ∀ (e' : ET) (w : World), e.lies 0 w → e'.lies 0 w → e.same e' → Calls Tryz.prog 41 #[.agg e.d.ar, .agg e'.d.ar] w (Yes w) := by
 try unfold EN.ar EN.cl
 induction e with
 | nil => exact fun _ _ h => False.elim h
 | mk d kid ih =>
  intro e' w hx hy h;cases e' with
  | nil => exact False.elim hy
  | mk d' kid' =>
  show Calls Tryz.prog 41 #[.agg d.ar, .agg d'.ar] w (Yes w);obtain ⟨hv, ht, _, hn, hR, hk⟩ := hx;obtain ⟨hv', ht', _, _, hR', hk'⟩ := hy;obtain ⟨e0, e1, ev, et, en, ek⟩ := h;have HZ1 := iH (fun (W : World) (hb : Below _ w W) => eqByteS_same d.v _ W (hv.upper (uB hb)) (hv'.upper (uB hb)) ev);have HZ2 := iH (fun (W : World) (hb : Below _ w W) => eqTerm_same d.t _ W (ht.upper (uB hb)) (ht'.upper (uB hb)) et);have HZ3 : Hd (∀ (W : World), Bl w W → Cl 97 #[.slice d.ka d.n d.kc, .slice d'.ka d'.n d'.kc] W (Yes W)) := fun W hb => by
   rw [← en] at hR' ⊢;exact eqExprS_of _ _ _ _ d.n kid _ W hn (hR.upper (uB hb)) (hR'.upper (uB hb)) fun i hi W' hW => ih i _ W' (ET.lies.upper (uB (bl_trans hb hW)) (hk i hi)) (ET.lies.upper (uB (bl_trans hb hW)) (hk' i (by rw [← en]; exact hi))) (ek i hi)
  have k0 : (d.k == d'.k) = true := by simp [e0]
  have k1 : (d.op == d'.op) = true := by simp [e1]
  clear hv ht hn hR hk hv' ht' hR' hk' e0 e1 ev et en ek ih;go_in;have Z1 := HZ1.o;go_wp2_with fail
  refine (Z1 _ (bl_alloc (bl_a _) _)).mono ?_;rintro e w1 ⟨rfl, hb1⟩;have HX1 := iH (((Box.new w _ 42 _).below (bl_a _)).below hb1);have HY1 := iH (show Box _ _ _ by have h := (Box.new _ _ 42 _).below hb1; simpa using h);have HB1 := iH (bl_trans (bl_alloc (bl_a _) _) hb1);clear hb1 Z1 HZ1;have la : w1.rangeAt w.heap.size 3 [.int .i64 d.t.t.k, .slice d.t.t.a d.t.t.len d.t.t.cap, .int .i64 d.t.t.n, .int .i64 d.t.t.s] := HX1.o.range 3 _ rfl;have lb : w1.rangeAt (w.heap.size + 1) 3 [.int .i64 d'.t.t.k, .slice d'.t.t.a d'.t.t.len d'.t.t.cap, .int .i64 d'.t.t.n, .int .i64 d'.t.t.s] := HY1.o.range 3 _ rfl;have Z2 := HZ2.o;go_wp2_with (first | (refine ldn Tryz.underlying35 la ?_) | (refine ldn Tryz.underlying35 lb ?_))
  refine (Z2 _ HB1.o).mono ?_;rintro e w2 ⟨rfl, hb2⟩;have HX2 := iH (HX1.o.below hb2);have HY2 := iH (HY1.o.below hb2);have HB2 := iH (bl_trans HB1.o hb2);clear hb2 Z2 HZ2 HX1 HY1 HB1 la lb;have la := HX2.o.2 7 _ rfl;have lb := HY2.o.2 7 _ rfl;have Z3 := HZ3.o;go_wp2_with fail
  refine (Z3 _ HB2.o).mono ?_;rintro e w3 ⟨rfl, hb3⟩;have HX3 := iH (HX2.o.below hb3);have HY3 := iH (HY2.o.below hb3);have HB3 := iH (bl_trans HB2.o hb3);clear hb3 Z3 HZ3 HX2 HY2 HB2 la lb;go_wp2;go_ret;exact ⟨rfl, HB3.o⟩
theorem eqAlgS_of (a a' : Option Addr) (cap cap' n : Nat) (x y : Nat → AT) (w : World) (hn : n ≤ 1048576) (hR : KRow 0 w 13 a n (fun i => (x i).d.cells)) (hR' : KRow 0 w 13 a' n (fun i => (y i).d.cells))
 (IH : ∀ i, i < n → ∀ (W : World), Bl w W → Calls Tryz.prog 11 #[.agg (x i).d.ar, .agg (y i).d.ar] W (Yes W)) :
 Calls Tryz.prog 46 #[.slice a n cap, .slice a' n cap'] w (Yes w) := by
 try unfold AN.ar AN.cl
 by_cases hn0 : n = 0
 · subst hn0
   clear hR hR' IH hn;go_enter Tryz.func46, Tryz.ntmps46;go_wp2;refine wl1 ?_;go_wp2;go_ret;exact ⟨rfl, Below.refl _ _⟩
 obtain ⟨b, off, rfl, _, hlt, hc⟩ := hR.resolve_left hn0;obtain ⟨b', off', rfl, _, hlt', hc'⟩ := hR'.resolve_left hn0;have HC : Hd (∀ i, i < n → ∀ c u, ((x i).d.cells)[c]? = some u → w.cell? ⟨b, off + i * 13 + c, none⟩ = some u) := hc;have HC' : Hd (∀ i, i < n → ∀ c u, ((y i).d.cells)[c]? = some u → w.cell? ⟨b', off' + i * 13 + c, none⟩ = some u) := hc';have HI : Hd (∀ i, i < n → ∀ (W : World), Bl w W → Cl 11 #[.agg (x i).d.ar, .agg (y i).d.ar] W (Yes W)) := IH;clear hR hR' hc hc' IH;go_enter Tryz.func46, Tryz.ntmps46;go_wp2;go_loopw [5] (fun i wr => ∃ k : Nat, k ≤ n ∧ i = .int .i64 k ∧ Hd (Bl w wr)) (fun i _ => n - (intOf i).toNat)
 case atStart => exact ⟨0, nZ, rfl, Below.refl _ _⟩
 obtain ⟨k, hk, rfl, HB⟩ := hrel;by_cases hlk : k < n
 · have hlkz : (k : Int) < (n : Int) := by omega
   have HRX : Hd (∀ w', Bl wr w' → w'.rangeAt b (off + k * 13) (x k).d.cl) := fun w' hw c u hu => ((bl_trans HB.o hw).cell (p := ⟨b, off + k * 13 + c, none⟩) hlt).trans (HC.o k hlk c u hu);have HRY : Hd (∀ w', Bl wr w' → w'.rangeAt b' (off' + k * 13) (y k).d.cl) := fun w' hw c u hu => ((bl_trans HB.o hw).cell (p := ⟨b', off' + k * 13 + c, none⟩) hlt').trans (HC'.o k hlk c u hu);have Z := HI.o k hlk wr.drew (bl_trans HB.o bdr);go_wp2_with fail
   refine whd (fun w' => Bl wr w') ?_ fun hHeld => ?_
   · exact Below.drew brf
   refine tkB 0 17 ?_;refine tkB 1 18 ?_;refine tkB 2 19 ?_;refine takeq (i := 3) 20 (v := .agg (x k).d.ar) rfl rfl (by kernel_rfl) (by kernel_rfl) (by kernel_rfl) (fun _ _ _ h => h) (yieldsIf_load_mid (by rfl) 52 _ rfl b (off + k * 13) rfl (x k).d.cl _ HRX.o Tryz.underlying52 rfl (by kernel_rfl)) hHeld ?_;refine tkB 4 21 ?_;refine tkB 5 22 ?_;refine tkB 6 23 ?_;refine takeq (i := 7) 24 (v := .agg (y k).d.ar) rfl rfl (by kernel_rfl) (by kernel_rfl) (by kernel_rfl) (fun _ _ _ h => h) (yieldsIf_load_mid (by rfl) 52 _ rfl b' (off' + k * 13) rfl (y k).d.cl _ HRY.o Tryz.underlying52 rfl (by kernel_rfl)) hHeld ?_;try simp only [Act.put, sA, zA, cA]
   refine rdA 8 fun K hK => ?_;go_simp;refine Z.mono ?_;rintro e w2 ⟨rfl, hb2⟩;have HB2 : Hd (Bl wr w2) := bdr.trans hb2;clear hb2;go_wp2_with fail
   refine hK.out _ _ ?_ fun hHeld => ?_
   · exact HB2.o
   clear hK K;refine tkB 9 26 ?_;refine wpAnyH_done (by kernel_rfl) ?_ _;have HBq : Hd (Bl w w2) := bl_trans HB.o HB2.o;clear hHeld HRX HRY Z HB HB2;go_wp2;go_roundw
   case rel => exact ⟨k + 1, by omega, by go_num, HBq⟩
   case measure => simp [intOf]; omega
 obtain rfl : k = n := by omega
 have hlkz : ¬ (k : Int) < (k : Int) := by omega
 go_wp2;go_ret;exact ⟨rfl, HB.o⟩
theorem eqAlg_same (e : AT) : ∀ (e' : AT) (w : World), e.lies 0 w → e'.lies 0 w → e.same e' → Calls Tryz.prog 11 #[.agg e.d.ar, .agg e'.d.ar] w (Yes w) := by
 try unfold AN.ar AN.cl
 induction e with
 | nil => exact fun _ _ h => False.elim h
 | mk d kid ih =>
  intro e' w hx hy h;cases e' with
  | nil => exact False.elim hy
  | mk d' kid' =>
  show Calls Tryz.prog 11 #[.agg d.ar, .agg d'.ar] w (Yes w);obtain ⟨hp, hpl, hpn, he, hv, ht, htn, hn, hR, hk⟩ := hx;obtain ⟨hp', hpl', _, he', hv', ht', _, _, hR', hk'⟩ := hy;obtain ⟨e0, epn, ep, ee, ev, et, en, ek⟩ := h;have HZ1 : Hd (∀ (W : World), Bl w W → Cl 45 #[.slice d.pa d.pn d.pc, .slice d'.pa d'.pn d'.pc] W (Yes W)) := fun W hb => by
   rw [← epn] at hp' ⊢;exact eqPatS_of d.pa d'.pa d.pc d'.pc d.pn d.pat d'.pat W hpn (hp.upper (uB hb)) (hp'.upper (uB hb)) fun i hi W' hW => eqPat_same (d.pat i) (d'.pat i) W' ((hpl i hi).upper (uB (bl_trans hb hW))) ((hpl' i (by rw [← epn]; exact hi)).upper (uB (bl_trans hb hW))) (ep i hi)
  have HZ2 : Hd (∀ (W : World), Bl w W → Cl 41 #[.agg d.e.d.ar, .agg d'.e.d.ar] W (Yes W)) := fun W hb => eqExpr_same d.e d'.e W (ET.lies.upper (uB hb) he) (ET.lies.upper (uB hb) he') ee;have HZ3 : Hd (∀ (W : World), Bl w W → Cl 42 #[.slice d.v.a d.v.len d.v.cap, .slice d'.v.a d'.v.len d'.v.cap] W (Yes W)) := fun W hb => eqByteS_same d.v d'.v W (hv.upper (uB hb)) (hv'.upper (uB hb)) ev;have HZ4 : Hd (∀ (W : World), Bl w W → Cl 43 #[.slice d.ta d.tb.length d.tc, .slice d'.ta d'.tb.length d'.tc] W (Yes W)) := fun W hb => eqTermS_same d.ta d'.ta d.tc d'.tc d.tb d'.tb W htn (ht.upper (uB hb)) (ht'.upper (uB hb)) et;have HZ5 : Hd (∀ (W : World), Bl w W → Cl 46 #[.slice d.ka d.n d.kc, .slice d'.ka d'.n d'.kc] W (Yes W)) := fun W hb => by
   rw [← en] at hR' ⊢;exact eqAlgS_of d.ka d'.ka d.kc d'.kc d.n kid kid' W hn (hR.upper (uB hb)) (hR'.upper (uB hb)) fun i hi W' hW => ih i (kid' i) W' (AT.lies.upper (uB (bl_trans hb hW)) (hk i hi)) (AT.lies.upper (uB (bl_trans hb hW)) (hk' i (by rw [← en]; exact hi))) (ek i hi)
  have k0 : (d.k == d'.k) = true := by simp [e0]
  clear hp hpl hpn he hv ht htn hn hR hk hp' hpl' he' hv' ht' hR' hk' e0 epn ep ee ev et en ek ih;go_enter Tryz.func11, Tryz.ntmps11;have Z1 := HZ1.o;go_wp2_with fail
  refine (Z1 _ (bl_alloc (bl_a _) _)).mono ?_;rintro e w1 ⟨rfl, hb1⟩;have HX1 : Hd (Box w1 w.heap.size d.cl) := ((Box.new w d.ar 52 _).below (bl_a _)).below hb1;have HY1 : Hd (Box w1 (w.heap.size + 1) d'.cl) := (show Box _ _ _ by have h := (Box.new (w.alloc (.cells d.ar 52)) d'.ar 52 _).below hb1; simpa using h);have HB1 : Hd (Bl w w1) := bl_trans (bl_alloc (bl_a _) _) hb1;clear hb1 Z1 HZ1;have la : w1.rangeAt w.heap.size 2 d.e.d.cl := HX1.o.range 2 _ rfl;have lb : w1.rangeAt (w.heap.size + 1) 2 d'.e.d.cl := HY1.o.range 2 _ rfl;have Z2 := HZ2.o;go_wp2_with (first | (refine ldn Tryz.underlying42 la ?_) | (refine ldn Tryz.underlying42 lb ?_))
  refine (Z2 _ HB1.o).mono ?_;rintro e w2 ⟨rfl, hb2⟩;have HX2 : Hd (Box w2 w.heap.size d.cl) := HX1.o.below hb2;have HY2 : Hd (Box w2 (w.heap.size + 1) d'.cl) := HY1.o.below hb2;have HB2 : Hd (Bl w w2) := bl_trans HB1.o hb2;clear hb2 Z2 HZ2 HX1 HY1 HB1 la lb;have la := HX2.o.2 10 _ rfl;have lb := HY2.o.2 10 _ rfl;have Z3 := HZ3.o;go_wp2_with fail
  refine (Z3 _ HB2.o).mono ?_;rintro e w3 ⟨rfl, hb3⟩;have HX3 : Hd (Box w3 w.heap.size d.cl) := HX2.o.below hb3;have HY3 : Hd (Box w3 (w.heap.size + 1) d'.cl) := HY2.o.below hb3;have HB3 : Hd (Bl w w3) := bl_trans HB2.o hb3;clear hb3 Z3 HZ3 HX2 HY2 HB2 la lb;have la := HX3.o.2 11 _ rfl;have lb := HY3.o.2 11 _ rfl;have Z4 := HZ4.o;go_wp2_with fail
  refine (Z4 _ HB3.o).mono ?_;rintro e w4 ⟨rfl, hb4⟩;have HX4 : Hd (Box w4 w.heap.size d.cl) := HX3.o.below hb4;have HY4 : Hd (Box w4 (w.heap.size + 1) d'.cl) := HY3.o.below hb4;have HB4 : Hd (Bl w w4) := bl_trans HB3.o hb4;clear hb4 Z4 HZ4 HX3 HY3 HB3 la lb;have la := HX4.o.2 12 _ rfl;have lb := HY4.o.2 12 _ rfl;have Z5 := HZ5.o;go_wp2_with fail
  refine (Z5 _ HB4.o).mono ?_;rintro e w5 ⟨rfl, hb5⟩;have HX5 : Hd (Box w5 w.heap.size d.cl) := HX4.o.below hb5;have HY5 : Hd (Box w5 (w.heap.size + 1) d'.cl) := HY4.o.below hb5;have HB5 : Hd (Bl w w5) := bl_trans HB4.o hb5;clear hb5 Z5 HZ5 HX4 HY4 HB4 la lb;go_wp2;go_ret;exact ⟨rfl, HB5.o⟩
theorem eqPlanS_of (a a' : Option Addr) (cap cap' n : Nat) (x y : Nat → PT) (w : World) (hn : n ≤ 1048576) (hR : KRow 0 w 28 a n (fun i => (x i).d.cells)) (hR' : KRow 0 w 28 a' n (fun i => (y i).d.cells))
 (IH : ∀ i, i < n → ∀ (W : World), Bl w W → Calls Tryz.prog 10 #[.agg (x i).d.ar, .agg (y i).d.ar] W (Yes W)) :
 Calls Tryz.prog 44 #[.slice a n cap, .slice a' n cap'] w (Yes w) := by
 try unfold PN.ar PN.cl
 by_cases hn0 : n = 0
 · subst hn0
   clear hR hR' IH hn;go_enter Tryz.func44, Tryz.ntmps44;go_wp2;refine wl1 ?_;go_wp2;go_ret;exact ⟨rfl, Below.refl _ _⟩
 obtain ⟨b, off, rfl, _, hlt, hc⟩ := hR.resolve_left hn0;obtain ⟨b', off', rfl, _, hlt', hc'⟩ := hR'.resolve_left hn0;have HC : Hd (∀ i, i < n → ∀ c u, ((x i).d.cells)[c]? = some u → w.cell? ⟨b, off + i * 28 + c, none⟩ = some u) := hc;have HC' : Hd (∀ i, i < n → ∀ c u, ((y i).d.cells)[c]? = some u → w.cell? ⟨b', off' + i * 28 + c, none⟩ = some u) := hc';have HI : Hd (∀ i, i < n → ∀ (W : World), Bl w W → Cl 10 #[.agg (x i).d.ar, .agg (y i).d.ar] W (Yes W)) := IH;clear hR hR' hc hc' IH;go_enter Tryz.func44, Tryz.ntmps44;go_wp2;go_loopw [5] (fun i wr => ∃ k : Nat, k ≤ n ∧ i = .int .i64 k ∧ Hd (Bl w wr)) (fun i _ => n - (intOf i).toNat)
 case atStart => exact ⟨0, nZ, rfl, Below.refl _ _⟩
 obtain ⟨k, hk, rfl, HB⟩ := hrel;by_cases hlk : k < n
 · have hlkz : (k : Int) < (n : Int) := by omega
   have HRX : Hd (∀ w', Bl wr w' → w'.rangeAt b (off + k * 28) (x k).d.cl) := fun w' hw c u hu => ((bl_trans HB.o hw).cell (p := ⟨b, off + k * 28 + c, none⟩) hlt).trans (HC.o k hlk c u hu);have HRY : Hd (∀ w', Bl wr w' → w'.rangeAt b' (off' + k * 28) (y k).d.cl) := fun w' hw c u hu => ((bl_trans HB.o hw).cell (p := ⟨b', off' + k * 28 + c, none⟩) hlt').trans (HC'.o k hlk c u hu);have Z := HI.o k hlk wr.drew (bl_trans HB.o bdr);go_wp2_with fail
   refine whd (fun w' => Bl wr w') ?_ fun hHeld => ?_
   · exact Below.drew brf
   refine tkB 0 17 ?_;refine tkB 1 18 ?_;refine tkB 2 19 ?_;refine takeq (i := 3) 20 (v := .agg (x k).d.ar) rfl rfl (by kernel_rfl) (by kernel_rfl) (by kernel_rfl) (fun _ _ _ h => h) (yieldsIf_load_mid (by rfl) 46 _ rfl b (off + k * 28) rfl (x k).d.cl _ HRX.o Tryz.underlying46 rfl (by kernel_rfl)) hHeld ?_;refine tkB 4 21 ?_;refine tkB 5 22 ?_;refine tkB 6 23 ?_;refine takeq (i := 7) 24 (v := .agg (y k).d.ar) rfl rfl (by kernel_rfl) (by kernel_rfl) (by kernel_rfl) (fun _ _ _ h => h) (yieldsIf_load_mid (by rfl) 46 _ rfl b' (off' + k * 28) rfl (y k).d.cl _ HRY.o Tryz.underlying46 rfl (by kernel_rfl)) hHeld ?_;try simp only [Act.put, sA, zA, cA]
   refine rdA 8 fun K hK => ?_;go_simp;refine Z.mono ?_;rintro e w2 ⟨rfl, hb2⟩;have HB2 : Hd (Bl wr w2) := bdr.trans hb2;clear hb2;go_wp2_with fail
   refine hK.out _ _ ?_ fun hHeld => ?_
   · exact HB2.o
   clear hK K;refine tkB 9 26 ?_;refine wpAnyH_done (by kernel_rfl) ?_ _;have HBq : Hd (Bl w w2) := bl_trans HB.o HB2.o;clear hHeld HRX HRY Z HB HB2;go_wp2;go_roundw
   case rel => exact ⟨k + 1, by omega, by go_num, HBq⟩
   case measure => simp [intOf]; omega
 obtain rfl : k = n := by omega
 have hlkz : ¬ (k : Int) < (k : Int) := by omega
 go_wp2;go_ret;exact ⟨rfl, HB.o⟩
theorem eqPlan_same (e : PT) : ∀ (e' : PT) (w : World), e.lies 0 w → e'.lies 0 w → e.same e' → Calls Tryz.prog 10 #[.agg e.d.ar, .agg e'.d.ar] w (Yes w) := by
 try unfold PN.ar PN.cl
 induction e with
 | nil => exact fun _ _ h => False.elim h
 | mk d kid ih =>
  intro e' w hx hy h;cases e' with
  | nil => exact False.elim hy
  | mk d' kid' =>
  show Calls Tryz.prog 10 #[.agg d.ar, .agg d'.ar] w (Yes w);obtain ⟨hp, he, hv, ht, htn, hn, hR, hk⟩ := hx;obtain ⟨hp', he', hv', ht', _, _, hR', hk'⟩ := hy;obtain ⟨e0, e1, ep, ee, ev, et, en, ek⟩ := h;have HZ1 : Hd (∀ (W : World), Bl w W → Cl 40 #[.agg d.p.ar, .agg d'.p.ar] W (Yes W)) := fun W hb => eqPat_same d.p d'.p W (hp.upper (uB hb)) (hp'.upper (uB hb)) ep;have HZ2 : Hd (∀ (W : World), Bl w W → Cl 41 #[.agg d.e.d.ar, .agg d'.e.d.ar] W (Yes W)) := fun W hb => eqExpr_same d.e d'.e W (ET.lies.upper (uB hb) he) (ET.lies.upper (uB hb) he') ee;have HZ3 : Hd (∀ (W : World), Bl w W → Cl 42 #[.slice d.v.a d.v.len d.v.cap, .slice d'.v.a d'.v.len d'.v.cap] W (Yes W)) := fun W hb => eqByteS_same d.v d'.v W (hv.upper (uB hb)) (hv'.upper (uB hb)) ev;have HZ4 : Hd (∀ (W : World), Bl w W → Cl 43 #[.slice d.ta d.tb.length d.tc, .slice d'.ta d'.tb.length d'.tc] W (Yes W)) := fun W hb => eqTermS_same d.ta d'.ta d.tc d'.tc d.tb d'.tb W htn (ht.upper (uB hb)) (ht'.upper (uB hb)) et;have HZ5 : Hd (∀ (W : World), Bl w W → Cl 44 #[.slice d.ka d.n d.kc, .slice d'.ka d'.n d'.kc] W (Yes W)) := fun W hb => by
   rw [← en] at hR' ⊢;exact eqPlanS_of d.ka d'.ka d.kc d'.kc d.n kid kid' W hn (hR.upper (uB hb)) (hR'.upper (uB hb)) fun i hi W' hW => ih i (kid' i) W' (PT.lies.upper (uB (bl_trans hb hW)) (hk i hi)) (PT.lies.upper (uB (bl_trans hb hW)) (hk' i (by rw [← en]; exact hi))) (ek i hi)
  have k0 : (d.k == d'.k) = true := by simp [e0]
  have k1 : (d.ord == d'.ord) = true := by simp [e1]
  clear hp he hv ht htn hn hR hk hp' he' hv' ht' hR' hk' e0 e1 ep ee ev et en ek ih;go_enter Tryz.func10, Tryz.ntmps10;have Z1 := HZ1.o;go_wp2_with fail
  refine (Z1 _ (bl_alloc (bl_a _) _)).mono ?_;rintro e w1 ⟨rfl, hb1⟩;have HX1 : Hd (Box w1 w.heap.size d.cl) := ((Box.new w d.ar 46 _).below (bl_a _)).below hb1;have HY1 : Hd (Box w1 (w.heap.size + 1) d'.cl) := (show Box _ _ _ by have h := (Box.new (w.alloc (.cells d.ar 46)) d'.ar 46 _).below hb1; simpa using h);have HB1 : Hd (Bl w w1) := bl_trans (bl_alloc (bl_a _) _) hb1;clear hb1 Z1 HZ1;have la : w1.rangeAt w.heap.size 17 d.e.d.cl := HX1.o.range 17 _ rfl;have lb : w1.rangeAt (w.heap.size + 1) 17 d'.e.d.cl := HY1.o.range 17 _ rfl;have Z2 := HZ2.o;go_wp2_with (first | (refine ldn Tryz.underlying42 la ?_) | (refine ldn Tryz.underlying42 lb ?_))
  refine (Z2 _ HB1.o).mono ?_;rintro e w2 ⟨rfl, hb2⟩;have HX2 : Hd (Box w2 w.heap.size d.cl) := HX1.o.below hb2;have HY2 : Hd (Box w2 (w.heap.size + 1) d'.cl) := HY1.o.below hb2;have HB2 : Hd (Bl w w2) := bl_trans HB1.o hb2;clear hb2 Z2 HZ2 HX1 HY1 HB1 la lb;have la := HX2.o.2 25 _ rfl;have lb := HY2.o.2 25 _ rfl;have Z3 := HZ3.o;go_wp2_with fail
  refine (Z3 _ HB2.o).mono ?_;rintro e w3 ⟨rfl, hb3⟩;have HX3 : Hd (Box w3 w.heap.size d.cl) := HX2.o.below hb3;have HY3 : Hd (Box w3 (w.heap.size + 1) d'.cl) := HY2.o.below hb3;have HB3 : Hd (Bl w w3) := bl_trans HB2.o hb3;clear hb3 Z3 HZ3 HX2 HY2 HB2 la lb;have la := HX3.o.2 26 _ rfl;have lb := HY3.o.2 26 _ rfl;have Z4 := HZ4.o;go_wp2_with fail
  refine (Z4 _ HB3.o).mono ?_;rintro e w4 ⟨rfl, hb4⟩;have HX4 : Hd (Box w4 w.heap.size d.cl) := HX3.o.below hb4;have HY4 : Hd (Box w4 (w.heap.size + 1) d'.cl) := HY3.o.below hb4;have HB4 : Hd (Bl w w4) := bl_trans HB3.o hb4;clear hb4 Z4 HZ4 HX3 HY3 HB3 la lb;have la := HX4.o.2 27 _ rfl;have lb := HY4.o.2 27 _ rfl;have Z5 := HZ5.o;go_wp2_with fail
  refine (Z5 _ HB4.o).mono ?_;rintro e w5 ⟨rfl, hb5⟩;have HX5 : Hd (Box w5 w.heap.size d.cl) := HX4.o.below hb5;have HY5 : Hd (Box w5 (w.heap.size + 1) d'.cl) := HY4.o.below hb5;have HB5 : Hd (Bl w w5) := bl_trans HB4.o hb5;clear hb5 Z5 HZ5 HX4 HY4 HB4 la lb;go_wp2;go_ret;exact ⟨rfl, HB5.o⟩
structure Past (g : Nat) (w w' : World) : Prop where
 os : w'.os = w.os
 tape : w'.tape = w.tape
 output : w'.output = w.output
 size : w.heap.size ≤ w'.heap.size
 block : ∀ b, b < w.heap.size → b ≠ g → w'.heap[b]? = w.heap[b]?
theorem Past.refl (g : Nat) (w : World) : Past g w w := ⟨rfl, rfl, rfl, nR, fun _ _ _ => rfl⟩
theorem Past.trans {w'' : World} (h : Past g w w') (k : Past g w' w'') : Past g w w'' :=
 ⟨k.os.trans h.os, k.tape.trans h.tape, k.output.trans h.output, Nat.le_trans h.size k.size, fun b hb hn => (k.block b (Nat.lt_of_lt_of_le hb h.size) hn).trans (h.block b hb hn)⟩
theorem Past.of_below (h : Bl w w') : Past g w w' := ⟨h.os, h.tape, h.output, h.size, fun b hb _ => h.block b hb⟩
theorem Past.set (h : Past g w w') (i : Nat) (v : Value) : Past g w (w'.setCell ⟨g, i, none⟩ v) :=
 ⟨h.os, h.tape, h.output, by simpa using h.size, fun b hb hn => (Below.heap_setCell _ _ _ _ hn).trans (h.block b hb hn)⟩
theorem Past.below {B : Nat} (h : Past g w w') (hB : B ≤ g) (hw : B ≤ w.heap.size) : Below B w w' :=
 ⟨h.os, h.tape, h.output, h.size, fun b hb => h.block b (by omega) (by omega)⟩
theorem Past.cell (h : Past g w w') (hp : p.block < w.heap.size) (hn : p.block ≠ g) : w'.cell? p = w.cell? p := World.cell?_of_block (w := w) (h.block p.block hp hn)
theorem Past.frozen (h : Past g w w') (hp : p.block < w.heap.size) (hn : p.block ≠ g) : w'.frozen? p = w.frozen? p := World.frozen?_of_block (w := w) (h.block p.block hp hn)
end Go.Proofs.YtoloadogihbdeaaGreat
