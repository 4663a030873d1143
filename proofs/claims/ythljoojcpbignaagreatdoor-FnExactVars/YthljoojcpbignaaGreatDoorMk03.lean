import Derived.Test.YthljoojcpbignaaGreatDoorMk02
namespace Go.Proofs.YthljoojcpbignaaGreatDoor
open Go.RowKit Go.Deep
set_option maxHeartbeats 40000000
set_option maxRecDepth 100000
theorem takeq {P : Program} {md : Region.Mode} {ops : Array Oper} {Q : Exit → Act → World → Prop} {S : World → Prop} {i : Nat} {oi : Oper} {v : Value} {fuel : Nat} {listed : Array Bool} {a : Act} {w : World} (d : Nat) (hi : ops[i]? = some oi) (hd : oi.dst = some d)
 (hs : Region.noSelect ops = true) (hf : Region.free md ops listed i = true) (hr : (Region.ready md ops listed).contains i = true)
 (hQ : ∀ c a w, Q (.panic c) (a.put (some d) v) w → Q (.panic c) a w) (hy : YieldsIf P ops S oi v a) (hS : S w)
 (h : wpAnyH P md ops Q S fuel (listed.setIfInBounds i true) (a.put (some d) v) w) : wpAnyH P md ops Q S (fuel + 1) listed a w :=
 wpAnyH_take hi hs hf hr (by rw [hd]; exact hQ) hy hS (by rw [hd]; exact h)
theorem tkA {P : Program} {md : Region.Mode} {ops : Array Oper} {Q : Exit → Act → World → Prop} {S : World → Prop} (i d : Nat) {oi : Oper} {v : Value} {fuel : Nat} {listed : Array Bool} {a : Act} {w : World} (hy : ∀ w, S w → (execOp a.eval oi).run P w = .ok (.value v) w)
  (h : wpAnyH P md ops Q S fuel (listed.setIfInBounds i true) (a.put (some d) v) w) (hS : S w := by assumption) (hi : ops[i]? = some oi := by rfl) (hd : oi.dst = some d := by rfl) (hk : (Region.noSelect ops && (Region.free md ops listed i && (Region.ready md ops listed).contains i)) = true := by kernel_rfl)
  (hQ : ∀ c a w, Q (.panic c) (a.put (some d) v) w → Q (.panic c) a w := by exact fun _ _ _ h => h) (hg : Region.wanted oi (yielded ops a.tmps) = true := by rfl) : wpAnyH P md ops Q S (fuel + 1) listed a w := by
  simp only [Bool.and_eq_true] at hk
  exact takeq d hi hd hk.1 hk.2.1 hk.2.2 hQ (Or.inl ⟨hg, hy⟩) hS h
theorem tkB {P : Program} {md : Region.Mode} {ops : Array Oper} {Q : Exit → Act → World → Prop} {S : World → Prop} (i d : Nat) {oi : Oper} {v : Value} {fuel : Nat} {listed : Array Bool} {a a' : Act} {w : World}
  (h : wpAnyH P md ops Q S fuel (listed.setIfInBounds i true) a' w) (hS : S w := by assumption) (hi : ops[i]? = some oi := by rfl) (hd : oi.dst = some d := by rfl) (hk : (Region.noSelect ops && (Region.free md ops listed i && (Region.ready md ops listed).contains i)) = true := by kernel_rfl)
  (hQ : ∀ c a w, Q (.panic c) (a.put (some d) v) w → Q (.panic c) a w := by exact fun _ _ _ h => h) (hg : Region.wanted oi (yielded ops a.tmps) = true := by rfl) (hy : ∀ w, S w → (execOp a.eval oi).run P w = .ok (.value v) w := by intro w' hSw; go_simp; (try with_reducible rfl)) (ha : a.put (some d) v = a' := by (try simp only [Act.put, sA, zA, cA]); rfl) : wpAnyH P md ops Q S (fuel + 1) listed a w := by
  simp only [Bool.and_eq_true] at hk
  exact takeq d hi hd hk.1 hk.2.1 hk.2.2 hQ (Or.inl ⟨hg, hy⟩) hS (ha ▸ h)
theorem rdA {P : Program} {md : Region.Mode} {ops : Array Oper} {Q : Exit → Act → World → Prop} {S : World → Prop} (i : Nat) {o : Oper} {fuel : Nat} {listed : Array Bool} {a : Act} {w : World}
  (h : ∀ K' : Act → World → Prop, Shut (∀ a w, S w → (S w → wpAnyH P md ops Q S fuel (listed.setIfInBounds i true) a w) → K' a w) → if Region.wanted o (yielded ops a.tmps) = true then Oper.wp P o a w K' Q else K' (a.put o.dst undef) w)
  (hr : Region.ready md ops listed = [i] := by kernel_rfl) (ho : ops[i]? = some o := by rfl) : wpAnyH P md ops Q S (fuel + 1) listed a w := wpAnyH_ready hr (by simp) (AllReadyH.cons ho h AllReadyH.nil)
theorem tkU {P : Program} {md : Region.Mode} {ops : Array Oper} {Q : Exit → Act → World → Prop} {S : World → Prop} (i d : Nat) {oi : Oper} {fuel : Nat} {listed : Array Bool} {a a' : Act} {w : World}
  (h : wpAnyH P md ops Q S fuel (listed.setIfInBounds i true) a' w) (hS : S w := by assumption) (hi : ops[i]? = some oi := by rfl) (hd : oi.dst = some d := by rfl) (hk : (Region.noSelect ops && (Region.free md ops listed i && (Region.ready md ops listed).contains i)) = true := by kernel_rfl)
  (hQ : ∀ c a w, Q (.panic c) (a.put (some d) undef) w → Q (.panic c) a w := by exact fun _ _ _ h => h) (hg : Region.wanted oi (yielded ops a.tmps) = false := by rfl) (ha : a.put (some d) undef = a' := by (try simp only [Act.put, sA, zA, cA]); rfl) : wpAnyH P md ops Q S (fuel + 1) listed a w := by
  simp only [Bool.and_eq_true] at hk
  exact takeq d hi hd hk.1 hk.2.1 hk.2.2 hQ (Or.inr ⟨hg, rfl⟩) hS (ha ▸ h)
theorem whd {P : Program} {ops : Array Oper} {Q : Exit → Act → World → Prop} (S : World → Prop) {id : Nat} {a : Act} {w : World} (hS : S w.drew) (h : S w.drew → wpAnyH P .any ops Q S ops.size (Array.replicate ops.size false) a w.drew) (hm : P.follows .mixedOrders = true := by kernel_rfl) : (Code.region id ops true).wp P Q a w := wp_region_held_drew hm hS h
def Yes (w : World) (e : Ending) (w' : World) : Prop := e = .returned (.bool true) ∧ Bl w w'
theorem eqByteS_same (x y : SL) (w : World) (hx : BsF 0 w x) (hy : BsF 0 w y) (h : x.b = y.b) : Calls Tryz.prog 19 #[.slice x.a x.len x.cap, .slice y.a y.len y.cap] w (Yes w) := by
 refine (eqByteS_any x.a y.a _ _ _ _ x.b y.b w hx.1 hy.1).mono ?_
 rintro e w' ⟨rfl, q, rfl⟩
 exact ⟨by rw [h]; simp, below_drewN brf _⟩
theorem eqTerm_same (x y : TB) (w : World) (hx : BsF 0 w x.sl) (hy : BsF 0 w y.sl) (h : x.td = y.td) : Calls Tryz.prog 127 #[.agg #[.int .i64 x.t.k, .slice x.t.a x.t.len x.t.cap, .int .i64 x.t.n, .int .i64 x.t.s], .agg #[.int .i64 y.t.k, .slice y.t.a y.t.len y.t.cap, .int .i64 y.t.n, .int .i64 y.t.s]] w (Yes w) := by
 refine (eqTerm_any _ _ _ _ _ _ _ _ _ _ _ _ x.b y.b w hx.1 hy.1).mono ?_
 rintro e w' ⟨rfl, hb⟩
 simp only [TB.td, TD.mk.injEq] at h
 exact ⟨by simp [h], hb⟩
theorem eqItem_same (x y : IB) (w : World) (hx : x.lies 0 w) (hy : y.lies 0 w) (h : x.same y) : Calls Tryz.prog 126 #[.agg x.ar, .agg y.ar] w (Yes w) := by
 have HZ1 := iH (fun (W : World) (hb : Below _ w W) => eqByteS_same x.v y.v W (hx.1.upper (uB hb)) (hy.1.upper (uB hb)) h.1)
 have HZ2 := iH (fun (W : World) (hb : Below _ w W) => eqTerm_same x.t y.t W (hx.2.1.upper (uB hb)) (hy.2.1.upper (uB hb)) h.2)
 clear hx hy h
 go_in
 have Z1 := HZ1.o
 go_wp2_with fail
 refine (Z1 _ (bl_alloc (bl_a _) _)).mono ?_
 rintro e w1 ⟨rfl, hb1⟩
 have HX1 := iH (((Box.new w _ 95 _).below (bl_a _)).below hb1)
 have HY1 := iH (show Box _ _ _ by have h := (Box.new _ _ 95 _).below hb1; simpa using h)
 have HB1 := iH (bl_trans (bl_alloc (bl_a _) _) hb1)
 clear hb1 Z1 HZ1
 have la : w1.rangeAt w.heap.size 1 [.int .i64 x.t.t.k, .slice x.t.t.a x.t.t.len x.t.t.cap, .int .i64 x.t.t.n, .int .i64 x.t.t.s] := HX1.o.range 1 _ rfl
 have lb : w1.rangeAt (w.heap.size + 1) 1 [.int .i64 y.t.t.k, .slice y.t.t.a y.t.t.len y.t.t.cap, .int .i64 y.t.t.n, .int .i64 y.t.t.s] := HY1.o.range 1 _ rfl
 have Z2 := HZ2.o
 go_wp2_with (first | (refine ldm Tryz.underlying93 la ?_; try simp only [Act.put, sA, zA, cA]) | (refine ldm Tryz.underlying93 lb ?_; try simp only [Act.put, sA, zA, cA]))
 refine (Z2 _ HB1.o).mono ?_
 rintro e w2 ⟨rfl, hb2⟩
 have HX2 := iH (HX1.o.below hb2)
 have HY2 := iH (HY1.o.below hb2)
 have HB2 := iH (bl_trans HB1.o hb2)
 clear hb2 Z2 HZ2 HX1 HY1 HB1 la lb
 go_wp2
 go_ret
 exact ⟨rfl, HB2.o⟩
theorem eqPat_same (x y : PB) (w : World) (hx : x.lies 0 w) (hy : y.lies 0 w) (h : x.same y) : Calls Tryz.prog 91 #[.agg x.ar, .agg y.ar] w (Yes w) := by
 have HZ1 := iH (fun (W : World) (hb : Below _ w W) => eqItem_same x.s y.s W (hx.1.upper (uB hb)) (hy.1.upper (uB hb)) h.1)
 have HZ2 := iH (fun (W : World) (hb : Below _ w W) => eqItem_same x.p y.p W (hx.2.1.upper (uB hb)) (hy.2.1.upper (uB hb)) h.2.1)
 have HZ3 := iH (fun (W : World) (hb : Below _ w W) => eqItem_same x.o y.o W (hx.2.2.upper (uB hb)) (hy.2.2.upper (uB hb)) h.2.2)
 clear hx hy h
 go_in
 have Z1 := HZ1.o
 go_wp2_with fail
 refine (Z1 _ (bl_alloc (bl_a _) _)).mono ?_
 rintro e w1 ⟨rfl, hb1⟩
 have HX1 := iH (((Box.new w _ 97 _).below (bl_a _)).below hb1)
 have HY1 := iH (show Box _ _ _ by have h := (Box.new _ _ 97 _).below hb1; simpa using h)
 have HB1 := iH (bl_trans (bl_alloc (bl_a _) _) hb1)
 clear hb1 Z1 HZ1
 have la : w1.rangeAt w.heap.size 5 x.p.cl := HX1.o.range 5 _ rfl
 have lb : w1.rangeAt (w.heap.size + 1) 5 y.p.cl := HY1.o.range 5 _ rfl
 have Z2 := HZ2.o
 go_wp2_with (first | (refine ldm Tryz.underlying95 la ?_; try simp only [Act.put, sA, zA, cA]) | (refine ldm Tryz.underlying95 lb ?_; try simp only [Act.put, sA, zA, cA]))
 refine (Z2 _ HB1.o).mono ?_
 rintro e w2 ⟨rfl, hb2⟩
 have HX2 := iH (HX1.o.below hb2)
 have HY2 := iH (HY1.o.below hb2)
 have HB2 := iH (bl_trans HB1.o hb2)
 clear hb2 Z2 HZ2 HX1 HY1 HB1 la lb
 have la : w2.rangeAt w.heap.size 10 x.o.cl := HX2.o.range 10 _ rfl
 have lb : w2.rangeAt (w.heap.size + 1) 10 y.o.cl := HY2.o.range 10 _ rfl
 have Z3 := HZ3.o
 go_wp2_with (first | (refine ldm Tryz.underlying95 la ?_; try simp only [Act.put, sA, zA, cA]) | (refine ldm Tryz.underlying95 lb ?_; try simp only [Act.put, sA, zA, cA]))
 refine (Z3 _ HB2.o).mono ?_
 rintro e w3 ⟨rfl, hb3⟩
 have HX3 := iH (HX2.o.below hb3)
 have HY3 := iH (HY2.o.below hb3)
 have HB3 := iH (bl_trans HB2.o hb3)
 clear hb3 Z3 HZ3 HX2 HY2 HB2 la lb
 go_wp2
 go_ret
 exact ⟨rfl, HB3.o⟩
theorem eqExprS_of (a a' : Option Addr) (cap cap' n : Nat) (x y : Nat → ET) (w : World) (hn : n ≤ 1048576) (hR : KRow 0 w 8 a n (fun i => (x i).d.cells)) (hR' : KRow 0 w 8 a' n (fun i => (y i).d.cells))
 (IH : ∀ i, i < n → ∀ (W : World), Bl w W → Calls Tryz.prog 92 #[.agg (x i).d.ar, .agg (y i).d.ar] W (Yes W)) :
 Calls Tryz.prog 128 #[.slice a n cap, .slice a' n cap'] w (Yes w) := by
 try unfold EN.ar
 by_cases hn0 : n = 0
 · subst hn0
   clear hR hR' IH hn
   go_in
   go_wp2
   refine wp_loop_rounds 1 ?_
   rw [rounds_succ]
   go_wp2
   go_ret
   exact ⟨rfl, Below.refl _ _⟩
 obtain ⟨b, off, rfl, _, hlt, hc⟩ := hR.resolve_left hn0
 obtain ⟨b', off', rfl, _, hlt', hc'⟩ := hR'.resolve_left hn0
 have HC := iH hc
 have HC' : Hd (∀ i, i < n → ∀ c u, ((y i).d.cells)[c]? = some u → w.cell? ⟨b', off' + i * 8 + c, none⟩ = some u) := hc'
 have HI := iH IH
 clear hR hR' hc hc' IH
 go_in
 go_wp2
 go_loopw [5] (fun i wr => ∃ k : Nat, k ≤ n ∧ i = .int .i64 k ∧ Hd (Bl w wr)) (fun i _ => n - (intOf i).toNat)
 case atStart => exact ⟨0, nZ, rfl, Below.refl _ _⟩
 obtain ⟨k, hk, rfl, HB⟩ := hrel
 by_cases hlk : k < n
 · have hlkz : (k : Int) < (n : Int) := by omega
   have HRX : Hd (∀ w', Bl wr w' → w'.rangeAt b (off + k * 8) (x k).d.cl) := fun w' hw c u hu => ((bl_trans HB.o hw).cell (p := ⟨b, off + k * 8 + c, none⟩) hlt).trans (HC.o k hlk c u hu)
   have HRY : Hd (∀ w', Bl wr w' → w'.rangeAt b' (off' + k * 8) (y k).d.cl) := fun w' hw c u hu => ((bl_trans HB.o hw).cell (p := ⟨b', off' + k * 8 + c, none⟩) hlt').trans (HC'.o k hlk c u hu)
   have Z := HI.o k hlk wr.drew (bl_trans HB.o bdr)
   go_wp2_with fail
   refine whd (fun w' => Bl wr w') ?_ fun hHeld => ?_
   · exact Below.drew brf
   refine tkB 0 17 ?_
   refine tkB 1 18 ?_
   refine tkB 2 19 ?_
   refine takeq (i := 3) 20 (v := .agg _) rfl rfl (by kernel_rfl) (by kernel_rfl) (by kernel_rfl) (fun _ _ _ h => h) (yieldsIf_load_mid (by rfl) 100 _ rfl b _ rfl _ _ HRX.o Tryz.underlying100 rfl (by kernel_rfl)) hHeld ?_
   refine tkB 4 21 ?_
   refine tkB 5 22 ?_
   refine tkB 6 23 ?_
   refine takeq (i := 7) 24 (v := .agg _) rfl rfl (by kernel_rfl) (by kernel_rfl) (by kernel_rfl) (fun _ _ _ h => h) (yieldsIf_load_mid (by rfl) 100 _ rfl b' _ rfl _ _ HRY.o Tryz.underlying100 rfl (by kernel_rfl)) hHeld ?_
   try simp only [Act.put, sA, zA, cA]
   refine rdA 8 fun K hK => ?_
   go_simp
   refine Z.mono ?_
   rintro e w2 ⟨rfl, hb2⟩
   have HB2 : Hd (Bl wr w2) := bdr.trans hb2
   clear hb2
   go_wp2_with fail
   refine hK.out _ _ ?_ fun hHeld => ?_
   · exact HB2.o
   clear hK K
   refine tkB 9 26 ?_
   refine wpAnyH_done (by kernel_rfl) ?_ _
   have HBq := iH (bl_trans HB.o HB2.o)
   clear hHeld HRX HRY Z HB HB2
   go_wp2
   go_roundw
   case rel => exact ⟨k + 1, by omega, by go_num, HBq⟩
   case measure => simp [intOf]; omega
 obtain rfl : k = n := by omega
 have hlkz : ¬ (k : Int) < (k : Int) := by omega
 go_wp2
 go_ret
 exact ⟨rfl, HB.o⟩
theorem eqTermS_of (a a' : Option Addr) (cap cap' n : Nat) (x y : Nat → TB) (w : World) (hn : n ≤ 1048576) (hR : KRow 0 w 4 a n (fun i => enc4 (x i).t)) (hR' : KRow 0 w 4 a' n (fun i => enc4 (y i).t))
 (IH : ∀ i, i < n → ∀ (W : World), Bl w W → Calls Tryz.prog 127 #[.agg #[.int .i64 (x i).t.k, .slice (x i).t.a (x i).t.len (x i).t.cap, .int .i64 (x i).t.n, .int .i64 (x i).t.s], .agg #[.int .i64 (y i).t.k, .slice (y i).t.a (y i).t.len (y i).t.cap, .int .i64 (y i).t.n, .int .i64 (y i).t.s]] W (Yes W)) :
 Calls Tryz.prog 93 #[.slice a n cap, .slice a' n cap'] w (Yes w) := by
 by_cases hn0 : n = 0
 · subst hn0
   clear hR hR' IH hn
   go_in
   go_wp2
   refine wp_loop_rounds 1 ?_
   rw [rounds_succ]
   go_wp2
   go_ret
   exact ⟨rfl, Below.refl _ _⟩
 obtain ⟨b, off, rfl, _, hlt, hc⟩ := hR.resolve_left hn0
 obtain ⟨b', off', rfl, _, hlt', hc'⟩ := hR'.resolve_left hn0
 have HC := iH hc
 have HC' : Hd (∀ i, i < n → ∀ c u, (enc4 (y i).t)[c]? = some u → w.cell? ⟨b', off' + i * 4 + c, none⟩ = some u) := hc'
 have HI := iH IH
 clear hR hR' hc hc' IH
 go_in
 go_wp2
 go_loopw [5] (fun i wr => ∃ k : Nat, k ≤ n ∧ i = .int .i64 k ∧ Hd (Bl w wr)) (fun i _ => n - (intOf i).toNat)
 case atStart => exact ⟨0, nZ, rfl, Below.refl _ _⟩
 obtain ⟨k, hk, rfl, HB⟩ := hrel
 by_cases hlk : k < n
 · have hlkz : (k : Int) < (n : Int) := by omega
   have HRX : Hd (∀ w', Bl wr w' → w'.rangeAt b (off + k * 4) [.int .i64 (x k).t.k, .slice (x k).t.a (x k).t.len (x k).t.cap, .int .i64 (x k).t.n, .int .i64 (x k).t.s]) := fun w' hw c u hu => ((bl_trans HB.o hw).cell (p := ⟨b, off + k * 4 + c, none⟩) hlt).trans (HC.o k hlk c u hu)
   have HRY : Hd (∀ w', Bl wr w' → w'.rangeAt b' (off' + k * 4) [.int .i64 (y k).t.k, .slice (y k).t.a (y k).t.len (y k).t.cap, .int .i64 (y k).t.n, .int .i64 (y k).t.s]) := fun w' hw c u hu => ((bl_trans HB.o hw).cell (p := ⟨b', off' + k * 4 + c, none⟩) hlt').trans (HC'.o k hlk c u hu)
   have Z := HI.o k hlk wr.drew (bl_trans HB.o bdr)
   go_wp2_with fail
   refine whd (fun w' => Bl wr w') ?_ fun hHeld => ?_
   · exact Below.drew brf
   refine tkB 0 17 ?_
   refine tkB 1 18 ?_
   refine tkB 2 19 ?_
   refine takeq (i := 3) 20 (v := .agg _) rfl rfl (by kernel_rfl) (by kernel_rfl) (by kernel_rfl) (fun _ _ _ h => h) (yieldsIf_load_mid (by rfl) 93 _ rfl b _ rfl _ _ HRX.o Tryz.underlying93 rfl (by kernel_rfl)) hHeld ?_
   refine tkB 4 21 ?_
   refine tkB 5 22 ?_
   refine tkB 6 23 ?_
   refine takeq (i := 7) 24 (v := .agg _) rfl rfl (by kernel_rfl) (by kernel_rfl) (by kernel_rfl) (fun _ _ _ h => h) (yieldsIf_load_mid (by rfl) 93 _ rfl b' _ rfl _ _ HRY.o Tryz.underlying93 rfl (by kernel_rfl)) hHeld ?_
   try simp only [Act.put, sA, zA, cA]
   refine rdA 8 fun K hK => ?_
   go_simp
   refine Z.mono ?_
   rintro e w2 ⟨rfl, hb2⟩
   have HB2 : Hd (Bl wr w2) := bdr.trans hb2
   clear hb2
   go_wp2_with fail
   refine hK.out _ _ ?_ fun hHeld => ?_
   · exact HB2.o
   clear hK K
   refine tkB 9 26 ?_
   refine wpAnyH_done (by kernel_rfl) ?_ _
   have HBq := iH (bl_trans HB.o HB2.o)
   clear hHeld HRX HRY Z HB HB2
   go_wp2
   go_roundw
   case rel => exact ⟨k + 1, by omega, by go_num, HBq⟩
   case measure => simp [intOf]; omega
 obtain rfl : k = n := by omega
 have hlkz : ¬ (k : Int) < (k : Int) := by omega
 go_wp2
 go_ret
 exact ⟨rfl, HB.o⟩
theorem eqTermS_same (a a' : Option Addr) (cap cap' : Nat) (l l' : List TB) (w : World) (hn : l.length ≤ 1048576) (h : TRowF 0 w a l) (h' : TRowF 0 w a' l') (he : l.map TB.td = l'.map TB.td) :
 Calls Tryz.prog 93 #[.slice a l.length cap, .slice a' l'.length cap'] w (Yes w) := by
 have hl : l'.length = l.length := by have := congrArg List.length he; simpa using this.symm
 have h2 := trow_krow h'
 rw [hl] at h2 ⊢
 refine eqTermS_of a a' cap _ _ _ _ w hn (trow_krow h) h2 fun i hi W hW => ?_
 have m1 := tbG_at hi
 have m2 := tbG_at (l := l') (i := i) (by omega)
 refine eqTerm_same (tbG l i) (tbG l' i) W ?_ ?_ ?_
 · rw [m1.1]
   exact (h.2.2 _ m1.2).1.upper (uB hW)
 · rw [m2.1]
   exact (h'.2.2 _ m2.2).1.upper (uB hW)
 rw [m1.1, m2.1]
 have e1 : (l.map TB.td)[i]? = (l'.map TB.td)[i]? := by rw [he]
 rw [List.getElem?_map, List.getElem?_map, List.getElem?_eq_getElem hi, List.getElem?_eq_getElem (by omega)] at e1
 exact Option.some.inj e1
theorem eqExpr_same (e : ET) : ∀ (e' : ET) (w : World), e.lies 0 w → e'.lies 0 w → e.same e' → Calls Tryz.prog 92 #[.agg e.d.ar, .agg e'.d.ar] w (Yes w) := by
 try unfold EN.ar
 induction e with
 | nil => exact fun _ _ h => False.elim h
 | mk d kid ih =>
  intro e' w hx hy h
  cases e' with
  | nil => exact False.elim hy
  | mk d' kid' =>
  show Calls Tryz.prog 92 #[.agg d.ar, .agg d'.ar] w (Yes w)
  obtain ⟨hv, ht, _, hn, hR, hk⟩ := hx
  obtain ⟨hv', ht', _, _, hR', hk'⟩ := hy
  obtain ⟨e0, e1, ev, et, en, ek⟩ := h
  have HZ1 := iH (fun (W : World) (hb : Below _ w W) => eqByteS_same d.v _ W (hv.upper (uB hb)) (hv'.upper (uB hb)) ev)
  have HZ2 := iH (fun (W : World) (hb : Below _ w W) => eqTerm_same d.t _ W (ht.upper (uB hb)) (ht'.upper (uB hb)) et)
  have HZ3 : Hd (∀ (W : World), Bl w W → Cl 128 #[.slice d.ka d.n d.kc, .slice d'.ka d'.n d'.kc] W (Yes W)) := fun W hb => by
   rw [← en] at hR' ⊢
   exact eqExprS_of _ _ _ _ d.n kid _ W hn (hR.upper (uB hb)) (hR'.upper (uB hb)) fun i hi W' hW => ih i _ W' (ET.lies.upper (uB (bl_trans hb hW)) (hk i hi)) (ET.lies.upper (uB (bl_trans hb hW)) (hk' i (by rw [← en]; exact hi))) (ek i hi)
  have k0 : (d.k == d'.k) = true := by simp [e0]
  have k1 : (d.op == d'.op) = true := by simp [e1]
  clear hv ht hn hR hk hv' ht' hR' hk' e0 e1 ev et en ek ih
  go_in
  have Z1 := HZ1.o
  go_wp2_with fail
  refine (Z1 _ (bl_alloc (bl_a _) _)).mono ?_
  rintro e w1 ⟨rfl, hb1⟩
  have HX1 := iH (((Box.new w _ 100 _).below (bl_a _)).below hb1)
  have HY1 := iH (show Box _ _ _ by have h := (Box.new _ _ 100 _).below hb1; simpa using h)
  have HB1 := iH (bl_trans (bl_alloc (bl_a _) _) hb1)
  clear hb1 Z1 HZ1
  have la : w1.rangeAt w.heap.size 3 [.int .i64 d.t.t.k, .slice d.t.t.a d.t.t.len d.t.t.cap, .int .i64 d.t.t.n, .int .i64 d.t.t.s] := HX1.o.range 3 _ rfl
  have lb : w1.rangeAt (w.heap.size + 1) 3 [.int .i64 d'.t.t.k, .slice d'.t.t.a d'.t.t.len d'.t.t.cap, .int .i64 d'.t.t.n, .int .i64 d'.t.t.s] := HY1.o.range 3 _ rfl
  have Z2 := HZ2.o
  go_wp2_with (first | (refine ldm Tryz.underlying93 la ?_; try simp only [Act.put, sA, zA, cA]) | (refine ldm Tryz.underlying93 lb ?_; try simp only [Act.put, sA, zA, cA]))
  refine (Z2 _ HB1.o).mono ?_
  rintro e w2 ⟨rfl, hb2⟩
  have HX2 := iH (HX1.o.below hb2)
  have HY2 := iH (HY1.o.below hb2)
  have HB2 := iH (bl_trans HB1.o hb2)
  clear hb2 Z2 HZ2 HX1 HY1 HB1 la lb
  have la := HX2.o.2 7 _ rfl
  have lb := HY2.o.2 7 _ rfl
  have Z3 := HZ3.o
  go_wp2_with fail
  refine (Z3 _ HB2.o).mono ?_
  rintro e w3 ⟨rfl, hb3⟩
  have HX3 := iH (HX2.o.below hb3)
  have HY3 := iH (HY2.o.below hb3)
  have HB3 := iH (bl_trans HB2.o hb3)
  clear hb3 Z3 HZ3 HX2 HY2 HB2 la lb
  go_wp2
  go_ret
  exact ⟨rfl, HB3.o⟩
structure Past (g : Nat) (w w' : World) : Prop where
 os : w'.os = w.os
 tape : w'.tape = w.tape
 output : w'.output = w.output
 size : w.heap.size ≤ w'.heap.size
 block : ∀ b, b < w.heap.size → b ≠ g → w'.heap[b]? = w.heap[b]?
theorem Past.refl (g : Nat) (w : World) : Past g w w := ⟨rfl, rfl, rfl, nR, fun _ _ _ => rfl⟩
theorem Past.trans {g : Nat} {w w' w'' : World} (h : Past g w w') (k : Past g w' w'') : Past g w w'' :=
 ⟨k.os.trans h.os, k.tape.trans h.tape, k.output.trans h.output, Nat.le_trans h.size k.size, fun b hb hn => (k.block b (Nat.lt_of_lt_of_le hb h.size) hn).trans (h.block b hb hn)⟩
theorem Past.of_below {g : Nat} {w w' : World} (h : Bl w w') : Past g w w' := ⟨h.os, h.tape, h.output, h.size, fun b hb _ => h.block b hb⟩
theorem Past.set {g : Nat} {w w' : World} (h : Past g w w') (i : Nat) (v : Value) : Past g w (w'.setCell ⟨g, i, none⟩ v) :=
 ⟨h.os, h.tape, h.output, by simpa using h.size, fun b hb hn => (Below.heap_setCell _ _ _ _ hn).trans (h.block b hb hn)⟩
theorem Past.below {g B : Nat} {w w' : World} (h : Past g w w') (hB : B ≤ g) (hw : B ≤ w.heap.size) : Below B w w' :=
 ⟨h.os, h.tape, h.output, h.size, fun b hb => h.block b (by omega) (by omega)⟩
theorem Past.cell {g : Nat} {w w' : World} (h : Past g w w') {p : Addr} (hp : p.block < w.heap.size) (hn : p.block ≠ g) : w'.cell? p = w.cell? p := World.cell?_of_block (w := w) (h.block p.block hp hn)
def Tells (P : Prop) (w : World) (e : Ending) (w' : World) : Prop := ∃ q : Bool, e = .returned (.bool q) ∧ (q = true ↔ P) ∧ Bl w w'
theorem Tells.of {P : Prop} {w w' : World} {b : Bool} (h : b = true ↔ P) (hb : Bl w w') : Tells P w (.returned (.bool b)) w' := ⟨b, rfl, h, hb⟩
theorem Tells.no {P : Prop} {w w' : World} (h : ¬ P) (hb : Bl w w') : Tells P w (.returned (.bool false)) w' := ⟨false, rfl, ⟨fun e => (by cases e), fun hp => absurd hp h⟩, hb⟩
theorem Tells.yes {P : Prop} {w w' : World} (h : P) (hb : Bl w w') : Tells P w (.returned (.bool true)) w' := ⟨true, rfl, ⟨fun _ => h, fun _ => rfl⟩, hb⟩
def zeroT (x : TD) : Prop := x.k = 0 ∧ x.bs = [] ∧ x.n = 0 ∧ x.s = 0
def zeroI (x : IB) : Prop := x.v.b = [] ∧ zeroT x.t.td
def zeroP (x : PB) : Prop := zeroI x.s ∧ zeroI x.p ∧ zeroI x.o
def itOk (x : IB) (m : Int) : Prop := (x.v.b ≠ [] ∧ nameOk x.v.b = true ∧ zeroT x.t.td) ∨ (x.v.b = [] ∧ x.t.td.ok = true ∧ x.t.t.k ≤ m)
def ptOk (x : PB) : Prop := itOk x.s 1 ∧ itOk x.p 0 ∧ itOk x.o 3
def kOk (k : Int) (n : Nat) : Prop := ((k = 0 ∨ k = 1 ∨ k = 4) ∧ n = 0) ∨ ((k = 3 ∨ k = 7) ∧ n = 1) ∨ (k = 2 ∧ n = 2) ∨ (k = 5 ∧ n = 3) ∨ (k = 6 ∧ 1 ≤ n ∧ n ≤ 4)
def nodeOk (d : EN) : Prop := kOk d.k d.n ∧ ((d.k = 0 ∨ d.k = 4) → nameOk d.v.b = true) ∧ (¬ (d.k = 0 ∨ d.k = 4) → d.v.b = []) ∧ (d.k = 1 → d.t.td.ok = true) ∧ (d.k ≠ 1 → zeroT d.t.td) ∧ (0 ≤ d.op ∧ d.op ≤ 7) ∧ (d.k ≠ 2 → d.op = 0)
def sumN : Nat → (Nat → Nat) → Nat
 | 0, _ => 0
 | n + 1, f => sumN n f + f n
def eOk (lim : Int) : ET → Int → Prop
 | .nil, _ => False
 | .mk d kid, deep => deep ≤ lim ∧ nodeOk d ∧ ∀ i, i < d.n → eOk lim (kid i) (deep + 1)
def esz : ET → Nat
 | .nil => 0
 | .mk d kid => 1 + sumN d.n (fun i => esz (kid i))
def zeroE (e : ET) : Prop := e.d.k = 0 ∧ e.d.op = 0 ∧ e.d.v.b = [] ∧ zeroT e.d.t.td ∧ e.d.n = 0
theorem nil_len {b : List Int} {n : Nat} (h : b.length = n) : b = [] ↔ n = 0 := by
 rw [← h]
 exact List.length_eq_zero_iff.symm
theorem name_pos {b : List Int} (h : nameOk b = true) : b ≠ [] := by
 rintro rfl
 simp [nameOk] at h
theorem sumN_le {n : Nat} {f : Nat → Nat} {i : Nat} (h : i < n) : f i ≤ sumN n f := by
 induction n with
 | zero => omega
 | succ n ih =>
  show f i ≤ sumN n f + f n
  by_cases e : i = n
  · rw [e]; omega
  have := ih (by omega); omega
theorem sumN_mono {n m : Nat} {f : Nat → Nat} (h : n ≤ m) : sumN n f ≤ sumN m f := by
 induction m with
 | zero => rw [show n = 0 by omega]; exact nR
 | succ m ih =>
  by_cases e : n = m + 1
  · rw [e]; exact nR
  have := ih (by omega)
  show sumN n f ≤ sumN m f + f m
  omega
theorem sumN_congr {n : Nat} {f g : Nat → Nat} (h : ∀ i, i < n → f i = g i) : sumN n f = sumN n g := by
 induction n with
 | zero => rfl
 | succ n ih =>
  show sumN n f + f n = sumN n g + g n
  rw [ih (fun i hi => h i (by omega)), h n (by omega)]
theorem itOk_same {x y : IB} (h : x.same y) (m : Int) : itOk x m ↔ itOk y m := by
 have hk : x.t.t.k = y.t.t.k := congrArg TD.k h.2
 unfold itOk
 rw [h.1, h.2, hk]
theorem ptOk_same {x y : PB} (h : x.same y) : ptOk x ↔ ptOk y := by
 unfold ptOk
 rw [itOk_same h.1, itOk_same h.2.1, itOk_same h.2.2]
theorem zeroP_same {x y : PB} (h : x.same y) : zeroP x ↔ zeroP y := by
 unfold zeroP zeroI
 rw [h.1.1, h.1.2, h.2.1.1, h.2.1.2, h.2.2.1, h.2.2.2]
theorem eOk_same {lim : Int} {e : ET} : ∀ {e' : ET} {deep : Int}, e.same e' → (eOk lim e deep ↔ eOk lim e' deep) := by
 induction e with
 | nil => exact fun h => False.elim h
 | mk d kid ih =>
  intro e' deep h
  cases e' with
  | nil => exact False.elim h
  | mk d' kid' =>
  obtain ⟨h0, h1, h2, h3, h4, h5⟩ := h
  show (deep ≤ lim ∧ nodeOk d ∧ ∀ i, i < d.n → eOk lim (kid i) (deep + 1)) ↔ (deep ≤ lim ∧ nodeOk d' ∧ ∀ i, i < d'.n → eOk lim (kid' i) (deep + 1))
  have e1 : nodeOk d ↔ nodeOk d' := by
   unfold nodeOk
   rw [h0, h1, h2, h3, h4]
  rw [e1, ← h4]
  refine and_congr_right fun _ => and_congr_right fun _ => ⟨fun H i hi => (ih i (h5 i hi)).1 (H i hi), fun H i hi => (ih i (h5 i hi)).2 (H i hi)⟩
theorem esz_same {e : ET} : ∀ {e' : ET}, e.same e' → esz e = esz e' := by
 induction e with
 | nil => exact fun h => False.elim h
 | mk d kid ih =>
  intro e' h
  cases e' with
  | nil => exact False.elim h
  | mk d' kid' =>
  obtain ⟨_, _, _, _, h4, h5⟩ := h
  show 1 + sumN d.n _ = 1 + sumN d'.n _
  rw [← h4, sumN_congr fun i hi => ih i (h5 i hi)]
theorem zeroE_same {e e' : ET} (h : e.same e') : zeroE e ↔ zeroE e' := by
 cases e with
 | nil => exact False.elim h
 | mk d kid =>
 cases e' with
 | nil => exact False.elim h
 | mk d' kid' =>
 obtain ⟨h0, h1, h2, h3, h4, _⟩ := h
 show (d.k = 0 ∧ d.op = 0 ∧ d.v.b = [] ∧ zeroT d.t.td ∧ d.n = 0) ↔ (d'.k = 0 ∧ d'.op = 0 ∧ d'.v.b = [] ∧ zeroT d'.t.td ∧ d'.n = 0)
 rw [h0, h1, h2, h3, h4]
theorem l4zeroTerm_any (x : TB) (w : World) (h : BsF 0 w x.sl) :
 Calls Tryz.prog 193 #[.agg #[.int .i64 x.t.k, .slice x.t.a x.t.len x.t.cap, .int .i64 x.t.n, .int .i64 x.t.s]] w (Tells (zeroT x.td) w) := by
 have HL : Hd (x.b = [] ↔ x.t.len = 0) := nil_len h.1.1
 clear h
 by_cases h0 : x.t.k = 0
 rotate_left
 · go_in
   go_wp2
   go_ret
   exact Tells.no (P := zeroT _) (fun hp => h0 hp.1) (bl_a _)
 by_cases h1 : x.t.len = 0
 rotate_left
 · go_in
   go_wp2
   go_ret
   exact Tells.no (P := zeroT _) (fun hp => h1 (HL.o.1 hp.2.1)) (bl_a _)
 by_cases h2 : x.t.n = 0
 rotate_left
 · go_in
   go_wp2
   go_ret
   exact Tells.no (P := zeroT _) (fun hp => h2 hp.2.2.1) (bl_a _)
 by_cases h3 : x.t.s = 0
 rotate_left
 · have h3' : (x.t.s == 0) = false := by simp [h3]
   go_in
   go_wp2
   go_ret
   exact Tells.no (P := zeroT _) (fun hp => h3 hp.2.2.2) (bl_a _)
 have HP : Hd (zeroT x.td) := ⟨h0, HL.o.2 h1, h2, h3⟩
 go_in
 go_wp2
 go_ret
 exact Tells.yes HP.o (bl_a _)
theorem l4var_any (x : SL) (w : World) (h : BsF 0 w x) : Calls Tryz.prog 96 #[.slice x.a x.len x.cap] w (Tells (nameOk x.b = true) w) := by
 have T := specTermOk_any 0 0 0 x.a x.len x.cap x.b w h.1 (by omega) (by omega)
 have e : termOk 0 x.b 0 0 = nameOk x.b := by simp [termOk]
 rw [e] at T
 clear h
 go_in
 go_wp2_with fail
 refine T.mono ?_
 rintro e w1 ⟨rfl, o1, rfl⟩
 clear T
 go_wp2
 go_ret
 exact Tells.of Iff.rfl (bl_a _)
theorem l4zeroItem_any (x : IB) (w : World) (h : x.lies 0 w) : Calls Tryz.prog 191 #[.agg x.ar] w (Tells (zeroI x) w) := by
 have HL := iH (nil_len h.1.1.1)
 have HZ := iH (fun o => l4zeroTerm_any x.t _ (h.2.1.upper (uB (bl_a o))))
 clear h
 by_cases h0 : x.v.len = 0
 · have Z := HZ.o
   go_in
   go_wp2_with fail
   refine (Z _).mono ?_
   rintro e w1 ⟨q1, rfl, hq1, hb1⟩
   have HQ := iH (show (q1 = true ↔ zeroI x) from hq1.trans ⟨fun h => ⟨HL.o.2 h0, h⟩, fun h => h.2⟩)
   have HB := iH (bl_trans (bl_a _) hb1)
   clear Z hq1 hb1
   go_wp2
   go_ret
   exact Tells.of HQ.o HB.o
 go_in
 go_wp2
 go_ret
 exact Tells.no (P := zeroI x) (fun hp => h0 (HL.o.1 hp.1)) (bl_a _)
theorem l4zeroPat_any (x : PB) (w : World) (h : x.lies 0 w) : Calls Tryz.prog 130 #[.agg x.ar] w (Tells (zeroP x) w) := by
 have HZ1 := iH (fun W (hb : Below _ w W) => l4zeroItem_any x.s W (h.1.upper (uB hb)))
 have HZ2 := iH (fun W (hb : Below _ w W) => l4zeroItem_any x.p W (h.2.1.upper (uB hb)))
 have HZ3 := iH (fun W (hb : Below _ w W) => l4zeroItem_any x.o W (h.2.2.upper (uB hb)))
 clear h
 go_in
 have Z1 := HZ1.o
 go_wp2_with fail
 refine (Z1 _ (bl_a _)).mono ?_
 rintro e w1 ⟨q1, rfl, hq1, hb1⟩
 have HX1 := iH ((Box.new w _ 97 _).below hb1)
 have HB1 := iH (bl_trans (bl_a _) hb1)
 have HQ1 := iH hq1
 clear hb1 Z1 hq1
 cases q1
 · have HF1 : Hd (¬ zeroP x) := fun hp => by have := HQ1.o.2 hp.1; cases this
   clear HQ1
   go_wp2
   go_ret
   exact Tells.no (P := zeroP x) HF1.o HB1.o
 have HT1 := iH (HQ1.o.1 rfl)
 clear HQ1
 have c5 := HX1.o.2 5 _ rfl
 have c6 := HX1.o.2 6 _ rfl
 have c7 := HX1.o.2 7 _ rfl
 have c8 := HX1.o.2 8 _ rfl
 have c9 := HX1.o.2 9 _ rfl
 have Z2 := HZ2.o
 go_wp2_with fail
 refine (Z2 _ HB1.o).mono ?_
 rintro e w2 ⟨q2, rfl, hq2, hb2⟩
 have HX2 := iH (HX1.o.below hb2)
 have HB2 := iH (bl_trans HB1.o hb2)
 have HQ2 := iH hq2
 clear hb2 Z2 hq2 c5 c6 c7 c8 c9
 cases q2
 · have HF2 : Hd (¬ zeroP x) := fun hp => by have := HQ2.o.2 hp.2.1; cases this
   clear HQ2
   go_wp2
   go_ret
   exact Tells.no (P := zeroP x) HF2.o HB2.o
 have HT2 := iH (HQ2.o.1 rfl)
 clear HQ2
 have c10 := HX2.o.2 10 _ rfl
 have c11 := HX2.o.2 11 _ rfl
 have c12 := HX2.o.2 12 _ rfl
 have c13 := HX2.o.2 13 _ rfl
 have c14 := HX2.o.2 14 _ rfl
 have Z3 := HZ3.o
 go_wp2_with fail
 refine (Z3 _ HB2.o).mono ?_
 rintro e w3 ⟨q3, rfl, hq3, hb3⟩
 have HB3 := iH (bl_trans HB2.o hb3)
 have HQ3 := iH hq3
 clear hb3 Z3 hq3 c10 c11 c12 c13 c14
 go_wp2
 go_ret
 exact Tells.of (P := zeroP x) ⟨fun h => ⟨HT1.o, HT2.o, HQ3.o.1 h⟩, fun h => HQ3.o.2 h.2.2⟩ HB3.o
theorem l4item_any (x : IB) (m : Int) (w : World) (h : x.lies 0 w) : Calls Tryz.prog 190 #[.agg x.ar, .int .i64 m] w (Tells (itOk x m) w) := by
 try unfold IB.ar
 have HL := iH (nil_len h.1.1.1)
 have HZ := iH (fun W (hb : Below _ w W) => l4zeroTerm_any x.t W (h.2.1.upper (uB hb)))
 have HV := iH (fun W (hb : Below _ w W) => l4var_any x.v W (h.1.upper (uB hb)))
 have HT : Hd (∀ W, Bl w W → Cl 133 #[.agg #[.int .i64 x.t.t.k, .slice x.t.t.a x.t.t.len x.t.t.cap, .int .i64 x.t.t.n, .int .i64 x.t.t.s]] W (Tells (x.t.td.ok = true) W)) := fun W hb => (specTermOk_any x.t.t.k x.t.t.n x.t.t.s x.t.t.a x.t.t.len x.t.t.cap x.t.b W (h.2.1.upper (uB hb)).1 h.2.2.1 h.2.2.2.1).mono fun e w' ⟨h1, o, h2⟩ => by
  subst h1 h2
  exact Tells.of Iff.rfl (bl_a _)
 clear h
 by_cases h0' : x.v.len = 0
 · have h0 := iH h0'
   have h0z : ¬ (0 : Int) < (x.v.len : Int) := by omega
   clear h0'
   have Z := HT.o
   go_in
   go_wp2_with fail
   refine (Z _ (bl_a _)).mono ?_
   rintro e w1 ⟨q1, rfl, hq1, hb1⟩
   have HQ1 := iH hq1
   have c1 := ((Box.new w _ 95 _).below hb1).2 1 _ rfl
   have HB := iH (bl_trans (bl_a _) hb1)
   clear Z hq1 hb1
   cases q1
   · have HF : Hd (¬ itOk x m) := fun hp => by
      rcases hp with hp | hp
      · exact hp.1 (HL.o.2 h0.o)
      have := HQ1.o.2 hp.2.1
      cases this
     clear HQ1
     go_wp2
     go_ret
     exact Tells.no HF.o HB.o
   have HE : Hd ((decide (x.t.t.k ≤ m)) = true ↔ itOk x m) := by
    show (_ ↔ _)
    rw [decide_eq_true_iff]
    exact ⟨fun h => .inr ⟨HL.o.2 h0.o, HQ1.o.1 rfl, h⟩, fun h => by
     rcases h with h | h
     · exact absurd (HL.o.2 h0.o) h.1
     exact h.2.2⟩
   clear HQ1
   go_wp2
   go_ret
   exact Tells.of HE.o HB.o
 have h0z : (0 : Int) < (x.v.len : Int) := by omega
 have h0 := iH h0'
 clear h0'
 have Z := HV.o
 go_in
 go_wp2_with fail
 refine (Z _ (bl_a _)).mono ?_
 rintro e w1 ⟨q1, rfl, hq1, hb1⟩
 have HQ1 := iH hq1
 have HX1 := iH ((Box.new w _ 95 _).below hb1)
 have HB := iH (bl_trans (bl_a _) hb1)
 clear Z hq1 hb1
 cases q1
 · have HF : Hd (¬ itOk x m) := fun hp => by
    rcases hp with hp | hp
    · have := HQ1.o.2 hp.2.1
      cases this
    exact h0.o (HL.o.1 hp.1)
   clear HQ1
   go_wp2
   go_ret
   exact Tells.no HF.o HB.o
 have HT1 := iH (HQ1.o.1 rfl)
 clear HQ1
 have c1 := HX1.o.2 1 _ rfl
 have c2 := HX1.o.2 2 _ rfl
 have c3 := HX1.o.2 3 _ rfl
 have c4 := HX1.o.2 4 _ rfl
 have Z := HZ.o
 go_wp2_with fail
 refine (Z _ HB.o).mono ?_
 rintro e w2 ⟨q2, rfl, hq2, hb2⟩
 have HE : Hd (q2 = true ↔ itOk x m) := (show (q2 = true ↔ itOk x m) from hq2.trans ⟨fun h => .inl ⟨fun e => h0.o (HL.o.1 e), HT1.o, h⟩, fun h => by
  rcases h with h | h
  · exact h.2.2
  exact absurd (HL.o.1 h.1) h0.o⟩)
 have HB2 := iH (bl_trans HB.o hb2)
 clear Z hq2 hb2 c1 c2 c3 c4
 go_wp2
 go_ret
 exact Tells.of HE.o HB2.o
theorem l4pat_any (x : PB) (w : World) (h : x.lies 0 w) : Calls Tryz.prog 129 #[.agg x.ar] w (Tells (ptOk x) w) := by
 have HZ1 := iH (fun W (hb : Below _ w W) => l4item_any x.s 1 W (h.1.upper (uB hb)))
 have HZ2 := iH (fun W (hb : Below _ w W) => l4item_any x.p 0 W (h.2.1.upper (uB hb)))
 have HZ3 := iH (fun W (hb : Below _ w W) => l4item_any x.o 3 W (h.2.2.upper (uB hb)))
 clear h
 go_in
 have Z1 := HZ1.o
 go_wp2_with fail
 refine (Z1 _ (bl_a _)).mono ?_
 rintro e w1 ⟨q1, rfl, hq1, hb1⟩
 have HX1 := iH ((Box.new w _ 97 _).below hb1)
 have HB1 := iH (bl_trans (bl_a _) hb1)
 have HQ1 := iH hq1
 clear hb1 Z1 hq1
 cases q1
 · have HF1 : Hd (¬ ptOk x) := fun hp => by have := HQ1.o.2 hp.1; cases this
   clear HQ1
   go_wp2
   go_ret
   exact Tells.no (P := ptOk x) HF1.o HB1.o
 have HT1 := iH (HQ1.o.1 rfl)
 clear HQ1
 have c5 := HX1.o.2 5 _ rfl
 have c6 := HX1.o.2 6 _ rfl
 have c7 := HX1.o.2 7 _ rfl
 have c8 := HX1.o.2 8 _ rfl
 have c9 := HX1.o.2 9 _ rfl
 have Z2 := HZ2.o
 go_wp2_with fail
 refine (Z2 _ HB1.o).mono ?_
 rintro e w2 ⟨q2, rfl, hq2, hb2⟩
 have HX2 := iH (HX1.o.below hb2)
 have HB2 := iH (bl_trans HB1.o hb2)
 have HQ2 := iH hq2
 clear hb2 Z2 hq2 c5 c6 c7 c8 c9
 cases q2
 · have HF2 : Hd (¬ ptOk x) := fun hp => by have := HQ2.o.2 hp.2.1; cases this
   clear HQ2
   go_wp2
   go_ret
   exact Tells.no (P := ptOk x) HF2.o HB2.o
 have HT2 := iH (HQ2.o.1 rfl)
 clear HQ2
 have c10 := HX2.o.2 10 _ rfl
 have c11 := HX2.o.2 11 _ rfl
 have c12 := HX2.o.2 12 _ rfl
 have c13 := HX2.o.2 13 _ rfl
 have c14 := HX2.o.2 14 _ rfl
 have Z3 := HZ3.o
 go_wp2_with fail
 refine (Z3 _ HB2.o).mono ?_
 rintro e w3 ⟨q3, rfl, hq3, hb3⟩
 have HB3 := iH (bl_trans HB2.o hb3)
 have HQ3 := iH hq3
 clear hb3 Z3 hq3 c10 c11 c12 c13 c14
 go_wp2
 go_ret
 exact Tells.of (P := ptOk x) ⟨fun h => ⟨HT1.o, HT2.o, HQ3.o.1 h⟩, fun h => HQ3.o.2 h.2.2⟩ HB3.o
def kidsN (k : Int) (n : Nat) : Int := if k = 0 ∨ k = 1 ∨ k = 4 then 0 else if k = 3 ∨ k = 7 then 1 else if k = 2 then 2 else if k = 5 then 3 else if k = 6 ∧ 1 ≤ n ∧ n ≤ 4 then n else -1
theorem kidsN_ok (k : Int) (n : Nat) : kidsN k n = n ↔ kOk k n := by
 unfold kidsN kOk
 repeat' split
 all_goals omega
theorem l4kids_any (d : EN) (w : World) : Calls Tryz.prog 192 #[.agg d.ar] w fun e w' => e = .returned (.int .i64 (kidsN d.k d.n)) ∧ ∃ o, w' = w.alloc o := by
 go_in
 go_wp2
 all_goals go_ret
 all_goals refine ⟨?_, _, rfl⟩
 all_goals (unfold kidsN; simp_all <;> omega)
theorem l4zeroExpr_any (e : ET) (w : World) (h : e.lies 0 w) : Calls Tryz.prog 132 #[.agg e.d.ar] w (Tells (zeroE e) w) := by
 try unfold EN.ar
 cases e with
 | nil => exact False.elim h
 | mk d kid =>
 obtain ⟨hv, ht, _⟩ := h
 show Calls Tryz.prog 132 #[.agg d.ar] w (Tells (d.k = 0 ∧ d.op = 0 ∧ d.v.b = [] ∧ zeroT d.t.td ∧ d.n = 0) w)
 have HL := iH (nil_len hv.1.1)
 have HZ := iH (fun W (hb : Below _ w W) => l4zeroTerm_any d.t W (ht.upper (uB hb)))
 obtain ⟨P, hP⟩ : ∃ P, P = (d.k = 0 ∧ d.op = 0 ∧ d.v.b = [] ∧ zeroT d.t.td ∧ d.n = 0) := ⟨_, rfl⟩
 have HP := iH (show (P ↔ _) by rw [hP])
 rw [← hP]
 clear hv ht hP
 by_cases h0 : d.k = 0
 rotate_left
 · go_in
   go_wp2
   go_ret
   exact Tells.no (fun hp => h0 (HP.o.1 hp).1) (bl_a _)
 by_cases h1 : d.op = 0
 rotate_left
 · go_in
   go_wp2
   go_ret
   exact Tells.no (fun hp => h1 (HP.o.1 hp).2.1) (bl_a _)
 by_cases h2 : d.v.len = 0
 rotate_left
 · go_in
   go_wp2
   go_ret
   exact Tells.no (fun hp => h2 (HL.o.1 (HP.o.1 hp).2.2.1)) (bl_a _)
 have H3 : Hd (d.k = 0 ∧ d.op = 0 ∧ d.v.b = []) := ⟨h0, h1, HL.o.2 h2⟩
 have Z := HZ.o
 go_in
 go_wp2_with fail
 refine (Z _ (bl_a _)).mono ?_
 rintro e w1 ⟨q1, rfl, hq1, hb1⟩
 have HQ := iH hq1
 have HX : w1.cell? ⟨w.heap.size, 7, none⟩ = some (.slice d.ka d.n d.kc) := (hb1.cell (p := ⟨w.heap.size, 7, none⟩) (by simp)).trans (by simp [go_sem])
 have HB := iH (bl_trans (bl_a _) hb1)
 clear Z hq1 hb1
 cases q1
 · have HF : Hd (¬ P) := fun hp => by have := HQ.o.2 (HP.o.1 hp).2.2.2.1; cases this
   clear HQ
   go_wp2
   go_ret
   exact Tells.no HF.o HB.o
 by_cases h5 : d.n = 0
 · have HY := iH (HP.o.2 ⟨H3.o.1, H3.o.2.1, H3.o.2.2, HQ.o.1 rfl, h5⟩)
   go_wp2
   go_ret
   exact Tells.yes HY.o HB.o
 have h5' : ((d.n : Int) == 0) = false := by simp; omega
 have HF : Hd (¬ P) := fun hp => h5 (HP.o.1 hp).2.2.2.2
 clear HQ
 go_wp2
 go_ret
 exact Tells.no HF.o HB.o
end Go.Proofs.YthljoojcpbignaaGreatDoor
