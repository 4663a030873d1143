import Derived.Test.YthljoojcpbignaaGreatDoorMk23
import Derived.Deep.Strs
import Derived.Deep.Slices
namespace Go.Proofs.YthljoojcpbignaaGreatDoor
open Go.RowKit Go.Deep
set_option maxHeartbeats 40000000
set_option maxRecDepth 100000
theorem eqSel_same (x y : SE) (w : World) (hx : x.lies 0 w) (hy : y.lies 0 w) (h : x.same y) : Calls Tryz.prog 58 #[.agg x.ar, .agg y.ar] w (Yes w) := by
 have HZ1 := iH (fun (W : World) (hb : Below _ w W) => eqByteS_same _ _ W (hx.1.upper (uB hb)) (hy.1.upper (uB hb)) h.2.1)
 have HZ2 := iH (fun (W : World) (hb : Below _ w W) => eqByteS_same x.v y.v W (hx.2.upper (uB hb)) (hy.2.upper (uB hb)) h.2.2)
 have k0 : (x.fn == y.fn) = true := by simp [h.1]
 clear hx hy h
 go_in
 have Z1 := HZ1.o
 go_wp2_with fail
 refine (Z1 _ (bl_alloc (bl_a _) _)).mono ?_
 rintro e w1 ⟨rfl, hb1⟩
 have HX1 := iH (((Box.new w _ 105 _).below (bl_a _)).below hb1)
 have HY1 := iH (show Box _ _ _ by have h := (Box.new _ _ 105 _).below hb1; simpa using h)
 have HB1 := iH (bl_trans (bl_alloc (bl_a _) _) hb1)
 clear hb1 Z1 HZ1
 have la := HX1.o.2 2 _ rfl
 have lb := HY1.o.2 2 _ rfl
 have Z2 := HZ2.o
 go_wp2_with fail
 refine (Z2 _ HB1.o).mono ?_
 rintro e w2 ⟨rfl, hb2⟩
 have HX2 := iH (HX1.o.below hb2)
 have HY2 := iH (HY1.o.below hb2)
 have HB2 := iH (bl_trans HB1.o hb2)
 clear hb2 Z2 HZ2 HX1 HY1 HB1 la lb
 go_wp2
 go_ret
 exact ⟨rfl, HB2.o⟩
theorem eqSelS_of (a a' : Option Addr) (cap cap' n : Nat) (x y : Nat → SE) (w : World) (hn : n ≤ 1048576) (hR : KRow 0 w 3 a n (fun i => (x i).cells)) (hR' : KRow 0 w 3 a' n (fun i => (y i).cells))
 (IH : ∀ i, i < n → ∀ (W : World), Bl w W → Calls Tryz.prog 58 #[.agg (x i).ar, .agg (y i).ar] W (Yes W)) :
 Calls Tryz.prog 34 #[.slice a n cap, .slice a' n cap'] w (Yes w) := by
 try unfold SE.ar
 by_cases hn0 : n = 0
 · subst hn0
   clear hR hR' IH hn
   go_in
   go_wp2
   refine wp_loop_rounds 1 ?_
   rw [rounds_succ]
   go_wp2
   go_ret
   exact ⟨rfl, Below.refl _ _⟩
 obtain ⟨b, off, rfl, _, hlt, hc⟩ := hR.resolve_left hn0
 obtain ⟨b', off', rfl, _, hlt', hc'⟩ := hR'.resolve_left hn0
 have HC := iH hc
 have HC' : Hd (∀ i, i < n → ∀ c u, ((y i).cells)[c]? = some u → w.cell? ⟨b', off' + i * 3 + c, none⟩ = some u) := hc'
 have HI := iH IH
 clear hR hR' hc hc' IH
 go_in
 go_wp2
 go_loopw [5] (fun i wr => ∃ k : Nat, k ≤ n ∧ i = .int .i64 k ∧ Hd (Bl w wr)) (fun i _ => n - (intOf i).toNat)
 case atStart => exact ⟨0, nZ, rfl, Below.refl _ _⟩
 obtain ⟨k, hk, rfl, HB⟩ := hrel
 by_cases hlk : k < n
 · have hlkz : (k : Int) < (n : Int) := by omega
   have HRX : Hd (∀ w', Bl wr w' → w'.rangeAt b (off + k * 3) (x k).cl) := fun w' hw c u hu => ((bl_trans HB.o hw).cell (p := ⟨b, off + k * 3 + c, none⟩) hlt).trans (HC.o k hlk c u hu)
   have HRY : Hd (∀ w', Bl wr w' → w'.rangeAt b' (off' + k * 3) (y k).cl) := fun w' hw c u hu => ((bl_trans HB.o hw).cell (p := ⟨b', off' + k * 3 + c, none⟩) hlt').trans (HC'.o k hlk c u hu)
   have Z := HI.o k hlk wr.drew (bl_trans HB.o bdr)
   go_wp2_with fail
   refine whd (fun w' => Bl wr w') ?_ fun hHeld => ?_
   · exact Below.drew brf
   refine tkB 0 17 ?_
   refine tkB 1 18 ?_
   refine tkB 2 19 ?_
   refine takeq (i := 3) 20 (v := .agg _) rfl rfl (by kernel_rfl) (by kernel_rfl) (by kernel_rfl) (fun _ _ _ h => h) (yieldsIf_load_mid (by rfl) 105 _ rfl b _ rfl _ _ HRX.o Tryz.underlying105 rfl (by kernel_rfl)) hHeld ?_
   refine tkB 4 21 ?_
   refine tkB 5 22 ?_
   refine tkB 6 23 ?_
   refine takeq (i := 7) 24 (v := .agg _) rfl rfl (by kernel_rfl) (by kernel_rfl) (by kernel_rfl) (fun _ _ _ h => h) (yieldsIf_load_mid (by rfl) 105 _ rfl b' _ rfl _ _ HRY.o Tryz.underlying105 rfl (by kernel_rfl)) hHeld ?_
   try simp only [Act.put, sA, zA, cA]
   refine rdA 8 fun K hK => ?_
   go_simp
   refine Z.mono ?_
   rintro e w2 ⟨rfl, hb2⟩
   have HB2 : Hd (Bl wr w2) := bdr.trans hb2
   clear hb2
   go_wp2_with fail
   refine hK.out _ _ ?_ fun hHeld => ?_
   · exact HB2.o
   clear hK K
   refine tkB 9 26 ?_
   refine wpAnyH_done (by kernel_rfl) ?_ _
   have HBq := iH (bl_trans HB.o HB2.o)
   clear hHeld HRX HRY Z HB HB2
   go_wp2
   go_roundw
   case rel => exact ⟨k + 1, by omega, by go_num, HBq⟩
   case measure => simp [intOf]; omega
 obtain rfl : k = n := by omega
 have hlkz : ¬ (k : Int) < (k : Int) := by omega
 go_wp2
 go_ret
 exact ⟨rfl, HB.o⟩
theorem eqKey_same (x y : KY) (w : World) (hx : x.lies 0 w) (hy : y.lies 0 w) (h : x.same y) : Calls Tryz.prog 60 #[.agg #[.slice x.v.a x.v.len x.v.cap, .bool x.down], .agg #[.slice y.v.a y.v.len y.v.cap, .bool y.down]] w (Yes w) := by
 have HZ1 := iH (fun (W : World) (hb : Below _ w W) => eqByteS_same x.v y.v W (BsF.upper hx (uB hb)) (BsF.upper hy (uB hb)) h.1)
 have k0 : (x.down == y.down) = true := by simp [h.2]
 have k1 : (x.down != y.down) = false := by simp [h.2]
 clear hx hy h
 go_in
 have Z1 := HZ1.o
 go_wp2_with fail
 refine (Z1 _ (bl_alloc (bl_a _) _)).mono ?_
 rintro e w1 ⟨rfl, hb1⟩
 have HX1 := iH (((Box.new w _ 108 _).below (bl_a _)).below hb1)
 have HY1 := iH (show Box _ _ _ by have h := (Box.new _ _ 108 _).below hb1; simpa using h)
 have HB1 := iH (bl_trans (bl_alloc (bl_a _) _) hb1)
 clear hb1 Z1 HZ1
 have la := HX1.o.2 1 _ rfl
 have lb := HY1.o.2 1 _ rfl
 go_wp2
 go_ret
 exact ⟨rfl, HB1.o⟩
theorem eqKeyS_of (a a' : Option Addr) (cap cap' n : Nat) (x y : Nat → KY) (w : World) (hn : n ≤ 1048576) (hR : KRow 0 w 2 a n (fun i => (x i).cells)) (hR' : KRow 0 w 2 a' n (fun i => (y i).cells))
 (IH : ∀ i, i < n → ∀ (W : World), Bl w W → Calls Tryz.prog 60 #[.agg #[.slice (x i).v.a (x i).v.len (x i).v.cap, .bool (x i).down], .agg #[.slice (y i).v.a (y i).v.len (y i).v.cap, .bool (y i).down]] W (Yes W)) :
 Calls Tryz.prog 36 #[.slice a n cap, .slice a' n cap'] w (Yes w) := by
 by_cases hn0 : n = 0
 · subst hn0
   clear hR hR' IH hn
   go_in
   go_wp2
   refine wp_loop_rounds 1 ?_
   rw [rounds_succ]
   go_wp2
   go_ret
   exact ⟨rfl, Below.refl _ _⟩
 obtain ⟨b, off, rfl, _, hlt, hc⟩ := hR.resolve_left hn0
 obtain ⟨b', off', rfl, _, hlt', hc'⟩ := hR'.resolve_left hn0
 have HC := iH hc
 have HC' : Hd (∀ i, i < n → ∀ c u, ((y i).cells)[c]? = some u → w.cell? ⟨b', off' + i * 2 + c, none⟩ = some u) := hc'
 have HI := iH IH
 clear hR hR' hc hc' IH
 go_in
 go_wp2
 go_loopw [5] (fun i wr => ∃ k : Nat, k ≤ n ∧ i = .int .i64 k ∧ Hd (Bl w wr)) (fun i _ => n - (intOf i).toNat)
 case atStart => exact ⟨0, nZ, rfl, Below.refl _ _⟩
 obtain ⟨k, hk, rfl, HB⟩ := hrel
 by_cases hlk : k < n
 · have hlkz : (k : Int) < (n : Int) := by omega
   have HRX : Hd (∀ w', Bl wr w' → w'.rangeAt b (off + k * 2) [.slice (x k).v.a (x k).v.len (x k).v.cap, .bool (x k).down]) := fun w' hw c u hu => ((bl_trans HB.o hw).cell (p := ⟨b, off + k * 2 + c, none⟩) hlt).trans (HC.o k hlk c u hu)
   have HRY : Hd (∀ w', Bl wr w' → w'.rangeAt b' (off' + k * 2) [.slice (y k).v.a (y k).v.len (y k).v.cap, .bool (y k).down]) := fun w' hw c u hu => ((bl_trans HB.o hw).cell (p := ⟨b', off' + k * 2 + c, none⟩) hlt').trans (HC'.o k hlk c u hu)
   have Z := HI.o k hlk wr.drew (bl_trans HB.o bdr)
   go_wp2_with fail
   refine whd (fun w' => Bl wr w') ?_ fun hHeld => ?_
   · exact Below.drew brf
   refine tkB 0 17 ?_
   refine tkB 1 18 ?_
   refine tkB 2 19 ?_
   refine takeq (i := 3) 20 (v := .agg _) rfl rfl (by kernel_rfl) (by kernel_rfl) (by kernel_rfl) (fun _ _ _ h => h) (yieldsIf_load_mid (by rfl) 108 _ rfl b _ rfl _ _ HRX.o Tryz.underlying108 rfl (by kernel_rfl)) hHeld ?_
   refine tkB 4 21 ?_
   refine tkB 5 22 ?_
   refine tkB 6 23 ?_
   refine takeq (i := 7) 24 (v := .agg _) rfl rfl (by kernel_rfl) (by kernel_rfl) (by kernel_rfl) (fun _ _ _ h => h) (yieldsIf_load_mid (by rfl) 108 _ rfl b' _ rfl _ _ HRY.o Tryz.underlying108 rfl (by kernel_rfl)) hHeld ?_
   try simp only [Act.put, sA, zA, cA]
   refine rdA 8 fun K hK => ?_
   go_simp
   refine Z.mono ?_
   rintro e w2 ⟨rfl, hb2⟩
   have HB2 : Hd (Bl wr w2) := bdr.trans hb2
   clear hb2
   go_wp2_with fail
   refine hK.out _ _ ?_ fun hHeld => ?_
   · exact HB2.o
   clear hK K
   refine tkB 9 26 ?_
   refine wpAnyH_done (by kernel_rfl) ?_ _
   have HBq := iH (bl_trans HB.o HB2.o)
   clear hHeld HRX HRY Z HB HB2
   go_wp2
   go_roundw
   case rel => exact ⟨k + 1, by omega, by go_num, HBq⟩
   case measure => simp [intOf]; omega
 obtain rfl : k = n := by omega
 have hlkz : ¬ (k : Int) < (k : Int) := by omega
 go_wp2
 go_ret
 exact ⟨rfl, HB.o⟩
theorem eqElemS_of (a a' : Option Addr) (cap cap' n : Nat) (x y : Nat → UT) (w : World) (hn : n ≤ 1048576) (hR : KRow 0 w 28 a n (fun i => (x i).d.cells)) (hR' : KRow 0 w 28 a' n (fun i => (y i).d.cells))
 (IH : ∀ i, i < n → ∀ (W : World), Bl w W → Calls Tryz.prog 59 #[.agg (x i).d.ar, .agg (y i).d.ar] W (Yes W)) :
 Calls Tryz.prog 35 #[.slice a n cap, .slice a' n cap'] w (Yes w) := by
 try unfold UN.ar
 by_cases hn0 : n = 0
 · subst hn0
   clear hR hR' IH hn
   go_in
   go_wp2
   refine wp_loop_rounds 1 ?_
   rw [rounds_succ]
   go_wp2
   go_ret
   exact ⟨rfl, Below.refl _ _⟩
 obtain ⟨b, off, rfl, _, hlt, hc⟩ := hR.resolve_left hn0
 obtain ⟨b', off', rfl, _, hlt', hc'⟩ := hR'.resolve_left hn0
 have HC := iH hc
 have HC' : Hd (∀ i, i < n → ∀ c u, ((y i).d.cells)[c]? = some u → w.cell? ⟨b', off' + i * 28 + c, none⟩ = some u) := hc'
 have HI := iH IH
 clear hR hR' hc hc' IH
 go_in
 go_wp2
 go_loopw [5] (fun i wr => ∃ k : Nat, k ≤ n ∧ i = .int .i64 k ∧ Hd (Bl w wr)) (fun i _ => n - (intOf i).toNat)
 case atStart => exact ⟨0, nZ, rfl, Below.refl _ _⟩
 obtain ⟨k, hk, rfl, HB⟩ := hrel
 by_cases hlk : k < n
 · have hlkz : (k : Int) < (n : Int) := by omega
   have HRX : Hd (∀ w', Bl wr w' → w'.rangeAt b (off + k * 28) (x k).d.cl) := fun w' hw c u hu => ((bl_trans HB.o hw).cell (p := ⟨b, off + k * 28 + c, none⟩) hlt).trans (HC.o k hlk c u hu)
   have HRY : Hd (∀ w', Bl wr w' → w'.rangeAt b' (off' + k * 28) (y k).d.cl) := fun w' hw c u hu => ((bl_trans HB.o hw).cell (p := ⟨b', off' + k * 28 + c, none⟩) hlt').trans (HC'.o k hlk c u hu)
   have Z := HI.o k hlk wr.drew (bl_trans HB.o bdr)
   go_wp2_with fail
   refine whd (fun w' => Bl wr w') ?_ fun hHeld => ?_
   · exact Below.drew brf
   refine tkB 0 17 ?_
   refine tkB 1 18 ?_
   refine tkB 2 19 ?_
   refine takeq (i := 3) 20 (v := .agg _) rfl rfl (by kernel_rfl) (by kernel_rfl) (by kernel_rfl) (fun _ _ _ h => h) (yieldsIf_load_mid (by rfl) 103 _ rfl b _ rfl _ _ HRX.o Tryz.underlying103 rfl (by kernel_rfl)) hHeld ?_
   refine tkB 4 21 ?_
   refine tkB 5 22 ?_
   refine tkB 6 23 ?_
   refine takeq (i := 7) 24 (v := .agg _) rfl rfl (by kernel_rfl) (by kernel_rfl) (by kernel_rfl) (fun _ _ _ h => h) (yieldsIf_load_mid (by rfl) 103 _ rfl b' _ rfl _ _ HRY.o Tryz.underlying103 rfl (by kernel_rfl)) hHeld ?_
   try simp only [Act.put, sA, zA, cA]
   refine rdA 8 fun K hK => ?_
   go_simp
   refine Z.mono ?_
   rintro e w2 ⟨rfl, hb2⟩
   have HB2 : Hd (Bl wr w2) := bdr.trans hb2
   clear hb2
   go_wp2_with fail
   refine hK.out _ _ ?_ fun hHeld => ?_
   · exact HB2.o
   clear hK K
   refine tkB 9 26 ?_
   refine wpAnyH_done (by kernel_rfl) ?_ _
   have HBq := iH (bl_trans HB.o HB2.o)
   clear hHeld HRX HRY Z HB HB2
   go_wp2
   go_roundw
   case rel => exact ⟨k + 1, by omega, by go_num, HBq⟩
   case measure => simp [intOf]; omega
 obtain rfl : k = n := by omega
 have hlkz : ¬ (k : Int) < (k : Int) := by omega
 go_wp2
 go_ret
 exact ⟨rfl, HB.o⟩
theorem eqElem_same (e : UT) : ∀ (e' : UT) (w : World), e.lies 0 w → e'.lies 0 w → e.same e' → Calls Tryz.prog 59 #[.agg e.d.ar, .agg e'.d.ar] w (Yes w) := by
 try unfold UN.ar
 induction e with
 | nil => exact fun _ _ h => False.elim h
 | mk d ka kb ia ib =>
  intro e' w hx hy h
  cases e' with
  | nil => exact False.elim hy
  | mk d' ka' kb' =>
  show Calls Tryz.prog 59 #[.agg d.ar, .agg d'.ar] w (Yes w)
  obtain ⟨hp, he, hv, ht, htn, ⟨an, aR⟩, ⟨bn, bR⟩, hka, hkb⟩ := hx
  obtain ⟨hp', he', hv', ht', _, ⟨_, aR'⟩, ⟨_, bR'⟩, hka', hkb'⟩ := hy
  obtain ⟨e0, ep, ee, ev, et, ⟨ea, eak⟩, ⟨eb, ebk⟩⟩ := h
  have HZ1 := iH (fun (W : World) (hb : Below _ w W) => eqPat_same d.p _ W (hp.upper (uB hb)) (hp'.upper (uB hb)) ep)
  have HZ2 := iH (fun (W : World) (hb : Below _ w W) => eqExpr_same d.e _ W (ET.lies.upper (uB hb) he) (ET.lies.upper (uB hb) he') ee)
  have HZ3 := iH (fun (W : World) (hb : Below _ w W) => eqByteS_same d.v _ W (hv.upper (uB hb)) (hv'.upper (uB hb)) ev)
  have HZ4 := iH (fun (W : World) (hb : Below _ w W) => eqTermS_same _ _ d.tc d'.tc _ _ W htn (ht.upper (uB hb)) (ht'.upper (uB hb)) et)
  have HZ5 : Hd (∀ (W : World), Bl w W → Cl 35 #[.slice d.aa d.an d.ac, .slice d'.aa d'.an d'.ac] W (Yes W)) := fun W hb => by
   rw [← ea] at aR' ⊢
   exact eqElemS_of _ _ _ _ _ ka ka' W an (aR.upper (uB hb)) (aR'.upper (uB hb)) fun i hi W' hW => ia i _ W' ((hka i hi).below (bl_trans hb hW)) ((hka' i (by rw [← ea]; exact hi)).below (bl_trans hb hW)) (eak i hi)
  have HZ6 : Hd (∀ (W : World), Bl w W → Cl 35 #[.slice d.ba d.bn d.bc, .slice d'.ba d'.bn d'.bc] W (Yes W)) := fun W hb => by
   rw [← eb] at bR' ⊢
   exact eqElemS_of _ _ _ _ _ kb kb' W bn (bR.upper (uB hb)) (bR'.upper (uB hb)) fun i hi W' hW => ib i _ W' ((hkb i hi).below (bl_trans hb hW)) ((hkb' i (by rw [← eb]; exact hi)).below (bl_trans hb hW)) (ebk i hi)
  have k0 : (d.k == d'.k) = true := by simp [e0]
  clear hp he hv ht htn an aR bn bR hka hkb hp' he' hv' ht' aR' bR' hka' hkb' e0 ep ee ev et ea eak eb ebk ia ib
  go_in
  have Z1 := HZ1.o
  go_wp2_with fail
  refine (Z1 _ (bl_alloc (bl_a _) _)).mono ?_
  rintro e w1 ⟨rfl, hb1⟩
  have HX1 := iH (((Box.new w _ 103 _).below (bl_a _)).below hb1)
  have HY1 := iH (show Box _ _ _ by have h := (Box.new _ _ 103 _).below hb1; simpa using h)
  have HB1 := iH (bl_trans (bl_alloc (bl_a _) _) hb1)
  clear hb1 Z1 HZ1
  have la : w1.rangeAt w.heap.size 16 d.e.d.cl := HX1.o.range 16 _ rfl
  have lb : w1.rangeAt (w.heap.size + 1) 16 d'.e.d.cl := HY1.o.range 16 _ rfl
  have Z2 := HZ2.o
  go_wp2_with (first | (refine ldm Tryz.underlying100 la ?_; try simp only [Act.put, sA, zA, cA]) | (refine ldm Tryz.underlying100 lb ?_; try simp only [Act.put, sA, zA, cA]))
  refine (Z2 _ HB1.o).mono ?_
  rintro e w2 ⟨rfl, hb2⟩
  have HX2 := iH (HX1.o.below hb2)
  have HY2 := iH (HY1.o.below hb2)
  have HB2 := iH (bl_trans HB1.o hb2)
  clear hb2 Z2 HZ2 HX1 HY1 HB1 la lb
  have la := HX2.o.2 24 _ rfl
  have lb := HY2.o.2 24 _ rfl
  have Z3 := HZ3.o
  go_wp2_with fail
  refine (Z3 _ HB2.o).mono ?_
  rintro e w3 ⟨rfl, hb3⟩
  have HX3 := iH (HX2.o.below hb3)
  have HY3 := iH (HY2.o.below hb3)
  have HB3 := iH (bl_trans HB2.o hb3)
  clear hb3 Z3 HZ3 HX2 HY2 HB2 la lb
  have la := HX3.o.2 25 _ rfl
  have lb := HY3.o.2 25 _ rfl
  have Z4 := HZ4.o
  go_wp2_with fail
  refine (Z4 _ HB3.o).mono ?_
  rintro e w4 ⟨rfl, hb4⟩
  have HX4 := iH (HX3.o.below hb4)
  have HY4 := iH (HY3.o.below hb4)
  have HB4 := iH (bl_trans HB3.o hb4)
  clear hb4 Z4 HZ4 HX3 HY3 HB3 la lb
  have la := HX4.o.2 26 _ rfl
  have lb := HY4.o.2 26 _ rfl
  have Z5 := HZ5.o
  go_wp2_with fail
  refine (Z5 _ HB4.o).mono ?_
  rintro e w5 ⟨rfl, hb5⟩
  have HX5 := iH (HX4.o.below hb5)
  have HY5 := iH (HY4.o.below hb5)
  have HB5 := iH (bl_trans HB4.o hb5)
  clear hb5 Z5 HZ5 HX4 HY4 HB4 la lb
  have la := HX5.o.2 27 _ rfl
  have lb := HY5.o.2 27 _ rfl
  have Z6 := HZ6.o
  go_wp2_with fail
  refine (Z6 _ HB5.o).mono ?_
  rintro e w6 ⟨rfl, hb6⟩
  have HX6 := iH (HX5.o.below hb6)
  have HY6 := iH (HY5.o.below hb6)
  have HB6 := iH (bl_trans HB5.o hb6)
  clear hb6 Z6 HZ6 HX5 HY5 HB5 la lb
  go_wp2
  go_ret
  exact ⟨rfl, HB6.o⟩
theorem eqQuery_same (x y : QY) (w : World) (hx : x.lies 0 w) (hy : y.lies 0 w) (h : x.same y) : Calls Tryz.prog 11 #[.agg x.ar, .agg y.ar] w (Yes w) := by
 try unfold QY.ar
 have HZ1 : Hd (∀ (W : World), Bl w W → Cl 34 #[.slice x.sa x.sn x.sc, .slice y.sa y.sn y.sc] W (Yes W)) := fun W hb => by
  have hR' := hy.s.1
  rw [← h.s.1] at hR' ⊢
  exact eqSelS_of _ _ _ _ _ _ _ W hx.s.2.2 (hx.s.1.upper (uB hb)) (hR'.upper (uB hb)) fun i hi W' hW => eqSel_same _ _ W' ((hx.s.2.1 i hi).upper (uB (bl_trans hb hW))) ((hy.s.2.1 i (by rw [← h.s.1]; exact hi)).upper (uB (bl_trans hb hW))) (h.s.2 i hi)
 have HZ2 : Hd (∀ (W : World), Bl w W → Cl 35 #[.slice x.ba x.bn x.bc, .slice y.ba y.bn y.bc] W (Yes W)) := fun W hb => by
  have hR' := hy.b.1
  rw [← h.b.1] at hR' ⊢
  exact eqElemS_of _ _ _ _ _ _ _ W hx.b.2.2 (hx.b.1.upper (uB hb)) (hR'.upper (uB hb)) fun i hi W' hW => eqElem_same _ _ W' ((hx.b.2.1 i hi).upper (uB (bl_trans hb hW))) ((hy.b.2.1 i (by rw [← h.b.1]; exact hi)).upper (uB (bl_trans hb hW))) (h.b.2 i hi)
 have HZ3 : Hd (∀ (W : World), Bl w W → Cl 10 #[.slice x.ga x.gn x.gc, .slice y.ga y.gn y.gc] W (Yes W)) := fun W hb => by
  have hR' := hy.g.1
  rw [← h.g.1] at hR' ⊢
  exact eqByteSS_of _ _ _ _ _ _ _ W hx.g.2.2 (hx.g.1.upper (uB hb)) (hR'.upper (uB hb)) fun i hi W' hW => eqByteS_same _ _ W' ((hx.g.2.1 i hi).upper (uB (bl_trans hb hW))) ((hy.g.2.1 i (by rw [← h.g.1]; exact hi)).upper (uB (bl_trans hb hW))) (h.g.2 i hi)
 have HZ4 : Hd (∀ (W : World), Bl w W → Cl 36 #[.slice x.oa x.on x.oc, .slice y.oa y.on y.oc] W (Yes W)) := fun W hb => by
  have hR' := hy.o.1
  rw [← h.o.1] at hR' ⊢
  exact eqKeyS_of _ _ _ _ _ _ _ W hx.o.2.2 (hx.o.1.upper (uB hb)) (hR'.upper (uB hb)) fun i hi W' hW => eqKey_same _ _ W' ((hx.o.2.1 i hi).upper (uB (bl_trans hb hW))) ((hy.o.2.1 i (by rw [← h.o.1]; exact hi)).upper (uB (bl_trans hb hW))) (h.o.2 i hi)
 have k0 : (x.ask == y.ask) = true := by simp [h.ask]
 have k1 : (x.ask != y.ask) = false := by simp [h.ask]
 have k2 : (x.dis == y.dis) = true := by simp [h.dis]
 have k3 : (x.dis != y.dis) = false := by simp [h.dis]
 have k4 : (x.lim == y.lim) = true := by simp [h.lim]
 have k5 : (x.off == y.off) = true := by simp [h.off]
 clear hx hy h
 go_in
 have Z1 := HZ1.o
 go_wp2_with fail
 refine (Z1 _ (bl_alloc (bl_a _) _)).mono ?_
 rintro e w1 ⟨rfl, hb1⟩
 have HX1 := iH (((Box.new w _ 34 _).below (bl_a _)).below hb1)
 have HY1 := iH (show Box _ _ _ by have h := (Box.new _ _ 34 _).below hb1; simpa using h)
 have HB1 := iH (bl_trans (bl_alloc (bl_a _) _) hb1)
 clear hb1 Z1 HZ1
 have la := HX1.o.2 3 _ rfl
 have lb := HY1.o.2 3 _ rfl
 have Z2 := HZ2.o
 go_wp2_with fail
 refine (Z2 _ HB1.o).mono ?_
 rintro e w2 ⟨rfl, hb2⟩
 have HX2 := iH (HX1.o.below hb2)
 have HY2 := iH (HY1.o.below hb2)
 have HB2 := iH (bl_trans HB1.o hb2)
 clear hb2 Z2 HZ2 HX1 HY1 HB1 la lb
 have la := HX2.o.2 4 _ rfl
 have lb := HY2.o.2 4 _ rfl
 have Z3 := HZ3.o
 go_wp2_with fail
 refine (Z3 _ HB2.o).mono ?_
 rintro e w3 ⟨rfl, hb3⟩
 have HX3 := iH (HX2.o.below hb3)
 have HY3 := iH (HY2.o.below hb3)
 have HB3 := iH (bl_trans HB2.o hb3)
 clear hb3 Z3 HZ3 HX2 HY2 HB2 la lb
 have la := HX3.o.2 5 _ rfl
 have lb := HY3.o.2 5 _ rfl
 have Z4 := HZ4.o
 go_wp2_with fail
 refine (Z4 _ HB3.o).mono ?_
 rintro e w4 ⟨rfl, hb4⟩
 have HX4 := iH (HX3.o.below hb4)
 have HY4 := iH (HY3.o.below hb4)
 have HB4 := iH (bl_trans HB3.o hb4)
 clear hb4 Z4 HZ4 HX3 HY3 HB3 la lb
 have l1 := HX4.o.2 6 _ rfl
 have l2 := HY4.o.2 6 _ rfl
 have l3 := HX4.o.2 7 _ rfl
 have l4 := HY4.o.2 7 _ rfl
 go_wp2
 go_ret
 exact ⟨rfl, HB4.o⟩
open Go.ChangeShapes Go.WideShapes Go.ChangeAt Go.RowKit Go.Joins Go.Deep
def tmCells (t : Tm) : List Value := [.int .i64 t.k, .slice t.a t.len t.cap, .int .i64 t.n, .int .i64 t.s]
set_option maxRecDepth 100000 in
theorem trod_term {H : Type} {enc : TypeId × Value → H} {W : World} {fuel : Nat} {cs : List Value} {x : DataW H × List MemPlace}
 (h : DataW.trod enc Tryz.prog W 0 (fun _ => true) true fuel 78 cs = some x) :
 ∃ (t : Tm) (bs : List Int), cs = tmCells t ∧ t.fits ∧ t.len ≤ 9223372036854775807 ∧ (t.len ≤ 1048576 → Bs W t.a t.len bs) := by
 obtain ⟨y0, y1, y2, y3, m, _, hlen, hy0, hy1, hy2, hy3⟩ := trod_struct4 Tryz.underlying78 h
 rw [Tryz.cells78] at hlen
 match cs, hlen with
 | [c0, c1, c2, c3], _ =>
  have e3 : Tryz.prog.cellsOf 3 = 1 := by kernel_rfl
  have e8 : Tryz.prog.cellsOf 42 = 1 := by kernel_rfl
  simp [e3, e8] at hy0 hy1 hy2 hy3
  obtain ⟨k, e0, _, wk⟩ := DataW.trod_int Tryz.underlying3 hy0
  obtain ⟨n, e2, _, wn⟩ := DataW.trod_int Tryz.underlying3 hy2
  obtain ⟨s, e3, _, ws⟩ := DataW.trod_int Tryz.underlying3 hy3
  simp at e0 e2 e3
  subst e0 e2 e3
  have bn := bounds_i64 wn
  have bsc := bounds_i64 ws
  rcases open_ints Tryz.underlying42 Tryz.underlying5 Tryz.cells5 hy1 with ⟨hcs, _⟩ | ⟨x, l, c, zs, hcs, _, hl, hm, hz, _, hcell, hwz⟩
  · simp at hcs
    subst hcs
    exact ⟨⟨k, none, 0, 0, n, s⟩, [], rfl, ⟨bn.1, bn.2, bsc.1, bsc.2⟩, by show (0 : Nat) ≤ _; omega, fun _ => ⟨rfl, by show (0 : Nat) ≤ _; omega, by simp, .inl rfl⟩⟩
  simp at hcs
  subst hcs
  simp only [if_true] at hz
  refine ⟨⟨k, some x, l, c, n, s⟩, zs.take l, rfl, ⟨bn.1, bn.2, bsc.1, bsc.2⟩, ?_, fun h20 => ?_⟩
  · show l ≤ _
    unfold maxLen at hm
    omega
  exact Bs.of_cells hl hz h20 hcell hwz
end Go.Proofs.YthljoojcpbignaaGreatDoor
