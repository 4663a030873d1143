import Derived.Test.YthljoojcpbignaaGreatDoorMk04
import Derived.Test.YthljoojcpbignaaGreatDoorMk24
import Derived.Test.YthljoojcpbignaaGreatDoorMk01
import Derived.Test.YthljoojcpbignaaGreatDoorMk02
import Derived.Deep.Strs
import Derived.Deep.Slices
namespace Go.Proofs.YthljoojcpbignaaGreatDoor
/- UtC -/
open Go.RowKit Go.Deep
set_option maxHeartbeats 40000000
set_option maxRecDepth 100000
theorem eqSel_same (x y : SE) (w : World) (hx : x.lies 0 w) (hy : y.lies 0 w) (h : x.same y) : Calls Tryz.prog 58 #[.agg x.ar, .agg y.ar] w (Yes w) := by
 have HZ1 := hid (fun (W : World) (hb : Below _ w W) => eqByteS_same _ _ W (hx.1.upper (uB hb)) (hy.1.upper (uB hb)) h.2.1)
 have HZ2 := hid (fun (W : World) (hb : Below _ w W) => eqByteS_same x.v y.v W (hx.2.upper (uB hb)) (hy.2.upper (uB hb)) h.2.2)
 have k0 : (x.fn == y.fn) = true := by simp [h.1]
 clear hx hy h
 go_in
 have Z1 := HZ1.out
 go_wp2_with fail
 refine (Z1 _ (bl_alloc (bl_a _) _)).mono ?_
 rintro e w1 ⟨rfl, hb1⟩
 have HX1 := hid (((Box.new w _ 105 _).below (bl_a _)).below hb1)
 have HY1 := hid (show Box _ _ _ by have h := (Box.new _ _ 105 _).below hb1; simpa using h)
 have HB1 := hid (bl_trans (bl_alloc (bl_a _) _) hb1)
 clear hb1 Z1 HZ1
 have la := HX1.out.2 2 _ rfl
 have lb := HY1.out.2 2 _ rfl
 have Z2 := HZ2.out
 go_wp2_with fail
 refine (Z2 _ HB1.out).mono ?_
 rintro e w2 ⟨rfl, hb2⟩
 have HX2 := hid (HX1.out.below hb2)
 have HY2 := hid (HY1.out.below hb2)
 have HB2 := hid (bl_trans HB1.out hb2)
 clear hb2 Z2 HZ2 HX1 HY1 HB1 la lb
 go_wp2_with fail
 go_ret
 exact ⟨rfl, HB2.out⟩
theorem eqSelS_of (a a' : Option Addr) (cap cap' n : Nat) (x y : Nat → SE) (w : World) (hn : n ≤ 1048576) (hR : KRow 0 w 3 a n (fun i => (x i).cells)) (hR' : KRow 0 w 3 a' n (fun i => (y i).cells))
   (IH : ∀ i, i < n → ∀ (W : World), Bl w W → Calls Tryz.prog 58 #[.agg (x i).ar, .agg (y i).ar] W (Yes W)) :
   Calls Tryz.prog 34 #[.slice a n cap, .slice a' n cap'] w (Yes w) := by
 try unfold SE.ar
 by_cases hn0 : n = 0
 · subst hn0
   clear hR hR' IH hn
   go_in
   go_wp2
   refine wp_loop_rounds 1 ?_
   rw [rounds_succ]
   go_wp2
   go_ret
   exact ⟨rfl, Below.refl _ _⟩
 obtain ⟨b, off, rfl, _, hlt, hc⟩ := hR.resolve_left hn0
 obtain ⟨b', off', rfl, _, hlt', hc'⟩ := hR'.resolve_left hn0
 have HC := hid hc
 have HC' : Hid (∀ i, i < n → ∀ c u, ((y i).cells)[c]? = some u → w.cell? ⟨b', off' + i * 3 + c, none⟩ = some u) := hc'
 have HI := hid IH
 clear hR hR' hc hc' IH
 go_in
 go_wp2
 go_loopw [5] (fun i wr => ∃ k : Nat, k ≤ n ∧ i = .int .i64 k ∧ Hid (Bl w wr)) (fun i _ => n - (intOf i).toNat)
 case atStart => exact ⟨0, Nat.zero_le _, rfl, Below.refl _ _⟩
 obtain ⟨k, hk, rfl, HB⟩ := hrel
 by_cases hlk : k < n
 · have hlkz : (k : Int) < (n : Int) := by omega
   have HRX : Hid (∀ w', Bl wr w' → w'.rangeAt b (off + k * 3) (x k).cl) := fun w' hw c u hu => ((bl_trans HB.out hw).cell (p := ⟨b, off + k * 3 + c, none⟩) hlt).trans (HC.out k hlk c u hu)
   have HRY : Hid (∀ w', Bl wr w' → w'.rangeAt b' (off' + k * 3) (y k).cl) := fun w' hw c u hu => ((bl_trans HB.out hw).cell (p := ⟨b', off' + k * 3 + c, none⟩) hlt').trans (HC'.out k hlk c u hu)
   have Z := HI.out k hlk wr.drew (bl_trans HB.out bdr)
   go_wp2_with fail
   refine wp_region_held_drew (S := fun w' => Bl wr w') (by kernel_rfl) ?_ (fun hHeld => ?_)
   · exact Below.drew (Below.refl _ _)
   refine tkB 0 17 ?_
   refine tkB 1 18 ?_
   refine tkB 2 19 ?_
   refine takeq (i := 3) 20 (v := .agg _) rfl rfl (by kernel_rfl) (by kernel_rfl) (by kernel_rfl) (fun _ _ _ h => h) (yieldsIf_load_mid (by rfl) 105 _ rfl b _ rfl _ _ HRX.out Tryz.underlying105 rfl (by kernel_rfl)) hHeld ?_
   refine tkB 4 21 ?_
   refine tkB 5 22 ?_
   refine tkB 6 23 ?_
   refine takeq (i := 7) 24 (v := .agg _) rfl rfl (by kernel_rfl) (by kernel_rfl) (by kernel_rfl) (fun _ _ _ h => h) (yieldsIf_load_mid (by rfl) 105 _ rfl b' _ rfl _ _ HRY.out Tryz.underlying105 rfl (by kernel_rfl)) hHeld ?_
   try simp only [Act.put, sA, zA, cA]
   refine rdA 8 fun K hK => ?_
   go_simp
   refine Z.mono ?_
   rintro e w2 ⟨rfl, hb2⟩
   have HB2 : Hid (Bl wr w2) := bdr.trans hb2
   clear hb2
   go_wp2_with fail
   refine hK.out _ _ ?_ (fun hHeld => ?_)
   · exact HB2.out
   clear hK K
   refine tkB 9 26 ?_
   refine wpAnyH_done (by kernel_rfl) ?_ _
   have HBq := hid (bl_trans HB.out HB2.out)
   clear hHeld HRX HRY Z HB HB2
   go_wp2_with fail
   go_roundw
   case rel => exact ⟨k + 1, by omega, by go_num, HBq⟩
   case measure => simp [intOf]; omega
 obtain rfl : k = n := by omega
 have hlkz : ¬ (k : Int) < (k : Int) := by omega
 go_wp2_with fail
 go_ret
 exact ⟨rfl, HB.out⟩
theorem eqKey_same (x y : KY) (w : World) (hx : x.lies 0 w) (hy : y.lies 0 w) (h : x.same y) : Calls Tryz.prog 60 #[.agg #[.slice x.v.a x.v.len x.v.cap, .bool x.down], .agg #[.slice y.v.a y.v.len y.v.cap, .bool y.down]] w (Yes w) := by
 have HZ1 := hid (fun (W : World) (hb : Below _ w W) => eqByteS_same x.v y.v W (BsF.upper hx (uB hb)) (BsF.upper hy (uB hb)) h.1)
 have k0 : (x.down == y.down) = true := by simp [h.2]
 have k1 : (x.down != y.down) = false := by simp [h.2]
 clear hx hy h
 go_in
 have Z1 := HZ1.out
 go_wp2_with fail
 refine (Z1 _ (bl_alloc (bl_a _) _)).mono ?_
 rintro e w1 ⟨rfl, hb1⟩
 have HX1 := hid (((Box.new w _ 108 _).below (bl_a _)).below hb1)
 have HY1 := hid (show Box _ _ _ by have h := (Box.new _ _ 108 _).below hb1; simpa using h)
 have HB1 := hid (bl_trans (bl_alloc (bl_a _) _) hb1)
 clear hb1 Z1 HZ1
 have la := HX1.out.2 1 _ rfl
 have lb := HY1.out.2 1 _ rfl
 go_wp2_with fail
 go_ret
 exact ⟨rfl, HB1.out⟩
theorem eqKeyS_of (a a' : Option Addr) (cap cap' n : Nat) (x y : Nat → KY) (w : World) (hn : n ≤ 1048576) (hR : KRow 0 w 2 a n (fun i => (x i).cells)) (hR' : KRow 0 w 2 a' n (fun i => (y i).cells))
   (IH : ∀ i, i < n → ∀ (W : World), Bl w W → Calls Tryz.prog 60 #[.agg #[.slice (x i).v.a (x i).v.len (x i).v.cap, .bool (x i).down], .agg #[.slice (y i).v.a (y i).v.len (y i).v.cap, .bool (y i).down]] W (Yes W)) :
   Calls Tryz.prog 36 #[.slice a n cap, .slice a' n cap'] w (Yes w) := by
 by_cases hn0 : n = 0
 · subst hn0
   clear hR hR' IH hn
   go_in
   go_wp2
   refine wp_loop_rounds 1 ?_
   rw [rounds_succ]
   go_wp2
   go_ret
   exact ⟨rfl, Below.refl _ _⟩
 obtain ⟨b, off, rfl, _, hlt, hc⟩ := hR.resolve_left hn0
 obtain ⟨b', off', rfl, _, hlt', hc'⟩ := hR'.resolve_left hn0
 have HC := hid hc
 have HC' : Hid (∀ i, i < n → ∀ c u, ((y i).cells)[c]? = some u → w.cell? ⟨b', off' + i * 2 + c, none⟩ = some u) := hc'
 have HI := hid IH
 clear hR hR' hc hc' IH
 go_in
 go_wp2
 go_loopw [5] (fun i wr => ∃ k : Nat, k ≤ n ∧ i = .int .i64 k ∧ Hid (Bl w wr)) (fun i _ => n - (intOf i).toNat)
 case atStart => exact ⟨0, Nat.zero_le _, rfl, Below.refl _ _⟩
 obtain ⟨k, hk, rfl, HB⟩ := hrel
 by_cases hlk : k < n
 · have hlkz : (k : Int) < (n : Int) := by omega
   have HRX : Hid (∀ w', Bl wr w' → w'.rangeAt b (off + k * 2) [.slice (x k).v.a (x k).v.len (x k).v.cap, .bool (x k).down]) := fun w' hw c u hu => ((bl_trans HB.out hw).cell (p := ⟨b, off + k * 2 + c, none⟩) hlt).trans (HC.out k hlk c u hu)
   have HRY : Hid (∀ w', Bl wr w' → w'.rangeAt b' (off' + k * 2) [.slice (y k).v.a (y k).v.len (y k).v.cap, .bool (y k).down]) := fun w' hw c u hu => ((bl_trans HB.out hw).cell (p := ⟨b', off' + k * 2 + c, none⟩) hlt').trans (HC'.out k hlk c u hu)
   have Z := HI.out k hlk wr.drew (bl_trans HB.out bdr)
   go_wp2_with fail
   refine wp_region_held_drew (S := fun w' => Bl wr w') (by kernel_rfl) ?_ (fun hHeld => ?_)
   · exact Below.drew (Below.refl _ _)
   refine tkB 0 17 ?_
   refine tkB 1 18 ?_
   refine tkB 2 19 ?_
   refine takeq (i := 3) 20 (v := .agg _) rfl rfl (by kernel_rfl) (by kernel_rfl) (by kernel_rfl) (fun _ _ _ h => h) (yieldsIf_load_mid (by rfl) 108 _ rfl b _ rfl _ _ HRX.out Tryz.underlying108 rfl (by kernel_rfl)) hHeld ?_
   refine tkB 4 21 ?_
   refine tkB 5 22 ?_
   refine tkB 6 23 ?_
   refine takeq (i := 7) 24 (v := .agg _) rfl rfl (by kernel_rfl) (by kernel_rfl) (by kernel_rfl) (fun _ _ _ h => h) (yieldsIf_load_mid (by rfl) 108 _ rfl b' _ rfl _ _ HRY.out Tryz.underlying108 rfl (by kernel_rfl)) hHeld ?_
   try simp only [Act.put, sA, zA, cA]
   refine rdA 8 fun K hK => ?_
   go_simp
   refine Z.mono ?_
   rintro e w2 ⟨rfl, hb2⟩
   have HB2 : Hid (Bl wr w2) := bdr.trans hb2
   clear hb2
   go_wp2_with fail
   refine hK.out _ _ ?_ (fun hHeld => ?_)
   · exact HB2.out
   clear hK K
   refine tkB 9 26 ?_
   refine wpAnyH_done (by kernel_rfl) ?_ _
   have HBq := hid (bl_trans HB.out HB2.out)
   clear hHeld HRX HRY Z HB HB2
   go_wp2_with fail
   go_roundw
   case rel => exact ⟨k + 1, by omega, by go_num, HBq⟩
   case measure => simp [intOf]; omega
 obtain rfl : k = n := by omega
 have hlkz : ¬ (k : Int) < (k : Int) := by omega
 go_wp2_with fail
 go_ret
 exact ⟨rfl, HB.out⟩
theorem eqElemS_of (a a' : Option Addr) (cap cap' n : Nat) (x y : Nat → UT) (w : World) (hn : n ≤ 1048576) (hR : KRow 0 w 28 a n (fun i => (x i).d.cells)) (hR' : KRow 0 w 28 a' n (fun i => (y i).d.cells))
   (IH : ∀ i, i < n → ∀ (W : World), Bl w W → Calls Tryz.prog 59 #[.agg (x i).d.ar, .agg (y i).d.ar] W (Yes W)) :
   Calls Tryz.prog 35 #[.slice a n cap, .slice a' n cap'] w (Yes w) := by
 try unfold UN.ar
 by_cases hn0 : n = 0
 · subst hn0
   clear hR hR' IH hn
   go_in
   go_wp2
   refine wp_loop_rounds 1 ?_
   rw [rounds_succ]
   go_wp2
   go_ret
   exact ⟨rfl, Below.refl _ _⟩
 obtain ⟨b, off, rfl, _, hlt, hc⟩ := hR.resolve_left hn0
 obtain ⟨b', off', rfl, _, hlt', hc'⟩ := hR'.resolve_left hn0
 have HC := hid hc
 have HC' : Hid (∀ i, i < n → ∀ c u, ((y i).d.cells)[c]? = some u → w.cell? ⟨b', off' + i * 28 + c, none⟩ = some u) := hc'
 have HI := hid IH
 clear hR hR' hc hc' IH
 go_in
 go_wp2
 go_loopw [5] (fun i wr => ∃ k : Nat, k ≤ n ∧ i = .int .i64 k ∧ Hid (Bl w wr)) (fun i _ => n - (intOf i).toNat)
 case atStart => exact ⟨0, Nat.zero_le _, rfl, Below.refl _ _⟩
 obtain ⟨k, hk, rfl, HB⟩ := hrel
 by_cases hlk : k < n
 · have hlkz : (k : Int) < (n : Int) := by omega
   have HRX : Hid (∀ w', Bl wr w' → w'.rangeAt b (off + k * 28) (x k).d.cl) := fun w' hw c u hu => ((bl_trans HB.out hw).cell (p := ⟨b, off + k * 28 + c, none⟩) hlt).trans (HC.out k hlk c u hu)
   have HRY : Hid (∀ w', Bl wr w' → w'.rangeAt b' (off' + k * 28) (y k).d.cl) := fun w' hw c u hu => ((bl_trans HB.out hw).cell (p := ⟨b', off' + k * 28 + c, none⟩) hlt').trans (HC'.out k hlk c u hu)
   have Z := HI.out k hlk wr.drew (bl_trans HB.out bdr)
   go_wp2_with fail
   refine wp_region_held_drew (S := fun w' => Bl wr w') (by kernel_rfl) ?_ (fun hHeld => ?_)
   · exact Below.drew (Below.refl _ _)
   refine tkB 0 17 ?_
   refine tkB 1 18 ?_
   refine tkB 2 19 ?_
   refine takeq (i := 3) 20 (v := .agg _) rfl rfl (by kernel_rfl) (by kernel_rfl) (by kernel_rfl) (fun _ _ _ h => h) (yieldsIf_load_mid (by rfl) 103 _ rfl b _ rfl _ _ HRX.out Tryz.underlying103 rfl (by kernel_rfl)) hHeld ?_
   refine tkB 4 21 ?_
   refine tkB 5 22 ?_
   refine tkB 6 23 ?_
   refine takeq (i := 7) 24 (v := .agg _) rfl rfl (by kernel_rfl) (by kernel_rfl) (by kernel_rfl) (fun _ _ _ h => h) (yieldsIf_load_mid (by rfl) 103 _ rfl b' _ rfl _ _ HRY.out Tryz.underlying103 rfl (by kernel_rfl)) hHeld ?_
   try simp only [Act.put, sA, zA, cA]
   refine rdA 8 fun K hK => ?_
   go_simp
   refine Z.mono ?_
   rintro e w2 ⟨rfl, hb2⟩
   have HB2 : Hid (Bl wr w2) := bdr.trans hb2
   clear hb2
   go_wp2_with fail
   refine hK.out _ _ ?_ (fun hHeld => ?_)
   · exact HB2.out
   clear hK K
   refine tkB 9 26 ?_
   refine wpAnyH_done (by kernel_rfl) ?_ _
   have HBq := hid (bl_trans HB.out HB2.out)
   clear hHeld HRX HRY Z HB HB2
   go_wp2_with fail
   go_roundw
   case rel => exact ⟨k + 1, by omega, by go_num, HBq⟩
   case measure => simp [intOf]; omega
 obtain rfl : k = n := by omega
 have hlkz : ¬ (k : Int) < (k : Int) := by omega
 go_wp2_with fail
 go_ret
 exact ⟨rfl, HB.out⟩
theorem eqElem_same (e : UT) : ∀ (e' : UT) (w : World), e.lies 0 w → e'.lies 0 w → e.same e' → Calls Tryz.prog 59 #[.agg e.d.ar, .agg e'.d.ar] w (Yes w) := by
 try unfold UN.ar
 induction e with
 | nil => exact fun _ _ h => False.elim h
 | mk d ka kb ia ib =>
   intro e' w hx hy h
   cases e' with
   | nil => exact False.elim hy
   | mk d' ka' kb' =>
   show Calls Tryz.prog 59 #[.agg #[.int .i64 d.k, .slice d.p.s.v.a d.p.s.v.len d.p.s.v.cap, .int .i64 d.p.s.t.t.k, .slice d.p.s.t.t.a d.p.s.t.t.len d.p.s.t.t.cap, .int .i64 d.p.s.t.t.n, .int .i64 d.p.s.t.t.s, .slice d.p.p.v.a d.p.p.v.len d.p.p.v.cap, .int .i64 d.p.p.t.t.k, .slice d.p.p.t.t.a d.p.p.t.t.len d.p.p.t.t.cap, .int .i64 d.p.p.t.t.n, .int .i64 d.p.p.t.t.s, .slice d.p.o.v.a d.p.o.v.len d.p.o.v.cap, .int .i64 d.p.o.t.t.k, .slice d.p.o.t.t.a d.p.o.t.t.len d.p.o.t.t.cap, .int .i64 d.p.o.t.t.n, .int .i64 d.p.o.t.t.s, .int .i64 d.e.d.k, .int .i64 d.e.d.op, .slice d.e.d.v.a d.e.d.v.len d.e.d.v.cap, .int .i64 d.e.d.t.t.k, .slice d.e.d.t.t.a d.e.d.t.t.len d.e.d.t.t.cap, .int .i64 d.e.d.t.t.n, .int .i64 d.e.d.t.t.s, .slice d.e.d.ka d.e.d.n d.e.d.kc, .slice d.v.a d.v.len d.v.cap, .slice d.ta d.tb.length d.tc, .slice d.aa d.an d.ac, .slice d.ba d.bn d.bc], .agg #[.int .i64 d'.k, .slice d'.p.s.v.a d'.p.s.v.len d'.p.s.v.cap, .int .i64 d'.p.s.t.t.k, .slice d'.p.s.t.t.a d'.p.s.t.t.len d'.p.s.t.t.cap, .int .i64 d'.p.s.t.t.n, .int .i64 d'.p.s.t.t.s, .slice d'.p.p.v.a d'.p.p.v.len d'.p.p.v.cap, .int .i64 d'.p.p.t.t.k, .slice d'.p.p.t.t.a d'.p.p.t.t.len d'.p.p.t.t.cap, .int .i64 d'.p.p.t.t.n, .int .i64 d'.p.p.t.t.s, .slice d'.p.o.v.a d'.p.o.v.len d'.p.o.v.cap, .int .i64 d'.p.o.t.t.k, .slice d'.p.o.t.t.a d'.p.o.t.t.len d'.p.o.t.t.cap, .int .i64 d'.p.o.t.t.n, .int .i64 d'.p.o.t.t.s, .int .i64 d'.e.d.k, .int .i64 d'.e.d.op, .slice d'.e.d.v.a d'.e.d.v.len d'.e.d.v.cap, .int .i64 d'.e.d.t.t.k, .slice d'.e.d.t.t.a d'.e.d.t.t.len d'.e.d.t.t.cap, .int .i64 d'.e.d.t.t.n, .int .i64 d'.e.d.t.t.s, .slice d'.e.d.ka d'.e.d.n d'.e.d.kc, .slice d'.v.a d'.v.len d'.v.cap, .slice d'.ta d'.tb.length d'.tc, .slice d'.aa d'.an d'.ac, .slice d'.ba d'.bn d'.bc]] w (Yes w)
   obtain ⟨hp, he, hv, ht, htn, ⟨an, aR⟩, ⟨bn, bR⟩, hka, hkb⟩ := hx
   obtain ⟨hp', he', hv', ht', _, ⟨_, aR'⟩, ⟨_, bR'⟩, hka', hkb'⟩ := hy
   obtain ⟨e0, ep, ee, ev, et, ⟨ea, eak⟩, ⟨eb, ebk⟩⟩ := h
   have HZ1 := hid (fun (W : World) (hb : Below _ w W) => eqPat_same d.p _ W (hp.upper (uB hb)) (hp'.upper (uB hb)) ep)
   have HZ2 := hid (fun (W : World) (hb : Below _ w W) => eqExpr_same d.e _ W (ET.lies.upper (uB hb) he) (ET.lies.upper (uB hb) he') ee)
   have HZ3 := hid (fun (W : World) (hb : Below _ w W) => eqByteS_same d.v _ W (hv.upper (uB hb)) (hv'.upper (uB hb)) ev)
   have HZ4 := hid (fun (W : World) (hb : Below _ w W) => eqTermS_same _ _ d.tc d'.tc _ _ W htn (ht.upper (uB hb)) (ht'.upper (uB hb)) et)
   have HZ5 : Hid (∀ (W : World), Bl w W → Cl 35 #[.slice d.aa d.an d.ac, .slice d'.aa d'.an d'.ac] W (Yes W)) := fun W hb => by
     rw [← ea] at aR' ⊢
     exact eqElemS_of _ _ _ _ _ ka ka' W an (aR.upper (uB hb)) (aR'.upper (uB hb)) fun i hi W' hW => ia i _ W' ((hka i hi).below (bl_trans hb hW)) ((hka' i (by rw [← ea]; exact hi)).below (bl_trans hb hW)) (eak i hi)
   have HZ6 : Hid (∀ (W : World), Bl w W → Cl 35 #[.slice d.ba d.bn d.bc, .slice d'.ba d'.bn d'.bc] W (Yes W)) := fun W hb => by
     rw [← eb] at bR' ⊢
     exact eqElemS_of _ _ _ _ _ kb kb' W bn (bR.upper (uB hb)) (bR'.upper (uB hb)) fun i hi W' hW => ib i _ W' ((hkb i hi).below (bl_trans hb hW)) ((hkb' i (by rw [← eb]; exact hi)).below (bl_trans hb hW)) (ebk i hi)
   have k0 : (d.k == d'.k) = true := by simp [e0]
   clear hp he hv ht htn an aR bn bR hka hkb hp' he' hv' ht' aR' bR' hka' hkb' e0 ep ee ev et ea eak eb ebk ia ib
   go_in
   have Z1 := HZ1.out
   go_wp2_with fail
   refine (Z1 _ (bl_alloc (bl_a _) _)).mono ?_
   rintro e w1 ⟨rfl, hb1⟩
   have HX1 := hid (((Box.new w _ 103 _).below (bl_a _)).below hb1)
   have HY1 := hid (show Box _ _ _ by have h := (Box.new _ _ 103 _).below hb1; simpa using h)
   have HB1 := hid (bl_trans (bl_alloc (bl_a _) _) hb1)
   clear hb1 Z1 HZ1
   have la : w1.rangeAt w.heap.size 16 d.e.d.cl := HX1.out.range 16 _ rfl
   have lb : w1.rangeAt (w.heap.size + 1) 16 d'.e.d.cl := HY1.out.range 16 _ rfl
   have Z2 := HZ2.out
   go_wp2_with (first | (refine wpList_load_mid rfl 100 _ rfl w.heap.size 16 rfl d.e.d.cl _ la Tryz.underlying100 rfl (by kernel_rfl) ?_; try simp only [Act.put, sA, zA, cA]) | (refine wpList_load_mid rfl 100 _ rfl (w.heap.size + 1) 16 rfl d'.e.d.cl _ lb Tryz.underlying100 rfl (by kernel_rfl) ?_; try simp only [Act.put, sA, zA, cA]))
   refine (Z2 _ HB1.out).mono ?_
   rintro e w2 ⟨rfl, hb2⟩
   have HX2 := hid (HX1.out.below hb2)
   have HY2 := hid (HY1.out.below hb2)
   have HB2 := hid (bl_trans HB1.out hb2)
   clear hb2 Z2 HZ2 HX1 HY1 HB1 la lb
   have la := HX2.out.2 24 _ rfl
   have lb := HY2.out.2 24 _ rfl
   have Z3 := HZ3.out
   go_wp2_with fail
   refine (Z3 _ HB2.out).mono ?_
   rintro e w3 ⟨rfl, hb3⟩
   have HX3 := hid (HX2.out.below hb3)
   have HY3 := hid (HY2.out.below hb3)
   have HB3 := hid (bl_trans HB2.out hb3)
   clear hb3 Z3 HZ3 HX2 HY2 HB2 la lb
   have la := HX3.out.2 25 _ rfl
   have lb := HY3.out.2 25 _ rfl
   have Z4 := HZ4.out
   go_wp2_with fail
   refine (Z4 _ HB3.out).mono ?_
   rintro e w4 ⟨rfl, hb4⟩
   have HX4 := hid (HX3.out.below hb4)
   have HY4 := hid (HY3.out.below hb4)
   have HB4 := hid (bl_trans HB3.out hb4)
   clear hb4 Z4 HZ4 HX3 HY3 HB3 la lb
   have la := HX4.out.2 26 _ rfl
   have lb := HY4.out.2 26 _ rfl
   have Z5 := HZ5.out
   go_wp2_with fail
   refine (Z5 _ HB4.out).mono ?_
   rintro e w5 ⟨rfl, hb5⟩
   have HX5 := hid (HX4.out.below hb5)
   have HY5 := hid (HY4.out.below hb5)
   have HB5 := hid (bl_trans HB4.out hb5)
   clear hb5 Z5 HZ5 HX4 HY4 HB4 la lb
   have la := HX5.out.2 27 _ rfl
   have lb := HY5.out.2 27 _ rfl
   have Z6 := HZ6.out
   go_wp2_with fail
   refine (Z6 _ HB5.out).mono ?_
   rintro e w6 ⟨rfl, hb6⟩
   have HX6 := hid (HX5.out.below hb6)
   have HY6 := hid (HY5.out.below hb6)
   have HB6 := hid (bl_trans HB5.out hb6)
   clear hb6 Z6 HZ6 HX5 HY5 HB5 la lb
   go_wp2_with fail
   go_ret
   exact ⟨rfl, HB6.out⟩
theorem eqQuery_same (x y : QY) (w : World) (hx : x.lies 0 w) (hy : y.lies 0 w) (h : x.same y) : Calls Tryz.prog 11 #[.agg x.ar, .agg y.ar] w (Yes w) := by
 try unfold QY.ar
 have HZ1 : Hid (∀ (W : World), Bl w W → Cl 34 #[.slice x.sa x.sn x.sc, .slice y.sa y.sn y.sc] W (Yes W)) := fun W hb => by
   have hR' := hy.s.1
   rw [← h.s.1] at hR' ⊢
   exact eqSelS_of _ _ _ _ _ _ _ W hx.s.2.2 (hx.s.1.upper (uB hb)) (hR'.upper (uB hb)) fun i hi W' hW => eqSel_same _ _ W' ((hx.s.2.1 i hi).upper (uB (bl_trans hb hW))) ((hy.s.2.1 i (by rw [← h.s.1]; exact hi)).upper (uB (bl_trans hb hW))) (h.s.2 i hi)
 have HZ2 : Hid (∀ (W : World), Bl w W → Cl 35 #[.slice x.ba x.bn x.bc, .slice y.ba y.bn y.bc] W (Yes W)) := fun W hb => by
   have hR' := hy.b.1
   rw [← h.b.1] at hR' ⊢
   exact eqElemS_of _ _ _ _ _ _ _ W hx.b.2.2 (hx.b.1.upper (uB hb)) (hR'.upper (uB hb)) fun i hi W' hW => eqElem_same _ _ W' ((hx.b.2.1 i hi).upper (uB (bl_trans hb hW))) ((hy.b.2.1 i (by rw [← h.b.1]; exact hi)).upper (uB (bl_trans hb hW))) (h.b.2 i hi)
 have HZ3 : Hid (∀ (W : World), Bl w W → Cl 10 #[.slice x.ga x.gn x.gc, .slice y.ga y.gn y.gc] W (Yes W)) := fun W hb => by
   have hR' := hy.g.1
   rw [← h.g.1] at hR' ⊢
   exact eqByteSS_of _ _ _ _ _ _ _ W hx.g.2.2 (hx.g.1.upper (uB hb)) (hR'.upper (uB hb)) fun i hi W' hW => eqByteS_same _ _ W' ((hx.g.2.1 i hi).upper (uB (bl_trans hb hW))) ((hy.g.2.1 i (by rw [← h.g.1]; exact hi)).upper (uB (bl_trans hb hW))) (h.g.2 i hi)
 have HZ4 : Hid (∀ (W : World), Bl w W → Cl 36 #[.slice x.oa x.on x.oc, .slice y.oa y.on y.oc] W (Yes W)) := fun W hb => by
   have hR' := hy.o.1
   rw [← h.o.1] at hR' ⊢
   exact eqKeyS_of _ _ _ _ _ _ _ W hx.o.2.2 (hx.o.1.upper (uB hb)) (hR'.upper (uB hb)) fun i hi W' hW => eqKey_same _ _ W' ((hx.o.2.1 i hi).upper (uB (bl_trans hb hW))) ((hy.o.2.1 i (by rw [← h.o.1]; exact hi)).upper (uB (bl_trans hb hW))) (h.o.2 i hi)
 have k0 : (x.ask == y.ask) = true := by simp [h.ask]
 have k1 : (x.ask != y.ask) = false := by simp [h.ask]
 have k2 : (x.dis == y.dis) = true := by simp [h.dis]
 have k3 : (x.dis != y.dis) = false := by simp [h.dis]
 have k4 : (x.lim == y.lim) = true := by simp [h.lim]
 have k5 : (x.off == y.off) = true := by simp [h.off]
 clear hx hy h
 go_in
 have Z1 := HZ1.out
 go_wp2_with fail
 refine (Z1 _ (bl_alloc (bl_a _) _)).mono ?_
 rintro e w1 ⟨rfl, hb1⟩
 have HX1 := hid (((Box.new w _ 34 _).below (bl_a _)).below hb1)
 have HY1 := hid (show Box _ _ _ by have h := (Box.new _ _ 34 _).below hb1; simpa using h)
 have HB1 := hid (bl_trans (bl_alloc (bl_a _) _) hb1)
 clear hb1 Z1 HZ1
 have la := HX1.out.2 3 _ rfl
 have lb := HY1.out.2 3 _ rfl
 have Z2 := HZ2.out
 go_wp2_with fail
 refine (Z2 _ HB1.out).mono ?_
 rintro e w2 ⟨rfl, hb2⟩
 have HX2 := hid (HX1.out.below hb2)
 have HY2 := hid (HY1.out.below hb2)
 have HB2 := hid (bl_trans HB1.out hb2)
 clear hb2 Z2 HZ2 HX1 HY1 HB1 la lb
 have la := HX2.out.2 4 _ rfl
 have lb := HY2.out.2 4 _ rfl
 have Z3 := HZ3.out
 go_wp2_with fail
 refine (Z3 _ HB2.out).mono ?_
 rintro e w3 ⟨rfl, hb3⟩
 have HX3 := hid (HX2.out.below hb3)
 have HY3 := hid (HY2.out.below hb3)
 have HB3 := hid (bl_trans HB2.out hb3)
 clear hb3 Z3 HZ3 HX2 HY2 HB2 la lb
 have la := HX3.out.2 5 _ rfl
 have lb := HY3.out.2 5 _ rfl
 have Z4 := HZ4.out
 go_wp2_with fail
 refine (Z4 _ HB3.out).mono ?_
 rintro e w4 ⟨rfl, hb4⟩
 have HX4 := hid (HX3.out.below hb4)
 have HY4 := hid (HY3.out.below hb4)
 have HB4 := hid (bl_trans HB3.out hb4)
 clear hb4 Z4 HZ4 HX3 HY3 HB3 la lb
 have l1 := HX4.out.2 6 _ rfl
 have l2 := HY4.out.2 6 _ rfl
 have l3 := HX4.out.2 7 _ rfl
 have l4 := HY4.out.2 7 _ rfl
 go_wp2_with fail
 go_ret
 exact ⟨rfl, HB4.out⟩
/- OpnA -/
open Go.ChangeShapes Go.WideShapes Go.ChangeAt Go.RowKit Go.Joins Go.Deep
def tmCells (t : Tm) : List Value := [.int .i64 t.k, .slice t.a t.len t.cap, .int .i64 t.n, .int .i64 t.s]
set_option maxRecDepth 100000 in
theorem trod_term {H : Type} {enc : TypeId × Value → H} {W : World} {fuel : Nat} {cs : List Value} {x : DataW H × List MemPlace}
   (h : DataW.trod enc Tryz.prog W 0 (fun _ => true) true fuel 78 cs = some x) :
   ∃ (t : Tm) (bs : List Int), cs = tmCells t ∧ t.fits ∧ t.len ≤ 9223372036854775807 ∧ (t.len ≤ 1048576 → Bs W t.a t.len bs) := by
 obtain ⟨y0, y1, y2, y3, m, _, hlen, hy0, hy1, hy2, hy3⟩ := trod_struct4 Tryz.underlying78 h
 rw [Tryz.cells78] at hlen
 match cs, hlen with
 | [c0, c1, c2, c3], _ =>
   have e3 : Tryz.prog.cellsOf 3 = 1 := by kernel_rfl
   have e8 : Tryz.prog.cellsOf 42 = 1 := by kernel_rfl
   simp [e3, e8] at hy0 hy1 hy2 hy3
   obtain ⟨k, e0, _, wk⟩ := DataW.trod_int Tryz.underlying3 hy0
   obtain ⟨n, e2, _, wn⟩ := DataW.trod_int Tryz.underlying3 hy2
   obtain ⟨s, e3, _, ws⟩ := DataW.trod_int Tryz.underlying3 hy3
   simp at e0 e2 e3
   subst e0 e2 e3
   have bn := bounds_i64 wn
   have bsc := bounds_i64 ws
   rcases open_ints Tryz.underlying42 Tryz.underlying5 Tryz.cells5 hy1 with ⟨hcs, _⟩ | ⟨x, l, c, zs, hcs, _, hl, hm, hz, _, hcell, hwz⟩
   · simp at hcs
     subst hcs
     exact ⟨⟨k, none, 0, 0, n, s⟩, [], rfl, ⟨bn.1, bn.2, bsc.1, bsc.2⟩, by show (0 : Nat) ≤ _; omega, fun _ => ⟨rfl, by show (0 : Nat) ≤ _; omega, by simp, .inl rfl⟩⟩
   simp at hcs
   subst hcs
   simp only [if_true] at hz
   refine ⟨⟨k, some x, l, c, n, s⟩, zs.take l, rfl, ⟨bn.1, bn.2, bsc.1, bsc.2⟩, ?_, fun h20 => ?_⟩
   · show l ≤ _
     unfold maxLen at hm
     omega
   exact Bs.of_cells hl hz h20 hcell hwz
/- TrwA -/
theorem piece (cs : List Value) (o n : Nat) : cs.drop o = (cs.drop o).take n ++ cs.drop (o + n) := by
 rw [← List.drop_drop]
 exact (List.take_append_drop n _).symm
theorem piece_end {cs : List Value} {n : Nat} (h : cs.length = n) : cs.drop n = [] := List.drop_eq_nil_of_le (by omega)
theorem addr_no (b off i : Nat) : (⟨b, off, none⟩ : Addr).add i = ⟨b, off + i, none⟩ := by
 by_cases h0 : i = 0 <;> simp [Addr.add, h0]
theorem trod_struct5 {H : Type} {enc : TypeId × Value → H} {P : Program} {w : World} {base : Nat} {spare : Nat → Bool} {held : Bool} {t : TypeId} {f0 f1 f2 f3 f4 : Field} {fuel : Nat} {cs : List Value} {x : DataW H × List MemPlace} (ht : P.underlying t = some (.struct #[f0, f1, f2, f3, f4])) (h : DataW.trod enc P w base spare held fuel t cs = some x) :
   ∃ y0 y1 y2 y3 y4 n, fuel = n + 1 ∧ cs.length = P.cellsOf t ∧ DataW.trod enc P w base spare held n f0.type ((cs.drop f0.offset).take (P.cellsOf f0.type)) = some y0 ∧ DataW.trod enc P w base spare held n f1.type ((cs.drop f1.offset).take (P.cellsOf f1.type)) = some y1 ∧ DataW.trod enc P w base spare held n f2.type ((cs.drop f2.offset).take (P.cellsOf f2.type)) = some y2 ∧ DataW.trod enc P w base spare held n f3.type ((cs.drop f3.offset).take (P.cellsOf f3.type)) = some y3 ∧ DataW.trod enc P w base spare held n f4.type ((cs.drop f4.offset).take (P.cellsOf f4.type)) = some y4 := by
 obtain ⟨xs, n, hn, rfl, hl, hlen, hf⟩ := DataW.trod_struct ht h
 match xs, hlen with
 | [y0, y1, y2, y3, y4], _ => exact ⟨y0, y1, y2, y3, y4, n, hn, hl, by simpa using hf 0 f0 rfl, by simpa using hf 1 f1 rfl, by simpa using hf 2 f2 rfl, by simpa using hf 3 f3 rfl, by simpa using hf 4 f4 rfl⟩
theorem trod_struct7 {H : Type} {enc : TypeId × Value → H} {P : Program} {w : World} {base : Nat} {spare : Nat → Bool} {held : Bool} {t : TypeId} {f0 f1 f2 f3 f4 f5 f6 : Field} {fuel : Nat} {cs : List Value} {x : DataW H × List MemPlace} (ht : P.underlying t = some (.struct #[f0, f1, f2, f3, f4, f5, f6])) (h : DataW.trod enc P w base spare held fuel t cs = some x) :
   ∃ y0 y1 y2 y3 y4 y5 y6 n, fuel = n + 1 ∧ cs.length = P.cellsOf t ∧ DataW.trod enc P w base spare held n f0.type ((cs.drop f0.offset).take (P.cellsOf f0.type)) = some y0 ∧ DataW.trod enc P w base spare held n f1.type ((cs.drop f1.offset).take (P.cellsOf f1.type)) = some y1 ∧ DataW.trod enc P w base spare held n f2.type ((cs.drop f2.offset).take (P.cellsOf f2.type)) = some y2 ∧ DataW.trod enc P w base spare held n f3.type ((cs.drop f3.offset).take (P.cellsOf f3.type)) = some y3 ∧ DataW.trod enc P w base spare held n f4.type ((cs.drop f4.offset).take (P.cellsOf f4.type)) = some y4 ∧ DataW.trod enc P w base spare held n f5.type ((cs.drop f5.offset).take (P.cellsOf f5.type)) = some y5 ∧ DataW.trod enc P w base spare held n f6.type ((cs.drop f6.offset).take (P.cellsOf f6.type)) = some y6 := by
 obtain ⟨xs, n, hn, rfl, hl, hlen, hf⟩ := DataW.trod_struct ht h
 match xs, hlen with
 | [y0, y1, y2, y3, y4, y5, y6], _ => exact ⟨y0, y1, y2, y3, y4, y5, y6, n, hn, hl, by simpa using hf 0 f0 rfl, by simpa using hf 1 f1 rfl, by simpa using hf 2 f2 rfl, by simpa using hf 3 f3 rfl, by simpa using hf 4 f4 rfl, by simpa using hf 5 f5 rfl, by simpa using hf 6 f6 rfl⟩
theorem open_krow {H Q : Type} {enc : TypeId × Value → H} {W : World} {fuel : Nat} {cs : List Value} {x : DataW H × List MemPlace} {t e : TypeId} {k : Nat} (cell : Q → List Value) (ok : Q → Prop) (dq : Q)
   (ht : Tryz.prog.underlying t = some (.slice e)) (hk : Tryz.prog.cellsOf e = k) (h0 : 0 < k) (hcl : ∀ q, (cell q).length = k)
   (hq : ∀ (n : Nat) (cs : List Value) (y : DataW H × List MemPlace), n < fuel → DataW.trod enc Tryz.prog W 0 (fun _ => true) true n e cs = some y → ∃ q, cs = cell q ∧ ok q)
   (h : DataW.trod enc Tryz.prog W 0 (fun _ => true) true fuel t cs = some x) :
   ∃ (a : Option Addr) (n cap : Nat) (f : Nat → Q), cs = [.slice a n cap] ∧ n ≤ 9223372036854775807 ∧ KRow 0 W k a n (fun i => cell (f i)) ∧ ∀ i, i < n → ok (f i) := by
 rcases DataW.trod_slice ht h with ⟨rfl, _⟩ | ⟨a, len, cap, elems, rest, n, hn, rfl, _, _, hl, hm, hlen, hel, _, _⟩
 · exact ⟨none, 0, 0, fun _ => dq, rfl, by omega, .inl rfl, fun i hi => by omega⟩
 rw [hk] at hel
 have hh : ∀ i : Fin len, ∃ q : Q, ok q ∧ W.cells? 0 (a.add (i.1 * k)) k = some (cell q) := by
   intro i
   have h1 := hel i.1 i.2
   rw [List.getElem?_eq_getElem (by have := i.2; omega)] at h1
   obtain ⟨cs', hc, ht'⟩ := Option.bind_eq_some_iff.1 h1
   obtain ⟨q, rfl, hok⟩ := hq _ _ _ (by omega) ht'
   exact ⟨q, hok, hc⟩
 obtain ⟨F, hF⟩ := Classical.axiomOfChoice hh
 refine ⟨some a, len, cap, fun i => if hi : i < len then F _ else dq, rfl, by unfold maxLen at hm; omega, ?_, fun i hi => by simp only [dif_pos hi]; exact (hF ⟨i, hi⟩).1⟩
 by_cases hz : len = 0
 · exact .inl hz
 right
 obtain ⟨b, off, spot⟩ := a
 obtain ⟨_, _, hz0⟩ := World.cells?_some (hF ⟨0, by omega⟩).2
 have h00 := hz0 0 h0
 have hl0 := Nat.lt_of_lt_of_eq h0 (hcl (F ⟨0, by omega⟩)).symm
 obtain ⟨v, hv⟩ : ∃ v, (cell (F ⟨0, by omega⟩))[0]? = some v := ⟨_, List.getElem?_eq_getElem hl0⟩
 rw [hv] at h00
 have hspot : spot = none := by
   have := World.cell?_spot (w := W) (a := ((⟨b, off, spot⟩ : Addr).add (0 * k)).add 0) (by rw [h00])
   simpa [Addr.add] using this
 subst hspot
 refine ⟨b, off, rfl, Nat.zero_le _, ?_, fun i hi c u hu => ?_⟩
 · rw [addr_no, addr_no] at h00
   exact cell_lt (a := ⟨b, off + 0 * k + 0, none⟩) h00
 simp only [dif_pos hi] at hu
 have hc : c < k := by
   obtain ⟨h1, _⟩ := List.getElem?_eq_some_iff.1 hu
   rwa [hcl] at h1
 obtain ⟨_, _, hcc⟩ := World.cells?_some (hF ⟨i, hi⟩).2
 have h1 := hcc c hc
 rw [addr_no, addr_no] at h1
 rw [h1]
 exact hu
theorem trod_sl {H : Type} {enc : TypeId × Value → H} {W : World} {fuel : Nat} {cs : List Value} {x : DataW H × List MemPlace} (h : DataW.trod enc Tryz.prog W 0 (fun _ => true) true fuel 42 cs = some x) :
   ∃ y : SL, cs = [.slice y.a y.len y.cap] ∧ Cm W y := by
 rcases open_ints Tryz.underlying42 Tryz.underlying5 Tryz.cells5 h with ⟨hcs, _⟩ | ⟨x, l, c, zs, hcs, _, hl, hm, hz, _, hcell, hwz⟩
 · exact ⟨⟨none, 0, 0, []⟩, hcs, by show (0 : Nat) ≤ _; omega, fun _ => ⟨rfl, by show (0 : Nat) ≤ _; omega, by simp, .inl rfl⟩⟩
 simp only [if_true] at hz
 refine ⟨⟨some x, l, c, zs.take l⟩, hcs, ?_, fun h20 => Bs.of_cells hl hz h20 hcell hwz⟩
 show l ≤ _
 unfold maxLen at hm
 omega
theorem trod_tb {H : Type} {enc : TypeId × Value → H} {W : World} {fuel : Nat} {cs : List Value} {x : DataW H × List MemPlace} (h : DataW.trod enc Tryz.prog W 0 (fun _ => true) true fuel 78 cs = some x) :
   ∃ y : TB, cs = [.int .i64 y.t.k, .slice y.t.a y.t.len y.t.cap, .int .i64 y.t.n, .int .i64 y.t.s] ∧ Cm W y.sl ∧ y.t.fits := by
 obtain ⟨t, bs, e, hf, hl, hb⟩ := trod_term h
 exact ⟨⟨t, bs⟩, e, ⟨hl, hb⟩, hf⟩
theorem trod_nm {H : Type} {enc : TypeId × Value → H} {W : World} {fuel : Nat} {cs : List Value} {x : DataW H × List MemPlace} (h : DataW.trod enc Tryz.prog W 0 (fun _ => true) true fuel 3 cs = some x) : ∃ k : Int, cs = [.int .i64 k] := by
 obtain ⟨k, e0, _, _⟩ := DataW.trod_int Tryz.underlying3 h
 exact ⟨k, e0⟩
theorem Tryz.clof3 : Tryz.prog.cellsOf 3 = 1 := by kernel_rfl
theorem Tryz.clof42 : Tryz.prog.cellsOf 42 = 1 := by kernel_rfl
theorem Tryz.clof80 : Tryz.prog.cellsOf 80 = 5 := by kernel_rfl
theorem Tryz.clof82 : Tryz.prog.cellsOf 82 = 15 := by kernel_rfl
theorem Tryz.clof85 : Tryz.prog.cellsOf 85 = 8 := by kernel_rfl
theorem Tryz.clof86 : Tryz.prog.cellsOf 86 = 1 := by kernel_rfl
theorem Tryz.clof83 : Tryz.prog.cellsOf 83 = 1 := by kernel_rfl
theorem trod_item {H : Type} {enc : TypeId × Value → H} {W : World} {fuel : Nat} {cs : List Value} {x : DataW H × List MemPlace} (h : DataW.trod enc Tryz.prog W 0 (fun _ => true) true fuel 80 cs = some x) :
   ∃ y : IB, cs = y.cells ∧ y.came W := by
 obtain ⟨y0, y1, m, _, hlen, h0, h1⟩ := trod_struct2 Tryz.underlying80 h
 rw [Tryz.clof80] at hlen
 simp only [Tryz.clof42, Tryz.cells78] at h0 h1
 obtain ⟨v, e0, hv⟩ := trod_sl h0
 obtain ⟨t, e1, ht, hf⟩ := trod_tb h1
 refine ⟨⟨v, t⟩, ?_, hv, ht, hf⟩
 have p0 := piece cs 0 1
 rw [piece cs (0 + 1) 4, piece_end (n := 0 + 1 + 4) hlen, e0, e1] at p0
 exact p0
theorem trod_pat {H : Type} {enc : TypeId × Value → H} {W : World} {fuel : Nat} {cs : List Value} {x : DataW H × List MemPlace} (h : DataW.trod enc Tryz.prog W 0 (fun _ => true) true fuel 82 cs = some x) :
   ∃ y : PB, cs = y.cells ∧ y.came W := by
 obtain ⟨y0, y1, y2, m, _, hlen, h0, h1, h2⟩ := trod_struct3 Tryz.underlying82 h
 rw [Tryz.clof82] at hlen
 simp only [Tryz.clof80] at h0 h1 h2
 obtain ⟨s, e0, hs⟩ := trod_item h0
 obtain ⟨p, e1, hp⟩ := trod_item h1
 obtain ⟨o, e2, ho⟩ := trod_item h2
 refine ⟨⟨s, p, o⟩, ?_, hs, hp, ho⟩
 have p0 := piece cs 0 5
 rw [piece cs (0 + 5) 5, piece cs (0 + 5 + 5) 5, piece_end (n := 0 + 5 + 5 + 5) hlen, e0, e1, e2] at p0
 exact p0
theorem EN.cells_len (d : EN) : d.cells.length = 8 := rfl
theorem AN.cells_len (d : AN) : d.cells.length = 13 := rfl
theorem PN.cells_len (d : PN) : d.cells.length = 28 := rfl
theorem PB.cells_len (d : PB) : d.cells.length = 15 := rfl
theorem trod_expr {H : Type} {enc : TypeId × Value → H} {W : World} : ∀ (fuel : Nat) {cs : List Value} {x : DataW H × List MemPlace}, DataW.trod enc Tryz.prog W 0 (fun _ => true) true fuel 85 cs = some x →
   ∃ y : ET, cs = y.d.cells ∧ y.came W := by
 intro fuel
 induction fuel using Nat.strongRecOn with
 | ind fuel ih =>
 intro cs x h
 obtain ⟨y0, y1, y2, y3, y4, n, hn, hlen, h0, h1, h2, h3, h4⟩ := trod_struct5 Tryz.underlying85 h
 rw [Tryz.clof85] at hlen
 simp only [Tryz.clof3, Tryz.clof42, Tryz.cells78, Tryz.clof83] at h0 h1 h2 h3 h4
 obtain ⟨k, e0⟩ := trod_nm h0
 obtain ⟨op, e1⟩ := trod_nm h1
 obtain ⟨v, e2, hv⟩ := trod_sl h2
 obtain ⟨t, e3, ht, hft⟩ := trod_tb h3
 obtain ⟨a, nn, cap, f, e4, hnn, hR, hok⟩ := open_krow (fun y : ET => y.d.cells) (fun y => y.came W) .nil Tryz.underlying83 Tryz.clof85 (by omega) (fun q => q.d.cells_len) (fun m cs y hm hy => ih m (by omega) hy) h4
 refine ⟨.mk ⟨k, op, v, t, a, cap, nn⟩ f, ?_, hv, ht, hft, hnn, hR, hok⟩
 have p0 := piece cs 0 1
 rw [piece cs (0 + 1) 1, piece cs (0 + 1 + 1) 1, piece cs (0 + 1 + 1 + 1) 4, piece cs (0 + 1 + 1 + 1 + 4) 1, piece_end (n := 0 + 1 + 1 + 1 + 4 + 1) hlen, e0, e1, e2, e3, e4] at p0
 exact p0
theorem trod_terms {H : Type} {enc : TypeId × Value → H} {W : World} {fuel : Nat} {cs : List Value} {x : DataW H × List MemPlace} (h : DataW.trod enc Tryz.prog W 0 (fun _ => true) true fuel 86 cs = some x) :
   ∃ (a : Option Addr) (cap : Nat) (l : List TB), cs = [.slice a l.length cap] ∧ TCm W a l := by
 obtain ⟨a, n, cap, f, e, hn, hR, hok⟩ := open_krow (fun y : TB => enc4 y.t) (fun y => Cm W y.sl ∧ y.t.fits) ⟨⟨0, none, 0, 0, 0, 0⟩, []⟩ Tryz.underlying86 Tryz.cells78 (by omega) (fun _ => rfl) (fun m cs y _ hy => by obtain ⟨y, h1, h2⟩ := trod_tb hy; exact ⟨y, h1, h2⟩) h
 refine ⟨a, cap, (List.range n).map f, by simpa using e, ?_, by simpa using hn, fun y hy => ?_⟩
 · rcases hR with hR | ⟨b, off, ha, _, hlt, hc⟩
   · subst hR
     exact .inl rfl
   refine .inr ⟨b, off, ha, hlt, fun j u hu => ?_⟩
   have hj : j < (flat4 ((List.range n).map f)).length := by
     obtain ⟨h1, _⟩ := List.getElem?_eq_some_iff.1 hu
     exact h1
   have hl4 : (flat4 ((List.range n).map f)).length = n * 4 := by rw [flat4_len]; simp
   rw [hl4] at hj
   have hi : j / 4 < n := by omega
   have hd := (Nat.div_add_mod' j 4).symm
   rw [hd, flat4_get _ _ _ (by simpa using hi) (Nat.mod_lt _ (by omega))] at hu
   have h1 := hc (j / 4) hi (j % 4) u (by simpa using hu)
   have e1 : off + j = off + j / 4 * 4 + j % 4 := by omega
   rw [e1]
   exact h1
 obtain ⟨i, hi, rfl⟩ := List.mem_map.1 hy
 exact hok i (List.mem_range.1 hi)
end Go.Proofs.YthljoojcpbignaaGreatDoor
