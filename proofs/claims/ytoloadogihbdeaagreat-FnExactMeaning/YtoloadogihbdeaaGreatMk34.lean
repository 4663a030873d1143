import Derived.Test.YtoloadogihbdeaaGreatMk33
namespace Go.Proofs.YtoloadogihbdeaaGreat
open Go.RowKit Go.Deep
set_option maxHeartbeats 40000000
set_option maxRecDepth 100000
theorem l4ownI (x : IB) (w : World) (h : x.lies 0 w) : Calls Tryz.prog 115 #[.agg x.ar] w fun e w' => ∃ y : IB, e = .returned (.agg y.ar) ∧ y.own w.heap.size w' ∧ Cp w.heap.size w'.heap.size y.fp ∧ x.same y ∧ Bl w w' := by
 have HX := iH ((Box.new w x.ar 37 (0, 0)).below (bl_a (.cells #[.slice none 0 0, .int .i64 0, .slice none 0 0, .int .i64 0, .int .i64 0] 37)))
 have HO : Hd (OB ((w.alloc (.cells x.ar 37)).alloc (.cells #[.slice none 0 0, .int .i64 0, .slice none 0 0, .int .i64 0, .int .i64 0] 37)) (w.heap.size + 1) [.slice none 0 0, .int .i64 0, .slice none 0 0, .int .i64 0, .int .i64 0]) := (show OB _ _ _ by have h := OB.new (w.alloc (.cells x.ar 37)) #[.slice none 0 0, .int .i64 0, .slice none 0 0, .int .i64 0, .int .i64 0] 37; simpa using h)
 have HB : Hd (Bl w ((w.alloc (.cells x.ar 37)).alloc (.cells #[.slice none 0 0, .int .i64 0, .slice none 0 0, .int .i64 0, .int .i64 0] 37))) := bl_alloc (bl_a _) _
 have HV0 := iH h.1
 have HC1 := iH (fun W (hb : Bl w W) => l2ownT x.t W (h.2.1.upper (uB hb)) h.2.2)
 clear h
 go_in
 go_upto_region 1 with fail
 generalize ((w.alloc _).alloc _) = W1 at *
 have HG : Hd (w.heap.size + 1 < W1.heap.size) := HO.o.1
 go_wp2_with fail
 refine wqd (fun w' => Bl w w' ∧ Box w' w.heap.size x.cl) ?_ fun hHeld => ?_
 · exact ⟨Below.drew HB.o, HX.o.below bdr⟩
 refine tqB 1 4 ?_
 refine tqB 2 5 (v := .slice x.v.a x.v.len x.v.cap) (hy := by intro w' hSw; have c0 := hSw.2.2 0 _ rfl; go_simp; (try with_reducible rfl)) ?_
 refine tqB 4 7 ?_
 refine ldq 5 8 Tryz.underlying35 (fun w' h => h.2.range 1 [.int .i64 x.t.t.k, .slice x.t.t.a x.t.t.len x.t.t.cap, .int .i64 x.t.t.n, .int .i64 x.t.t.s] rfl) ?_
 have hHeld0 := hHeld
 refine rqA 0 fun K hK => ?_
 go_simp
 refine hK.out _ _ ?_ fun hHeld => ?_
 · exact ⟨bl_alloc hHeld0.1 _, hHeld0.2.below (bl_a _)⟩
 clear hK K
 try simp only [Act.put, sA, zA, cA]
 have HTX := iH (Tz.new0v (W1.drew))
 have HBS := iH ((HV0.o.upper (uB hHeld0.1)).upper (uB (bl_a (w := W1.drew) (.cells #[] 5))))
 have HSX : Hd (Src Tryz.prog 1 23 (.slice x.v.a x.v.len x.v.cap) x.v.len (x.v.b.map (Value.int .u8)) ((W1.drew).alloc (.cells #[] 5))) := src_bs HBS.o.1
 have HYX : Hd (Byt ([] ++ x.v.b)) := Byt.of HBS.o.1.2.2.1
 have hBX : (W1.drew).heap.size ≤ ((W1.drew).alloc (.cells #[] 5)).heap.size := by simp
 have hlx : x.v.len ≤ 1048576 := HBS.o.1.2.1
 refine rqA 3 fun K hK => ?_
 refine step_app8z rfl (.tmp 3) (.tmp 5) 23 rfl (W1.drew).heap.size 0 0 (some ⟨(W1.drew).heap.size, 0, none⟩) [] rfl HTX (.slice x.v.a x.v.len x.v.cap) x.v.len x.v.b rfl (fun h => by cases h) HSX HYX x.v.len (Nat.zero_add _) x.v.b (List.nil_append _) (by omega) hBX ?_
 intro g4 c4 w2 HT4 HD4
 have ho4 := HT4.o.owns
 obtain ⟨y1, hyn⟩ : ∃ y : SL, y = ⟨some ⟨g4, 0, none⟩, x.v.len, c4, x.v.b⟩ := ⟨_, rfl⟩
 have hy : y1.own (W1.drew).heap.size w2 := by rw [hyn]; exact ho4.1
 have hc : Cp (W1.drew).heap.size w2.heap.size y1.fp := by rw [hyn]; exact ho4.2
 have he : y1.b = x.v.b := by rw [hyn]
 have hb2 : Below (W1.drew).heap.size (W1.drew) w2 := (bl_a (w := W1.drew) (.cells #[] 5)).trans HD4.o
 rw [show (Value.slice (some ⟨g4, 0, none⟩) x.v.len c4) = .slice y1.a y1.len y1.cap by rw [hyn]]
 clear hyn ho4 HT4 HD4 HTX HBS HSX HYX hBX hlx hHeld0
 have HBn := iH (bl_trans (Below.drew HB.o) hb2)
 have HXn := iH ((HX.o.below bdr).below hb2)
 have HOn := iH ((HO.o.below bdr).below hb2)
 have HZn : Hd (W1.heap.size ≤ w2.heap.size) := (show W1.heap.size ≤ _ from hb2.size)
 have HC : Hd (Cp W1.heap.size w2.heap.size (y1.fp)) := hc
 have HY1 : Hd (y1.own W1.heap.size w2) := hy
 have HE1 := iH he
 clear hy hc he hb2 hHeld HB HX HO
 have HB := HBn
 have HX := HXn
 have HO := HOn
 have HZ := HZn
 clear HBn HXn HOn HZn
 refine hK.out _ _ ?_ fun hHeld => ?_
 · exact ⟨HB.o, HX.o⟩
 clear hK K
 try simp only [Act.put, List.setIfInBounds_toArray]
 refine rqA 6 fun K hK => ?_
 go_simp
 refine (HC1.o _ hHeld.1).mono ?_
 rintro r w3 ⟨y2, rfl, hy, hc, he, hb2⟩
 have HBn := iH (bl_trans HB.o hb2)
 have HXn := iH (HX.o.below hb2)
 have HOn := iH (HO.o.below hb2)
 have HZn : Hd (W1.heap.size ≤ w3.heap.size) := Nat.le_trans HZ.o hb2.size
 have HCn : Hd (Cp W1.heap.size w3.heap.size (y1.fp ++ y2.fp)) := HC.o.app hc HZ.o hb2.size
 have HY1n := iH (HY1.o.upper (uB hb2))
 have HY2 : Hd (y2.own W1.heap.size w3) := hy.base HZ.o
 have HE2 := iH he
 clear hy hc he hb2 hHeld HB HX HO HZ HC HY1
 have HB := HBn
 have HX := HXn
 have HO := HOn
 have HZ := HZn
 have HC := HCn
 have HY1 := HY1n
 clear HBn HXn HOn HZn HCn HY1n
 go_wp2_with fail
 refine hK.out _ _ ?_ fun hHeld => ?_
 · exact ⟨HB.o, HX.o⟩
 clear hK K
 try simp only [Act.put, sA, zA, cA]
 refine tqB 7 10 (v := .agg #[.slice y1.a y1.len y1.cap, .int .i64 y2.t.k, .slice y2.t.a y2.t.len y2.t.cap, .int .i64 y2.t.n, .int .i64 y2.t.s]) ?_
 have st : w3.there (w.heap.size + 1) 0 5 := HO.o.there 0 5 (by simp)
 have on : (#[.slice y1.a y1.len y1.cap, .int .i64 y2.t.k, .slice y2.t.a y2.t.len y2.t.cap, .int .i64 y2.t.n, .int .i64 y2.t.s] : Array Value).all (·.oneCell') = true := all_oneCell_toArray (cs := [.slice y1.a y1.len y1.cap, .int .i64 y2.t.k, .slice y2.t.a y2.t.len y2.t.cap, .int .i64 y2.t.n, .int .i64 y2.t.s]) (by simp [Value.oneCell'])
 have hrd : (w3.setCells (w.heap.size + 1) 0 [.slice y1.a y1.len y1.cap, .int .i64 y2.t.k, .slice y2.t.a y2.t.len y2.t.cap, .int .i64 y2.t.n, .int .i64 y2.t.s]).rangeAt (w.heap.size + 1) 0 [.slice y1.a y1.len y1.cap, .int .i64 y2.t.k, .slice y2.t.a y2.t.len y2.t.cap, .int .i64 y2.t.n, .int .i64 y2.t.s] := World.rangeAt_setCells_same _ _ _ _ st
 have hbf := iH (below_sets (w0 := w) (w.heap.size + 1) (by omega) [.slice y1.a y1.len y1.cap, .int .i64 y2.t.k, .slice y2.t.a y2.t.len y2.t.cap, .int .i64 y2.t.n, .int .i64 y2.t.s] 0 w3 HB.o)
 have hxf := iH (HX.o.upper (but_sets (w.heap.size + 1) [.slice y1.a y1.len y1.cap, .int .i64 y2.t.k, .slice y2.t.a y2.t.len y2.t.cap, .int .i64 y2.t.n, .int .i64 y2.t.s] 0 w3) (by omega))
 have hsf : Hd ((w3.setCells (w.heap.size + 1) 0 [.slice y1.a y1.len y1.cap, .int .i64 y2.t.k, .slice y2.t.a y2.t.len y2.t.cap, .int .i64 y2.t.n, .int .i64 y2.t.s]).heap.size = w3.heap.size) := (but_sets (w.heap.size + 1) [.slice y1.a y1.len y1.cap, .int .i64 y2.t.k, .slice y2.t.a y2.t.len y2.t.cap, .int .i64 y2.t.n, .int .i64 y2.t.s] 0 w3).size
 have HY1f := iH ((HY1.o.upper ((upper_sets (w.heap.size + 1) [.slice y1.a y1.len y1.cap, .int .i64 y2.t.k, .slice y2.t.a y2.t.len y2.t.cap, .int .i64 y2.t.n, .int .i64 y2.t.s] 0 w3).mono HG.o)).base (by have := HG.o; omega : w.heap.size ≤ W1.heap.size))
 have HY2f := iH ((HY2.o.upper ((upper_sets (w.heap.size + 1) [.slice y1.a y1.len y1.cap, .int .i64 y2.t.k, .slice y2.t.a y2.t.len y2.t.cap, .int .i64 y2.t.n, .int .i64 y2.t.s] 0 w3).mono HG.o)).base (by have := HG.o; omega : w.heap.size ≤ W1.heap.size))
 refine rqA 8 fun K hK => ?_
 refine step_storeV 37 (w.heap.size + 1) 0 #[.slice y1.a y1.len y1.cap, .int .i64 y2.t.k, .slice y2.t.a y2.t.len y2.t.cap, .int .i64 y2.t.n, .int .i64 y2.t.s] st on ?_
 refine hK.out _ _ ?_ fun hHeld => ?_
 · exact ⟨hbf.o, hxf.o⟩
 clear hK K st on hHeld
 try simp only [Act.put]
 generalize w3.setCells (w.heap.size + 1) 0 [.slice y1.a y1.len y1.cap, .int .i64 y2.t.k, .slice y2.t.a y2.t.len y2.t.cap, .int .i64 y2.t.n, .int .i64 y2.t.s] = W5 at *
 refine wpAnyH_done (by kernel_rfl) ?_ _
 go_wp2
 try simp only [Exit.inBlock, Exit.then]
 refine bodyPost_ret (v := .agg #[.slice y1.a y1.len y1.cap, .int .i64 y2.t.k, .slice y2.t.a y2.t.len y2.t.cap, .int .i64 y2.t.n, .int .i64 y2.t.s]) ?hr rfl ?hp
 case hr => exact results_cell rfl rfl (run_loadVar_mid (P := Tryz.prog) _ (w.heap.size + 1) 0 37 [.slice y1.a y1.len y1.cap, .int .i64 y2.t.k, .slice y2.t.a y2.t.len y2.t.cap, .int .i64 y2.t.n, .int .i64 y2.t.s] _ hrd Tryz.underlying37 rfl (by kernel_rfl))
 have HCf : Cp w.heap.size W5.heap.size (y1.fp ++ y2.fp) := HC.o.mono (by have := HG.o; omega) (by rw [hsf.o]; exact nR)
 exact ⟨⟨y1, y2⟩, rfl, ⟨⟨HY1f.o.1, HY2f.o.1⟩, HY1f.o.2, HY2f.o.2⟩, HCf, ⟨HE1.o.symm, HE2.o⟩, hbf.o⟩
theorem l4ownP (x : PB) (w : World) (h : x.lies 0 w) : Calls Tryz.prog 77 #[.agg x.ar] w fun e w' => ∃ y : PB, e = .returned (.agg y.ar) ∧ y.own w.heap.size w' ∧ Cp w.heap.size w'.heap.size y.fp ∧ x.same y ∧ Bl w w' := by
 have HX := iH ((Box.new w x.ar 39 (0, 0)).below (bl_a (.cells zPa 39)))
 have HO : Hd (OB ((w.alloc (.cells x.ar 39)).alloc (.cells zPa 39)) (w.heap.size + 1) zPl) := (show OB _ _ _ by have h := OB.new (w.alloc (.cells x.ar 39)) zPa 39; simpa using h)
 have HB : Hd (Bl w ((w.alloc (.cells x.ar 39)).alloc (.cells zPa 39))) := bl_alloc (bl_a _) _
 have HC0 := iH (fun W (hb : Bl w W) => l4ownI x.s W (h.1.upper (uB hb)))
 have HC1 := iH (fun W (hb : Bl w W) => l4ownI x.p W (h.2.1.upper (uB hb)))
 have HC2 := iH (fun W (hb : Bl w W) => l4ownI x.o W (h.2.2.upper (uB hb)))
 clear h
 go_in
 go_upto_region 1 with fail
 generalize ((w.alloc _).alloc _) = W1 at *
 have HG : Hd (w.heap.size + 1 < W1.heap.size) := HO.o.1
 go_wp2_with fail
 refine wqd (fun w' => Bl w w' ∧ Box w' w.heap.size x.cl) ?_ fun hHeld => ?_
 · exact ⟨Below.drew HB.o, HX.o.below bdr⟩
 refine tqB 0 3 ?_
 refine ldq 1 4 Tryz.underlying37 (fun w' h => h.2.range 0 x.s.cl rfl) ?_
 refine tqB 3 6 ?_
 refine ldq 4 7 Tryz.underlying37 (fun w' h => h.2.range 5 x.p.cl rfl) ?_
 refine tqB 6 9 ?_
 refine ldq 7 10 Tryz.underlying37 (fun w' h => h.2.range 10 x.o.cl rfl) ?_
 refine rqA 2 fun K hK => ?_
 go_simp
 refine (HC0.o _ hHeld.1).mono ?_
 rintro r w2 ⟨y1, rfl, hy, hc, he, hb2⟩
 have HBn := iH (bl_trans (Below.drew HB.o) hb2)
 have HXn := iH ((HX.o.below bdr).below hb2)
 have HOn := iH ((HO.o.below bdr).below hb2)
 have HZn : Hd (W1.heap.size ≤ w2.heap.size) := (show W1.heap.size ≤ _ from hb2.size)
 have HC : Hd (Cp W1.heap.size w2.heap.size (y1.fp)) := hc
 have HY1 : Hd (y1.own W1.heap.size w2) := hy
 have HE1 := iH he
 clear hy hc he hb2 hHeld HB HX HO
 have HB := HBn
 have HX := HXn
 have HO := HOn
 have HZ := HZn
 clear HBn HXn HOn HZn
 go_wp2_with fail
 refine hK.out _ _ ?_ fun hHeld => ?_
 · exact ⟨HB.o, HX.o⟩
 clear hK K
 try simp only [Act.put, sA, zA, cA]
 refine rqA 5 fun K hK => ?_
 go_simp
 refine (HC1.o _ hHeld.1).mono ?_
 rintro r w3 ⟨y2, rfl, hy, hc, he, hb2⟩
 have HBn := iH (bl_trans HB.o hb2)
 have HXn := iH (HX.o.below hb2)
 have HOn := iH (HO.o.below hb2)
 have HZn : Hd (W1.heap.size ≤ w3.heap.size) := Nat.le_trans HZ.o hb2.size
 have HCn : Hd (Cp W1.heap.size w3.heap.size (y1.fp ++ y2.fp)) := HC.o.app hc HZ.o hb2.size
 have HY1n := iH (HY1.o.upper (uB hb2))
 have HY2 : Hd (y2.own W1.heap.size w3) := hy.base HZ.o
 have HE2 := iH he
 clear hy hc he hb2 hHeld HB HX HO HZ HC HY1
 have HB := HBn
 have HX := HXn
 have HO := HOn
 have HZ := HZn
 have HC := HCn
 have HY1 := HY1n
 clear HBn HXn HOn HZn HCn HY1n
 go_wp2_with fail
 refine hK.out _ _ ?_ fun hHeld => ?_
 · exact ⟨HB.o, HX.o⟩
 clear hK K
 try simp only [Act.put, sA, zA, cA]
 refine rqA 8 fun K hK => ?_
 go_simp
 refine (HC2.o _ hHeld.1).mono ?_
 rintro r w4 ⟨y3, rfl, hy, hc, he, hb2⟩
 have HBn := iH (bl_trans HB.o hb2)
 have HXn := iH (HX.o.below hb2)
 have HOn := iH (HO.o.below hb2)
 have HZn : Hd (W1.heap.size ≤ w4.heap.size) := Nat.le_trans HZ.o hb2.size
 have HCn : Hd (Cp W1.heap.size w4.heap.size (y1.fp ++ y2.fp ++ y3.fp)) := HC.o.app hc HZ.o hb2.size
 have HY1n := iH (HY1.o.upper (uB hb2))
 have HY2n := iH (HY2.o.upper (uB hb2))
 have HY3 : Hd (y3.own W1.heap.size w4) := hy.base HZ.o
 have HE3 := iH he
 clear hy hc he hb2 hHeld HB HX HO HZ HC HY1 HY2
 have HB := HBn
 have HX := HXn
 have HO := HOn
 have HZ := HZn
 have HC := HCn
 have HY1 := HY1n
 have HY2 := HY2n
 clear HBn HXn HOn HZn HCn HY1n HY2n
 go_wp2_with fail
 refine hK.out _ _ ?_ fun hHeld => ?_
 · exact ⟨HB.o, HX.o⟩
 clear hK K
 try simp only [Act.put, sA, zA, cA]
 refine tqB 9 12 (v := .agg (pA y1 y2 y3)) ?_
 have st : w4.there (w.heap.size + 1) 0 15 := HO.o.there 0 15 (by simp)
 have on : ((pA y1 y2 y3) : Array Value).all (·.oneCell') = true := all_oneCell_toArray (cs := (pL y1 y2 y3)) (by simp [Value.oneCell'])
 have hrd : (w4.setCells (w.heap.size + 1) 0 (pL y1 y2 y3)).rangeAt (w.heap.size + 1) 0 (pL y1 y2 y3) := World.rangeAt_setCells_same _ _ _ _ st
 have hbf := iH (below_sets (w0 := w) (w.heap.size + 1) (by omega) (pL y1 y2 y3) 0 w4 HB.o)
 have hxf := iH (HX.o.upper (but_sets (w.heap.size + 1) (pL y1 y2 y3) 0 w4) (by omega))
 have hsf : Hd ((w4.setCells (w.heap.size + 1) 0 (pL y1 y2 y3)).heap.size = w4.heap.size) := (but_sets (w.heap.size + 1) (pL y1 y2 y3) 0 w4).size
 have HY1f := iH ((HY1.o.upper ((upper_sets (w.heap.size + 1) (pL y1 y2 y3) 0 w4).mono HG.o)).base (by have := HG.o; omega : w.heap.size ≤ W1.heap.size))
 have HY2f := iH ((HY2.o.upper ((upper_sets (w.heap.size + 1) (pL y1 y2 y3) 0 w4).mono HG.o)).base (by have := HG.o; omega : w.heap.size ≤ W1.heap.size))
 have HY3f := iH ((HY3.o.upper ((upper_sets (w.heap.size + 1) (pL y1 y2 y3) 0 w4).mono HG.o)).base (by have := HG.o; omega : w.heap.size ≤ W1.heap.size))
 refine rqA 10 fun K hK => ?_
 refine step_storeV 39 (w.heap.size + 1) 0 (pA y1 y2 y3) st on ?_
 refine hK.out _ _ ?_ fun hHeld => ?_
 · exact ⟨hbf.o, hxf.o⟩
 clear hK K st on hHeld
 try simp only [Act.put]
 generalize w4.setCells (w.heap.size + 1) 0 (pL y1 y2 y3) = W5 at *
 refine wpAnyH_done (by kernel_rfl) ?_ _
 go_wp2
 try simp only [Exit.inBlock, Exit.then]
 refine bodyPost_ret (v := .agg (pA y1 y2 y3)) ?hr rfl ?hp
 case hr => exact results_cell rfl rfl (run_loadVar_mid (P := Tryz.prog) _ (w.heap.size + 1) 0 39 (pL y1 y2 y3) _ hrd Tryz.underlying39 rfl (by kernel_rfl))
 have HCf : Cp w.heap.size W5.heap.size (y1.fp ++ y2.fp ++ y3.fp) := HC.o.mono (by have := HG.o; omega) (by rw [hsf.o]; exact nR)
 exact ⟨⟨y1, y2, y3⟩, rfl, ⟨HY1f.o, HY2f.o, HY3f.o⟩, HCf, ⟨HE1.o, HE2.o, HE3.o⟩, hbf.o⟩
def ownTsR (w : World) (n : Nat) (kid : Nat → TB) (e : Ending) (w' : World) : Prop := ∃ (a' : Option Addr) (c' : Nat) (k' : Nat → TB), e = .returned (.slice a' n c') ∧ n ≤ c' ∧ KRow w.heap.size w' 4 a' n (fun i => enc4 (k' i).t) ∧ RoZ w.heap.size w' a' n 4 ∧ (∀ i, i < n → (k' i).own w.heap.size w') ∧ (∀ i, i < n → (kid i).td = (k' i).td) ∧ Cp w.heap.size w'.heap.size (rfp a' n ++ catB (fun i => (k' i).fp) n) ∧ Bl w w'
theorem infoT5 : (Tryz.prog.info? 35).map (fun i => (i.zero, i.size, i.bytes)) = some (some (.agg #[.int .i64 0, .slice none 0 0, .int .i64 0, .int .i64 0]), 4, 48) := by kernel_rfl
theorem ownTs (a : Option Addr) (cap n : Nat) (kid : Nat → TB) (w : World) (hn : n ≤ 1048576) (hR : KRow 0 w 4 a n (fun i => enc4 (kid i).t))
 (IH : ∀ i, i < n → ∀ W, Bl w W → Calls Tryz.prog 116 #[.agg #[.int .i64 (kid i).t.k, .slice (kid i).t.a (kid i).t.len (kid i).t.cap, .int .i64 (kid i).t.n, .int .i64 (kid i).t.s]] W fun e w' => ∃ y : TB, e = .returned (.agg #[.int .i64 y.t.k, .slice y.t.a y.t.len y.t.cap, .int .i64 y.t.n, .int .i64 y.t.s]) ∧ y.own W.heap.size w' ∧ Cp W.heap.size w'.heap.size y.fp ∧ (kid i).td = y.td ∧ Bl W w') :
 Calls Tryz.prog 79 #[.slice a n cap] w (ownTsR w n kid) := by
 have HI := iH IH
 by_cases h0 : n = 0
 · subst h0
   clear hR HI IH
   go_in
   go_wp2
   refine wp_loop_rounds 1 ?_
   rw [rounds_succ]
   go_wp2
   go_ret
   exact ⟨none, 0, kid, rfl, nR, .inl rfl, .inl rfl, fun i hi => absurd hi nN, fun i hi => absurd hi nN, Cp.nil _ _, Below.refl _ _⟩
 obtain ⟨b, off, rfl, _, hlt, hc⟩ := hR.resolve_left h0
 have HC := iH hc
 clear hR hc IH h0
 go_in
 go_wp2_with fail
 go_loopw [3, 4] (fun o i wr => ∃ (j : Nat) (v : Value) (k' : Nat → TB), j ≤ n ∧ v = o ∧ i = .int .i64 j ∧ Hd (RowO 35 4 w wr v j (fun i => enc4 (k' i).t) (fun i => (k' i).fp)) ∧ Hd (∀ i, i < j → (k' i).own w.heap.size wr) ∧ Hd (∀ i, i < j → (kid i).td = (k' i).td))
  (fun _ i _ => n - (intOf i).toNat)
 case atStart => exact ⟨0, _, kid, nZ, rfl, rfl, RowO.nil _ _ _ _ brf, fun i hi => absurd hi nN, fun i hi => absurd hi nN⟩
 obtain ⟨j, v, k', hj, rfl, rfl, HR, HO, HS⟩ := hrel
 by_cases hlj : j < n
 · have hcx : wr.rangeAt b (off + j * 4) [.int .i64 (kid j).t.k, .slice (kid j).t.a (kid j).t.len (kid j).t.cap, .int .i64 (kid j).t.n, .int .i64 (kid j).t.s] := fun c u hu => (HR.o.bel.cell (p := ⟨b, off + j * 4 + c, none⟩) hlt).trans (HC.o j hlj c u hu)
   go_wp2_with (with_reducible refine wpv_at ?_; refine ldr rfl rfl rfl Tryz.underlying35 hcx rfl ?_; try simp only [Act.put, sA, zA, cA])
   refine (HI.o j hlj _ HR.o.bel).mono ?_
   rintro e w2 ⟨y, rfl, hy, hcp, hsm, hb2⟩
   have HY := iH hy
   have HCP := iH hcp
   have HSM := iH hsm
   have HRo := iH (HR.o.below hb2)
   have hsz : wr.heap.size ≤ w2.heap.size := hb2.size
   have HB2 := iH hb2
   clear hy hcp hsm hb2 hcx
   have HOB := iH (HRo.o.below (bl_a (w := w2) (.cells #[.int .i64 y.t.k, .slice y.t.a y.t.len y.t.cap, .int .i64 y.t.n, .int .i64 y.t.s] 35)))
   have HOW := iH HOB.o.own
   have HN : Hd (∀ j u, ([.int .i64 y.t.k, .slice y.t.a y.t.len y.t.cap, .int .i64 y.t.n, .int .i64 y.t.s] : List Value)[j]? = some u → (w2.alloc (.cells #[.int .i64 y.t.k, .slice y.t.a y.t.len y.t.cap, .int .i64 y.t.n, .int .i64 y.t.s] 35)).cell? ((⟨w2.heap.size, 0, none⟩ : Addr).add j) = some u) := fun j u hu => World.news_of_block (Go.heap_alloc_new _ _) j u hu
   have H1 : Hd (∀ u ∈ ([.int .i64 y.t.k, .slice y.t.a y.t.len y.t.cap, .int .i64 y.t.n, .int .i64 y.t.s] : List Value), u.oneCell' = true) := (show ∀ u ∈ ([.int .i64 y.t.k, .slice y.t.a y.t.len y.t.cap, .int .i64 y.t.n, .int .i64 y.t.s] : List Value), u.oneCell' = true by intro u hu; simp only [List.mem_cons, List.not_mem_nil, or_false] at hu; rcases hu with rfl | rfl | rfl | rfl <;> rfl)
   have hBB : w.heap.size ≤ (w2.alloc (.cells #[.int .i64 y.t.k, .slice y.t.a y.t.len y.t.cap, .int .i64 y.t.n, .int .i64 y.t.s] 35)).heap.size := HOB.o.bel.size
   obtain ⟨kn, hk1, hk2⟩ : ∃ kn : Nat → TB, (∀ i, i < j → kn i = k' i) ∧ kn j = y := ⟨fun i => if i = j then y else k' i, fun i hi => if_neg (by omega), if_pos rfl⟩
   have HK1 := iH hk1
   have HK2 := iH hk2
   have HC1 : Hd (∀ i, i < j → (fun i => enc4 (kn i).t) i = (fun i => enc4 (k' i).t) i) := fun i hi => (show enc4 (kn i).t = _ by rw [HK1.o i hi])
   have HC2 : Hd ((fun i => enc4 (kn i).t) j = [.int .i64 y.t.k, .slice y.t.a y.t.len y.t.cap, .int .i64 y.t.n, .int .i64 y.t.s]) := (show enc4 (kn j).t = _ by rw [HK2.o]; rfl)
   clear hk1 hk2
   go_wp2_with (with_reducible refine wpv_at ?_; refine app_stopC (.tmp 11) (.tmp 17) 43 rfl ?_)
   change wpList _ _ _ _ _ _
   refine appC rfl (.tmp 11) (.tmp 17) 43 35 4 48 (.agg #[.int .i64 0, .slice none 0 0, .int .i64 0, .int .i64 0]) rfl Tryz.underlying43 infoT5 rfl (by omega) (by omega) w.heap.size _ j (fun i => enc4 (k' i).t) rfl HOW ⟨w2.heap.size, 0, none⟩ 1 [.int .i64 y.t.k, .slice y.t.a y.t.len y.t.cap, .int .i64 y.t.n, .int .i64 y.t.s] rfl rfl HN H1 (by omega) hBB (fun i => enc4 (kn i).t) HC1 HC2 ?_
   intro g9 c9 w9 HO9 HA9 HG9 HD9
   go_wp2
   go_roundw
   case rel =>
    have hgr := HG9.o
    have hst : ∀ L : List Nat, (∀ q ∈ L, q < w2.heap.size) → (∀ g, v.ownBlock = some g → g ∉ L) → Stay L w2 w9 := fun L h1 h2 => ⟨fun q hq => (hgr.block q (by have := h1 q hq; simp; omega) (fun e => h2 q e.symm hq)).trans ((bl_a (w := w2) (.cells #[.int .i64 y.t.k, .slice y.t.a y.t.len y.t.cap, .int .i64 y.t.n, .int .i64 y.t.s] 35)).block q (h1 q hq)), Nat.le_trans (bl_a (w := w2) (.cells #[.int .i64 y.t.k, .slice y.t.a y.t.len y.t.cap, .int .i64 y.t.n, .int .i64 y.t.s] 35)).size hgr.size⟩
    refine ⟨j + 1, _, kn, by omega, rfl, by go_num, ?_, ?_, ?_⟩
    · refine RowO.add (w1 := wr) (m := wr.heap.size) (w2 := w2) (v := v) (L := y.fp) (f := (fun i => (k' i).fp)) (C := (fun i => enc4 (k' i).t)) HR.o nR HCP.o hsz (HOB.o.bel.trans HD9.o) HO9.o (HA9.o.imp id fun e => by rw [e]; simp) (Nat.le_trans (bl_a (w := w2) (.cells #[.int .i64 y.t.k, .slice y.t.a y.t.len y.t.cap, .int .i64 y.t.n, .int .i64 y.t.s] 35)).size hgr.size) (fun i hi => ?_) ?_
      · show (kn i).fp = _
        rw [HK1.o i hi]
      show (kn j).fp = _
      rw [HK2.o]
    · intro i hi
      show (kn i).own w.heap.size w9
      by_cases e : i = j
      · rw [e, HK2.o]
        refine TB.own.keep (w := w2) (HY.o.base HR.o.bel.size) (hst _ (fun q hq => (HCP.o.i q hq).2) fun g hg hm => ?_)
        have z1 := (HCP.o.i g hm).1
        have z2 := (HR.o.own.blk g hg).2
        omega
      rw [HK1.o i (by omega)]
      have hm : ∀ q, q ∈ (k' i).fp → q ∈ catB (fun i => (k' i).fp) j := fun q hq => catB_mem (f := (fun i => (k' i).fp)) (by omega) hq
      exact (TB.own.keep (w := w2) ((HO.o i (by omega)).upper (uB HB2.o)) (hst _ (fun q hq => Nat.lt_of_lt_of_le (HR.o.cp.i q (hm q hq)).2 hsz) fun g hg hq => HR.o.o g hg (hm g hq)))
    intro i hi
    show (kid i).td = (kn i).td
    by_cases e : i = j
    · rw [e, HK2.o]
      exact HSM.o
    rw [HK1.o i (by omega)]
    exact HS.o i (by omega)
   case measure => simp [intOf]; omega
 obtain rfl : j = n := by omega
 go_wp2_with fail
 obtain ⟨a', c', rfl, hcc, hK, hZ, hCp⟩ := HR.o.fin
 go_ret
 exact ⟨a', c', k', rfl, hcc, hK, hZ, HO.o, HS.o, hCp, HR.o.bel⟩
theorem l4ownTs (a : Option Addr) (cap : Nat) (tb : List TB) (w : World) (hn : tb.length ≤ 1048576) (h : TRowF 0 w a tb) :
 Calls Tryz.prog 79 #[.slice a tb.length cap] w fun e w' => ∃ y : TR, e = .returned (.slice y.a y.l.length y.c) ∧ y.own w.heap.size w' ∧ Cp w.heap.size w'.heap.size (tfp y.a y.l) ∧ tb.map TB.td = y.l.map TB.td ∧ Bl w w' := by
 refine (ownTs a cap tb.length (tbG tb) w hn (trow_krow h) fun i hi W hW => ?_).mono ?_
 · have hm := (tbG_at hi)
   have h2 := h.2.2 _ hm.2
   rw [← hm.1] at h2
   exact l2ownT (tbG tb i) W (h2.1.upper (uB hW)) h2.2
 rintro e w' ⟨a', c', f, rfl, h1, h2, h3, h4, h5, h6, h7⟩
 have el : ((List.range tb.length).map f).length = tb.length := by simp
 refine ⟨⟨a', c', (List.range tb.length).map f⟩, by rw [el], ⟨by rw [el]; exact h1, krow_trowZ h2 h3 (fun i hi => (h4 i hi).1), by rw [el]; exact h3, fun x hx => ?_⟩, ?_, ?_, h7⟩
 · obtain ⟨i, hi, rfl⟩ := List.mem_map.1 hx
   exact (h4 i (List.mem_range.1 hi)).2
 · unfold tfp
   rw [el, catB_congr (f := fun i => (f i).fp) fun i hi => (by show (tbN _ i).fp = _; rw [tbN_map hi])]
   exact h6
 apply List.ext_getElem
 · simp
 intro i hi hi'
 have hi1 : i < tb.length := by simpa using hi
 have := h5 i hi1
 rw [(tbG_at hi1).1] at this
 simpa using this
theorem wp_app80 {o : Oper} {a : Act} {K : Act → World → Prop} {Q : Exit → Act → World → Prop} {w : World} (s x : Operand)
 (ho : o.op = .call { callee := .builtin .append, args := #[s, x], argTypes := #[23, 23] })
 (g0 : Nat) (hg0 : g0 < w.heap.size) (hs : a.eval s = .slice (some ⟨g0, 0, none⟩) 0 0) (v : SL) (hx : a.eval x = .slice v.a v.len v.cap) (hv : Hd (BsF 0 w v))
 (h : ∀ (y : SL) (w' : World), Hd (y.own w.heap.size w') → Hd (Cp w.heap.size w'.heap.size y.fp) → Hd (y.b = v.b) → Hd (Bl w w') → K (a.put o.dst (.slice y.a y.len y.cap)) w') :
 Oper.wp Tryz.prog o a w K Q := by
 obtain ⟨i0, hi0, hzz⟩ := Option.map_eq_some_iff.1 Tryz.info5
 simp only [Prod.mk.injEq] at hzz
 obtain ⟨hi2, hi1, hi3⟩ := hzz
 have hB := hv.o.1
 have hl : v.len ≤ 1048576 := hB.2.1
 have hsrc : Src Tryz.prog i0.size 23 (.slice v.a v.len v.cap) v.len (v.b.map (Value.int .u8)) w := by rw [hi1]; exact src_bs hB
 have hbl : v.b.length = v.len := hB.1
 by_cases hm : v.len = 0
 · have hb : v.b = [] := List.eq_nil_of_length_eq_zero (by omega)
   have hr := run_append_room_src (P := Tryz.prog) w 23 23 o.type 5 i0 Tryz.underlying23 hi0 g0 0 0 0 (.slice v.a v.len v.cap) v.len (v.b.map (Value.int .u8)) hsrc (by omega) (fun j hj => by rw [hb] at hj; simp at hj) (fun j hj => by rw [hb] at hj; simp at hj)
   rw [hb, hm] at hr
   unfold Oper.wp execOp
   rw [hm] at hx
   simp only [ho, resolve, invoke, builtin, Sem.run_bind, Sem.run_pure, Result.andThen_ok, List.map_toArray, List.map_cons, List.map_nil, hs, hx, hr]
   refine h ⟨some ⟨g0, 0, none⟩, 0, 0, []⟩ w ⟨⟨⟨rfl, nZ, fun i => ?_, .inl rfl⟩, .inl rfl⟩, .inl rfl⟩ (Cp.nil _ _) hb.symm brf
   show 0 ≤ ([] : List Int)[i]?.getD 0 ∧ ([] : List Int)[i]?.getD 0 ≤ 255
   simp
 have HT : Tz w 0 (some ⟨g0, 0, none⟩) 0 0 [] := ⟨⟨rfl, nZ, fun i => (by show 0 ≤ ([] : List Int)[i]?.getD 0 ∧ ([] : List Int)[i]?.getD 0 ≤ 255; simp), .inl rfl⟩, .inr ⟨g0, rfl, nZ, hg0, nR, fun j hj => by omega⟩⟩
 have hr := run_append_grow_src (P := Tryz.prog) w 23 23 o.type 5 i0 (.int .u8 0) Tryz.underlying23 hi0 hi2 (some ⟨g0, 0, none⟩) 0 0 ([] : List Value) (tz_first HT _ hi1) (.slice v.a v.len v.cap) v.len (v.b.map (Value.int .u8)) hsrc (by omega) (by omega) (growslice_fits (by omega) (by rw [hi3]; omega))
 have hge := grownCap_ge w (0 + v.len) 0 5
 unfold Oper.wp execOp
 simp only [ho, resolve, invoke, builtin, Sem.run_bind, Sem.run_pure, Result.andThen_ok, List.map_toArray, List.map_cons, List.map_nil, hs, hx, hr]
 obtain ⟨C, hC⟩ : ∃ C, grownCap w (0 + v.len) 0 5 = C := ⟨_, rfl⟩
 rw [hC] at hge ⊢
 have hat : ∀ j, (w.drew.alloc (.cells (([] ++ v.b.map (Value.int .u8)).toArray ++ Builtin.zeroCells (Value.int IntKind.u8 0).cells (C - (0 + v.len))) 5)).cell? ⟨w.heap.size, j, none⟩ = (([] ++ v.b.map (Value.int .u8)).toArray ++ Builtin.zeroCells (Value.int IntKind.u8 0).cells (C - (0 + v.len)))[j]? := fun j => by
  simp [go_sem]
 have hcell : ∀ i, i < v.len → (w.drew.alloc (.cells (([] ++ v.b.map (Value.int .u8)).toArray ++ Builtin.zeroCells (Value.int IntKind.u8 0).cells (C - (0 + v.len))) 5)).cell? ⟨w.heap.size, i, none⟩ = some (.int .u8 (v.b[i]?.getD 0)) := fun i hi => by
  rw [hat, Array.getElem?_append_left (by simp; omega), List.nil_append, List.getElem?_toArray, List.getElem?_map, List.getElem?_eq_getElem (by omega)]
  simp
 have hTz : Tz (w.drew.alloc (.cells (([] ++ v.b.map (Value.int .u8)).toArray ++ Builtin.zeroCells (Value.int IntKind.u8 0).cells (C - (0 + v.len))) 5)) w.heap.size (some ⟨w.heap.size, 0, none⟩) v.len C v.b := by
  refine ⟨bs_of_cells hbl (by omega) (Byt.of hB.2.2.1) (by simp) hcell, .inr ⟨w.heap.size, rfl, nR, by simp, by omega, fun j hj => ⟨?_, by simp [go_sem]⟩⟩⟩
  rw [hat, Array.getElem?_eq_getElem (by simp [Builtin.zeroCells, Value.cells]; omega)]
  rfl
 have ho2 := hTz.owns
 rw [Nat.zero_add] at ho2 ⊢
 exact h ⟨some ⟨w.heap.size, 0, none⟩, v.len, C, v.b⟩ _ ho2.1 ho2.2 rfl ((Below.drew (Below.refl _ w)).alloc nR _)
theorem step_app80 {ops : Array Oper} {o : Oper} {a : Act} {K : Act → World → Prop} {Q : Exit → Act → World → Prop} {w : World} {E : Prop} (hgd : o.guard = none) (s x : Operand) (dd : Nat) (hdd : o.dst = some dd)
 (ho : o.op = .call { callee := .builtin .append, args := #[s, x], argTypes := #[23, 23] })
 (g0 : Nat) (hg0 : g0 < w.heap.size) (hs : a.eval s = .slice (some ⟨g0, 0, none⟩) 0 0) (v : SL) (hx : a.eval x = .slice v.a v.len v.cap) (hv : Hd (BsF 0 w v))
 (h : ∀ (y : SL) (w' : World), Hd (y.own w.heap.size w') → Hd (Cp w.heap.size w'.heap.size y.fp) → Hd (y.b = v.b) → Hd (Bl w w') → K (a.put (some dd) (.slice y.a y.len y.cap)) w') :
 if Region.wanted o (yielded ops a.tmps) = true then Oper.wp Tryz.prog o a w K Q else E := by
 have hw : Region.wanted o (yielded ops a.tmps) = true := by simp [Region.wanted, hgd]
 rw [if_pos hw]
 exact wp_app80 s x ho g0 hg0 hs v hx hv fun y w' a b c d => by rw [hdd]; exact h y w' a b c d
end Go.Proofs.YtoloadogihbdeaaGreat
