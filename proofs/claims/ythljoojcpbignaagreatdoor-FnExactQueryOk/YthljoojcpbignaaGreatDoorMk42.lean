/- PROVED: at every query the program's QueryOk answers as its model, and writes into no argument (FnExactQueryOkCardSaid; no condition; the library's three tables lie as the program's text lays them, which the card ties). -/
import Derived.Test.YthljoojcpbignaaGreatDoorMk41
import Derived.Test.YthljoojcpbignaaGreatDoorMk24
import Derived.Test.YthljoojcpbignaaGreatDoorMk25
import Derived.Test.YthljoojcpbignaaGreatDoorMk01
import Derived.Test.YthljoojcpbignaaGreatDoorMk26
import Derived.Test.YthljoojcpbignaaGreatDoorCards
import Derived.Test.YthljoojcpbignaaGreatDoorTie
import Derived.LaidMore
import Derived.Stop.Joined
import Derived.Lib.LaidTab
import Derived.Stop.LaidErr
import Derived.SevenTiedAt
namespace Go.Proofs.YthljoojcpbignaaGreatDoor
/- UwB -/
open Go.RowKit Go.Deep
set_option maxHeartbeats 40000000
set_option maxRecDepth 100000
theorem QY.one (x : QY) : (x.ar : Array Value).all (·.oneCell') = true := all_oneCell_toArray (cs := x.cl) (by intro v hv; simp only [List.mem_cons, List.not_mem_nil, or_false] at hv; rcases hv with rfl | rfl | rfl | rfl | rfl | rfl | rfl | rfl <;> rfl)
def CpyQuery (e : QY) (W : World) (r : Ending) (w' : World) : Prop := ∃ y : QY, r = .returned (.agg #[.bool y.ask, .bool y.dis, .slice y.sa y.sn y.sc, .slice y.ba y.bn y.bc, .slice y.ga y.gn y.gc, .slice y.oa y.on y.oc, .int .i64 y.lim, .int .i64 y.off]) ∧ y.own W.heap.size w' ∧ e.same y ∧ Bl W w'
theorem walkQueryOk (e : QY) (w : World) (hc : e.came w) (ht : Tab w) :
   Calls Tryz.prog 4 #[.agg e.ar] w fun r w' => r = .returned (.bool true) ∧ Below w.heap.size w w' := by
 have HLI := hid (fun (h : e.small) => hc.lies h)
 have HZ := hid (fun W (hb : Below w.heap.size w W) => szQuery_any e 1048576 W (by omega) (by omega) (hc.below hb))
 have HXW := hid (Box.new w e.ar 27 (0, 0))
 have HBW : Hid (Below w.heap.size w (w.alloc (.cells e.ar 27))) := bl_a _
 have HTO : Hid (∀ W, e.lies 0 W → Cl 8 #[.agg e.ar] W (CpyQuery e W)) := fun W h => toQueryW e W h
 have HSO : Hid (∀ (W : World) (B : Nat) (y : QY), y.own B W → e.same y → Cl 15 #[.agg y.ar] W (Tells (QOK e) W)) := fun W B y h hs => (specQueryOk_any y W (h.1.base (Nat.zero_le _)) (fun i hi => (h.2.b.2 i hi).2.caps) h.2.c.1 h.2.c.2).mono fun r w' hh => by obtain ⟨q, h1, h2, h3⟩ := hh; exact ⟨q, h1, h2.trans (QOK_same hs).symm, h3⟩
 have HIO : Hid (∀ (W : World) (y : QY), y.lies 0 W → Tab W → e.same y → Cl 16 #[.agg y.ar] W (Tells (QOK e) W)) := fun W y h hT hs => (implQueryOk_any y W h hT).mono fun r w' hh => by obtain ⟨q, h1, h2, h3⟩ := hh; exact ⟨q, h1, h2.trans (QOK_same hs).symm, h3⟩
 have HEQ := hid (fun (W : World) (y : QY) (z : QY) (h1 : y.lies 0 W) (h2 : z.lies 0 W) (h3 : e.same y) (h4 : e.same z) => eqQuery_same y z W h1 h2 (h3.symm.trans h4))
 have HTB := hid ht
 clear hc ht
 go_in
 go_upto_region 1 with fail
 generalize hW0 : (w.alloc (.cells e.ar 27)) = W0 at *
 clear hW0
 have lr : W0.rangeAt w.heap.size 0 e.cl := HXW.out.range 0 _ rfl
 go_wp2_with (with_reducible refine wpq_at ?_; refine wpList_load_mid rfl 27 _ rfl _ _ rfl e.cl _ lr Tryz.underlying27 rfl (by kernel_rfl) ?_; try simp only [Act.put, sA, zA, cA])
 refine (HZ.out W0 HBW.out).mono ?_
 rintro r w1 ⟨⟨r1, rfl, hr1⟩, hb1⟩
 have HX0 := hid (HXW.out.below hb1)
 have HB1 := hid (bl_trans HBW.out hb1)
 clear hb1 lr HXW HBW
 rcases hr1 with rfl | ⟨p1, q1, s1⟩
 · go_wp2_with fail
   go_ret
   exact ⟨rfl, HB1.out⟩
 have n1 : ¬ r1 < 0 := by omega
 have HL := hid (HLI.out s1)
 have hT1 := HTO.out w1 (HL.out.below HB1.out)
 have lr : w1.rangeAt w.heap.size 0 e.cl := HX0.out.range 0 _ rfl
 clear p1 q1 s1 HLI
 go_wp2_with (with_reducible refine wpq_at ?_; refine wpList_load_mid rfl 27 _ rfl _ _ rfl e.cl _ lr Tryz.underlying27 rfl (by kernel_rfl) ?_; try simp only [Act.put, sA, zA, cA])
 refine hT1.mono ?_
 rintro r w2 ⟨y, rfl, hy, hs, hb2⟩
 have HB2 := hid hb2
 have hO := HSO.out w2 _ y hy hs
 clear hT1 hy hs hb2 lr
 go_wp2_with fail
 refine hO.mono ?_
 rintro r w3 ⟨q, rfl, hq, hb3⟩
 have HQ := hid hq
 have HB3 := hid (bl_trans HB2.out hb3)
 have HBw3 := hid (bl_trans HB1.out HB3.out)
 clear hO hq hb3
 have hT2 := HTO.out w3 (HL.out.below HBw3.out)
 have lr : w3.rangeAt w.heap.size 0 e.cl := (HX0.out.below HB3.out).range 0 _ rfl
 go_wp2_with (with_reducible refine wpq_at ?_; refine wpList_load_mid rfl 27 _ rfl _ _ rfl e.cl _ lr Tryz.underlying27 rfl (by kernel_rfl) ?_; try simp only [Act.put, sA, zA, cA])
 refine hT2.mono ?_
 rintro r w4 ⟨z, rfl, hz, hs, hb4⟩
 have HZ4 := hid (hz.1.base (Nat.zero_le _))
 have HS4 := hid hs
 have HB4 := hid (bl_trans HB3.out hb4)
 have HBw4 := hid (bl_trans HBw3.out hb4)
 clear hT2 hz hs hb4 lr
 have st := (OB.new w4 zQa 34).there 0 8 (by simp)
 have on := QY.one z
 have HXz5 := hid (((OB.new w4 zQa 34).put z.cl 0 z.cl (show 0 + 8 ≤ 8 by omega) rfl).box)
 have HB5 : Hid (Below w4.heap.size w4 ((w4.alloc (.cells zQa 34)).setCells w4.heap.size 0 z.cl)) := below_sets _ (Nat.le_refl _) _ _ _ (bl_a _)
 go_wp2_with (with_reducible refine wpq_at ?_; refine store_stop 34 (.tmp 5) (.tmp 16) rfl ?_)
 change wpList _ _ _ _ _ _
 refine wpList_store_mid rfl 34 _ _ rfl w4.heap.size 0 z.ar rfl rfl st (by kernel_rfl) on ?_
 try simp only [Act.put]
 generalize (w4.alloc (.cells zQa 34)).setCells w4.heap.size 0 z.cl = W5 at *
 clear st on
 generalize hgz : w4.heap.size = gz at *
 have lr : W5.rangeAt gz 0 z.cl := HXz5.out.range 0 _ rfl
 go_wp2_with (with_reducible refine wpq_at ?_; refine wpList_load_mid rfl 34 _ rfl _ _ rfl z.cl _ lr Tryz.underlying34 rfl (by kernel_rfl) ?_; try simp only [Act.put, sA, zA, cA])
 refine (HIO.out W5 z (HZ4.out.below (by (try unfold Bl); rw [hgz]; exact HB5.out)) (HTB.out.below (bl_trans HBw4.out (by (try unfold Bl); rw [hgz]; exact HB5.out))) HS4.out).mono ?_
 rintro r w6 ⟨q', rfl, hq', hb6⟩
 have hqq := Bool.eq_iff_iff.2 (hq'.trans HQ.out.symm)
 subst hqq
 have HXz := hid (HXz5.out.below hb6)
 have HB6 : Hid (Below w4.heap.size w4 w6) := (show Below _ _ _ by rw [hgz]; exact HB5.out.trans (hb6.mono (by rw [← hgz]; exact HB5.out.size)))
 have HBw6 := hid (bl_trans HBw4.out HB6.out)
 have HXe := hid (HX0.out.below (bl_trans HB4.out HB6.out))
 have HBX : Hid (∀ w', Below w6.heap.size w6 w' → w'.rangeAt w.heap.size 0 e.cl ∧ w'.rangeAt gz 0 z.cl) := fun w' hg => ⟨(HXe.out.below hg).range 0 _ rfl, (HXz.out.below hg).range 0 _ rfl⟩
 have HT3 := hid (HTO.out w6.drew (HL.out.below (Below.drew HBw6.out)))
 have HEQ7 : Hid (∀ (w7 : World) (x : QY), Below w6.heap.size w6.drew w7 → x.lies 0 w7 → e.same x → Cl 11 #[.agg z.ar, .agg x.ar] w7 (Yes w7)) := by
   intro w7 x hb h1 h2
   exact HEQ.out w7 z x (HZ4.out.below ((Below.drew HB6.out).trans (hb.mono HB6.out.size))) h1 HS4.out h2
 clear hq' hb6 lr HXz5 HB5 hgz HSO HIO HTO HEQ HZ HX0 HXz HXe
 go_wp2_with fail
 refine wp_region_held_drew (S := fun w' => Below w6.heap.size w6 w') (by kernel_rfl) ?_ (fun hHeld => ?_)
 · exact Below.drew (Below.refl _ _)
 refine takeq (i := 0) 22 (v := .agg z.ar) rfl rfl (by kernel_rfl) (by kernel_rfl) (by kernel_rfl) (fun _ _ _ h => h) (yieldsIf_load_mid (by rfl) 34 _ rfl gz 0 rfl z.cl _ (fun w' h => (HBX.out w' h).2) Tryz.underlying34 rfl (by kernel_rfl)) hHeld ?r1
 try simp only [Act.put, sA, zA, cA]
 refine takeq (i := 1) 23 (v := .agg e.ar) rfl rfl (by kernel_rfl) (by kernel_rfl) (by kernel_rfl) (fun _ _ _ h => h) (yieldsIf_load_mid (by rfl) 27 _ rfl w.heap.size 0 rfl e.cl _ (fun w' h => (HBX.out w' h).1) Tryz.underlying27 rfl (by kernel_rfl)) hHeld ?r2
 try simp only [Act.put, sA, zA, cA]
 refine rdA 2 fun K hK => ?_
 go_simp
 refine HT3.out.mono ?_
 rintro r w7 ⟨x, rfl, hx, hs7, hb7⟩
 have HB7 : Hid (Below w6.heap.size w6.drew w7) := hb7
 have hEQ := HEQ7.out w7 x HB7.out (hx.1.base (Nat.zero_le _)) hs7
 clear hx hs7 hb7 HEQ7
 go_wp2_with fail
 refine hK.out _ _ ?_ (fun hHeld => ?_)
 · exact bdr.trans HB7.out
 clear hK K
 try simp only [Act.put, sA, zA, cA]
 refine rdA 3 fun K hK => ?_
 go_simp
 refine hEQ.mono ?_
 rintro r w8 ⟨rfl, hb8⟩
 have HB8 := hid ((bdr.trans HB7.out).trans (hb8.mono (by have := HB7.out.size; simpa using this)))
 clear hEQ hb8 HB7
 go_wp2_with fail
 refine hK.out _ _ ?_ (fun hHeld => ?_)
 · exact HB8.out
 clear hK K
 try simp only [Act.put, sA, zA, cA]
 refine takeq (i := 4) 26 (v := .bool false) rfl rfl (by kernel_rfl) (by kernel_rfl) (by kernel_rfl) (fun _ _ _ h => h) (Or.inl ⟨by rfl, ?y3⟩) hHeld ?r3
 case y3 => (intro w' hSw; go_simp; (try with_reducible rfl))
 try simp only [Act.put, sA, zA, cA]
 refine wpAnyH_done (by kernel_rfl) ?_ _
 go_wp2
 go_ret
 exact ⟨rfl, HBw6.out.trans (HB8.out.mono HBw6.out.size)⟩
/- UwC -/
open Go.ChangeShapes Go.WideShapes Go.ChangeAt Go.RowKit Go.Joins
theorem door_metQueryOk (os : Os) (args : Array Value) : laidMetH Tryz.prog Rows.fnExactQueryOkRow.laid ((World.doorLaid Tryz.prog 24 os).forCall (fun _ _ => 0) ⟨#[], args, []⟩).memory :=
 laidMetH_of_parts3 (fuel := 8) (laidMet_of_run' 8 (by kernel_rfl) (by kernel_rfl)) (by kernel_rfl) (by kernel_rfl)
theorem Tryz.cells259 : Tryz.prog.cellsOf 259 = 1 := by kernel_rfl
theorem tab_of_laid {W : World} (h : laidMetH Tryz.prog Rows.fnExactQueryOkRow.laid W) : Tab W := by
 rw [MakeChecks.laidMetH_plain _ _ _ (by kernel_rfl)] at h
 exact Lib.tabIs_of_head (k := .u64) (zs := Lib.pow10Tab) (rest := []) (g := 1) (t := 268) (n := 20) (by kernel_rfl) (by kernel_rfl) (by kernel_rfl) Tryz.underlying259 Tryz.cells259 (by kernel_rfl) (laidMet.tail (laidMet.tail h))
theorem liftedQueryOk (os : Os) (started : os.Started) (H : Type) (enc : TypeId × Value → H) :
   ReturnsInHanded {} Tryz.checked os 4 .any (fun w args => (Rows.fnExactQueryOkSpec.pre enc Tryz.prog Tryz.f4 [] false w args ∧ laidMetH Tryz.prog Rows.fnExactQueryOkRow.laid w) ∧ sizedMet enc Tryz.prog Tryz.f4 (OpenSpec.ofChange Rows.fnExactQueryOkSpec) false w args)
     (Rows.fnExactQueryOkSpec.post enc Tryz.prog Tryz.f4 false true false false) := by
 refine returnsInHanded_of_change_and (C := Tryz.checked) (X := fun w _ => laidMetH Tryz.prog Rows.fnExactQueryOkRow.laid w) (fun _ _ _ hh h => h.of_heap hh) own started (by kernel_rfl) Tryz.func4
   (ChangeSpec.witness_shaped (enc := enc) (C := Tryz.checked) (os := os) (X := fun w _ => laidMetH Tryz.prog Rows.fnExactQueryOkRow.laid w) false (World.doorLaid Tryz.prog 24 os) #[.agg #[.bool false, .bool false, .slice none 0 0, .slice none 0 0, .slice none 0 0, .slice none 0 0, .int .i64 0, .int .i64 0]] 8 rfl (World.shaped_of_RefB (by kernel_rfl) (by kernel_rfl)) (by kernel_rfl) (by kernel_rfl) (by kernel_rfl) (door_metQueryOk os _)) ?_
 intro W base args ds gs before hval0 hW _ _ hL _
 have hval : ∀ (j : Nat) t v, Tryz.f4.params[j]? = some t → args[j]? = some v → Value.okWide Tryz.prog W .any base t v := hval0
 have hW' := hW
 obtain ⟨p, q, hA0, hV, rfl, hfz, hnd⟩ := hW
 have hA : DataW.TrodAll enc Tryz.prog W 0 (fun _ => true) true Tryz.f4.params.toList args.toList ds p := hA0
 rw [Tryz.params4] at hA hval
 obtain ⟨v0, vs0, d0, ds0, p0, q0, hargs, rfl, rfl, h0, r0⟩ := trodAll_cons hA
 obtain ⟨rfl, rfl, rfl⟩ := trodAll_nil r0
 obtain rfl : args = #[v0] := by cases args; simp_all
 obtain ⟨rfl, rfl⟩ := trodVars_none hV
 have k0 := h0
 have lt0 : ∀ x ∈ p0, x.block < W.heap.size := by obtain ⟨m, hm⟩ := k0; exact DataW.trod_lt m _ _ _ hm
 obtain ⟨t0, rfl, hc⟩ := open_query (hval 0 27 v0 rfl rfl) h0
 clear hA0 hval0
 refine (walkQueryOk t0 W hc (tab_of_laid hL)).mono fun e W' ⟨he, bel⟩ => ?_
 subst he
 exact ⟨_, rfl, _, _, _, [], _, [], hW', trodAll_mk1 (shut_bool Tryz.underlying4 _), (trodAll_cons_mk (Below.trod laidOut (by kernel_rfl) (of_decide_eq_true (by kernel_rfl)) k0 bel lt0) trodAll_mk0), rfl, bel.frame _, fun h => by cases h⟩
theorem overQueryOk : Rows.FnExactQueryOkSaid :=
 OpenClaim.holds_of_wide 4 Tryz.f4 rfl rfl rfl rfl rfl rfl rfl ⟨rfl, rfl, rfl, rfl, rfl⟩ rfl rfl rfl rfl rfl (by kernel_rfl) Tryz.func4 (by kernel_rfl)
   (of_decide_eq_true (by kernel_rfl)) (by unfold Func.isWrapper; first | (rw [if_pos (by decide +kernel)]; kernel_rfl) | (rw [if_neg (by decide +kernel)]; exact ⟨rfl, rfl⟩))
   (fun os started H enc _ => liftedQueryOk os started H enc)
theorem provedQueryOk : Rows.FnExactQueryOkCardSaid :=
 Claim7.holds_tied_plain_at .later [] [.data, .data, .data] true Rows.fnExactQueryOkCard.stood.harness false
   overQueryOk (fun _ h => by cases h) (by kernel_rfl) (fun _ h => by cases h) fnExactQueryOk_row_tie rfl ⟨rfl, rfl⟩ (by kernel_rfl) rfl
   (fun f fn hf hfn => by
     obtain rfl : f = 4 := Option.some.inj ((show Tryz.prog.funcNamed Rows.fnExactQueryOkRow.func = some 4 by kernel_rfl).symm.trans hf) |>.symm
     obtain rfl : fn = Tryz.f4 := (Option.some.inj (Tryz.func4.symm.trans hfn)).symm
     exact ⟨by kernel_rfl, fun j t ht => by
       rw [Tryz.params4] at ht
       have hm : t ∈ [27] := by simpa using Array.mem_of_getElem? ht
       have hall : ([27].all fun u => !Tryz.prog.wantsStandIn u) = true := by kernel_rfl
       exact (show Tryz.prog.wantsStandIn t = false by simpa using List.all_eq_true.1 hall t hm)⟩)
   (by kernel_rfl)
#print axioms provedQueryOk
end Go.Proofs.YthljoojcpbignaaGreatDoor
