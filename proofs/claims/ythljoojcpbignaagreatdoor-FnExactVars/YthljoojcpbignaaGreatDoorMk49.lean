/- PROVED: at every query the program's Vars answers as its model, writes into no argument, keeps nothing of one, and its answer owns its memory (FnExactVarsCardSaid; no condition; the library's three tables lie as the program's text lays them, which the card ties). -/
import Derived.Test.YthljoojcpbignaaGreatDoorMk48
import Derived.Test.YthljoojcpbignaaGreatDoorMk28
import Derived.Test.YthljoojcpbignaaGreatDoorCards
import Derived.Test.YthljoojcpbignaaGreatDoorTie
import Derived.LaidMore
import Derived.Stop.Joined
import Derived.Lib.LaidTab
import Derived.Stop.LaidErr
import Derived.SevenTiedAt
namespace Go.Proofs.YthljoojcpbignaaGreatDoor
open Go.RowKit Go.Deep
set_option maxHeartbeats 40000000
set_option maxRecDepth 100000
theorem QY.one (x : QY) : (x.ar : Array Value).all (·.oneCell') = true := all_oneCell_toArray (cs := x.cl) (by intro v hv; simp only [List.mem_cons, List.not_mem_nil, or_false] at hv; rcases hv with rfl | rfl | rfl | rfl | rfl | rfl | rfl | rfl <;> rfl)
def CpyQuery (e : QY) (W : World) (r : Ending) (w' : World) : Prop := ∃ y : QY, r = .returned (.agg #[.bool y.ask, .bool y.dis, .slice y.sa y.sn y.sc, .slice y.ba y.bn y.bc, .slice y.ga y.gn y.gc, .slice y.oa y.on y.oc, .int .i64 y.lim, .int .i64 y.off]) ∧ y.own W.heap.size w' ∧ e.same y ∧ Bl W w'
structure VO (w : World) (B : Nat) (v : Value) (L : List SL) : Prop where
 r : RV w B v L
 t : TOs w B v L
theorem VO.below {w w' : World} {B : Nat} {v : Value} {L : List SL} (h : VO w B v L) (hb : Bl w w') : VO w' B v L := ⟨h.r.below hb, h.t.kept hb nR⟩
theorem VO.mid {w w' : World} {B C B' : Nat} {v : Value} {L : List SL} (h : VO w B' v L) (hm : Mid B C w w') (hC : C ≤ B') : VO w' B' v L :=
 ⟨h.r.keep (Nat.le_of_eq hm.size.symm) fun g hg => hm.block g (.inr (by have := (h.r.lo g hg).1; omega)), ⟨fun x hx => (h.t.t x hx).keep (Nat.le_of_eq hm.size.symm) fun g _ hB => hm.block g (.inr (by omega)), h.t.d⟩⟩
theorem VO.row {w : World} {B : Nat} {v : Value} {L : List SL} {R : List (List Int)} (h : VO w B v L) (hm : L.map SL.b = R) : RowT w v R := hm ▸ rowT_of h.r h.t
theorem VO.lens {w : World} {B : Nat} {v : Value} {L : List SL} {R : List (List Int)} (h : VO w B v L) (hm : L.map SL.b = R) (hR : R.length ≤ 8 ∧ ∀ r ∈ R, 1 ≤ r.length ∧ r.length ≤ 12) : L.length ≤ 1000 ∧ ∀ x ∈ L, x.len ≤ 1000 := by
 subst hm
 have h0 := hR.1
 rw [List.length_map] at h0
 refine ⟨by omega, fun x hx => ?_⟩
 have h1 := hR.2 x.b (List.mem_map.2 ⟨x, hx, rfl⟩)
 obtain ⟨_, _, _, _, _, hz⟩ := h.t.t x hx
 rw [hz.1.1] at h1
 omega
theorem walkVars (e : QY) (w : World) (hc : e.came w) (ht : Tab w) :
 Calls Tryz.prog 3 #[.agg e.ar] w fun r w' => r = .returned (.bool true) ∧ Bl w w' := by
 obtain ⟨R, hL⟩ := vsT_some e
 have HLE := iH hL.len
 have hlen : R.length ≤ 1048576 := by have h := hL.len.1; omega
 have HTB : Hd (∀ w', Bl w w' → Tab w') := fun w' h => ht.below h
 have HLI : Hd (e.wt ≤ 1048576 → e.lies 0 w) := fun h => hc.lies (QY.small_of hc h)
 have HZ : Hd (∀ W, Bl w W → Cl 6 #[.agg e.ar, .int .i64 1048576] W fun r w' => Sw 1048576 e.wt r ∧ Bl W w') := fun W hb => szQuery_w e 1048576 W (by omega) (by omega) (hc.below hb)
 have HXW : Hd (Box (w.alloc (.cells e.ar 27)) w.heap.size e.cl) := Box.new w e.ar 27 (0, 0)
 have HBW : Hd (Bl w (w.alloc (.cells e.ar 27))) := bl_a _
 have HTO : Hd (∀ W, e.lies 0 W → Cl 8 #[.agg e.ar] W (CpyQuery e W)) := fun W h => toQueryW e W h
 have HSO : Hd (∀ (W : World) (B : Nat) (y : QY), y.own B W → e.same y → Cl 7 #[.agg y.ar] W (OwnVs W R)) := fun W B y h hs => specVars_any y W (h.1.base nZ) (fun i hi => (h.2.b.2 i hi).2.caps) h.2.c.1 h.2.c.2 R (hL.same hs)
 have HIO : Hd (∀ (W : World) (y : QY), y.lies 0 W → Tab W → e.same y → Cl 9 #[.agg y.ar] W (OwnVs W R)) := fun W y h hT hs => implVars_any y W h hT R (hL.same hs)
 have HEQ : Hd (∀ (W : World) (y z : QY), y.lies 0 W → z.lies 0 W → e.same y → e.same z → Cl 11 #[.agg y.ar, .agg z.ar] W (Yes W)) := fun W y z h1 h2 h3 h4 => eqQuery_same y z W h1 h2 (h3.symm.trans h4)
 clear hc ht hL
 go_in
 go_upto_region 1 with fail
 generalize hW0 : (w.alloc (.cells e.ar 27)) = W0 at *
 clear hW0
 have lr : W0.rangeAt w.heap.size 0 e.cl := HXW.o.range 0 _ rfl
 go_wp2_with (with_reducible refine wpq_at ?_; refine ldr rfl rfl rfl Tryz.underlying27 lr rfl ?_; try simp only [Act.put, sA, zA, cA])
 refine (HZ.o W0 HBW.o).mono ?_
 rintro r w1 ⟨⟨r1, rfl, hr1⟩, hb1⟩
 have HX0 : Hd (Box w1 w.heap.size e.cl) := HXW.o.below hb1
 have HB1 : Hd (Bl w w1) := bl_trans HBW.o hb1
 clear hb1 lr HXW HBW HZ
 rcases hr1 with rfl | ⟨p1, q1, s1⟩
 · go_wp2
   go_ret
   exact ⟨rfl, HB1.o⟩
 have n1 : ¬ r1 < 0 := by omega
 have HWT : Hd (e.wt ≤ 1048576) := (show _ ≤ _ by omega)
 have HL : Hd (e.lies 0 w) := HLI.o HWT.o
 have hT1 := HTO.o w1 (HL.o.below HB1.o)
 have lr : w1.rangeAt w.heap.size 0 e.cl := HX0.o.range 0 _ rfl
 clear p1 q1 s1 HLI
 go_wp2_with (with_reducible refine wpq_at ?_; refine ldr rfl rfl rfl Tryz.underlying27 lr rfl ?_; try simp only [Act.put, sA, zA, cA])
 refine hT1.mono ?_
 rintro r w2 ⟨y, rfl, hy, hs, hb2⟩
 have HB2 : Hd (Bl w1 w2) := hb2
 have hO := HSO.o w2 _ y hy hs
 clear hT1 hy hs hb2 lr
 go_wp2_with fail
 refine hO.mono ?_
 rintro r w3 ⟨v0, L0, rfl, hR3, hT3, hm3, hb3⟩
 have HV3 : Hd (RowT w3 v0 R) := VO.row ⟨hR3, hT3⟩ hm3
 have HB3 : Hd (Bl w1 w3) := bl_trans HB2.o hb3
 have HBw3 : Hd (Bl w w3) := bl_trans HB1.o HB3.o
 have HX3 : Hd (Box w3 w.heap.size e.cl) := HX0.o.below HB3.o
 clear hO hR3 hT3 hm3 hb3 HSO HX0 HB1 HB2 HB3
 have hT2 := HTO.o w3 (HL.o.below HBw3.o)
 have lr : w3.rangeAt w.heap.size 0 e.cl := HX3.o.range 0 _ rfl
 go_wp2_with (with_reducible refine wpq_at ?_; refine ldr rfl rfl rfl Tryz.underlying27 lr rfl ?_; try simp only [Act.put, sA, zA, cA])
 refine hT2.mono ?_
 rintro r w4 ⟨z, rfl, hz, hs, hb4⟩
 have HO4 : Hd (z.own w3.heap.size w4) := hz
 have HZ4 : Hd (z.lies 0 w4) := hz.1.base nZ
 have HS4 : Hd (e.same z) := hs
 have HB4 : Hd (Bl w3 w4) := hb4
 clear hT2 hz hs hb4 lr
 have st : (w4.alloc (.cells zQa 34)).there w4.heap.size 0 8 := (OB.new w4 zQa 34).there 0 8 (by simp)
 have on : (z.ar : Array Value).all (·.oneCell') = true := QY.one z
 have HXz5 : Hd (Box ((w4.alloc (.cells zQa 34)).setCells w4.heap.size 0 z.cl) w4.heap.size z.cl) := ((OB.new w4 zQa 34).put z.cl 0 z.cl (show 0 + 8 ≤ 8 by omega) rfl).box
 have HB5 : Hd (Bl w4 ((w4.alloc (.cells zQa 34)).setCells w4.heap.size 0 z.cl)) := below_sets _ nR _ _ _ (bl_a _)
 go_wp2_with (with_reducible refine wpq_at ?_; refine store_stop 34 (.tmp 5) (.tmp 20) rfl ?_)
 change wpList _ _ _ _ _ _
 refine wpList_store_mid rfl 34 _ _ rfl w4.heap.size 0 z.ar rfl rfl st (by kernel_rfl) on ?_
 try simp only [Act.put]
 generalize (w4.alloc (.cells zQa 34)).setCells w4.heap.size 0 z.cl = W5 at *
 clear st on
 have HD5 : Hd (Bl w3 W5) := bl_trans HB4.o HB5.o
 have hI5 := HIO.o W5 z (HZ4.o.below HB5.o) (HTB.o _ (bl_trans HBw3.o HD5.o)) HS4.o
 have HG5 : Hd (w4.heap.size < W5.heap.size) := HXz5.o.1
 have h34 : w3.heap.size ≤ w4.heap.size := HB4.o.size
 have lr : W5.rangeAt w4.heap.size 0 z.cl := HXz5.o.range 0 _ rfl
 go_wp2_with (with_reducible refine wpq_at ?_; refine ldr rfl rfl rfl Tryz.underlying34 lr rfl ?_; try simp only [Act.put, sA, zA, cA])
 refine hI5.mono ?_
 rintro r w6 ⟨vg, Lg, rfl, hR6, hT6, hm6, hb6⟩
 have HG6 : Hd (VO w6 W5.heap.size vg Lg) := ⟨hR6, hT6⟩
 have HMG : Hd (Lg.map SL.b = R) := hm6
 have HLG := iH (HG6.o.lens hm6 HLE.o)
 have HD6 : Hd (Bl w3 w6) := bl_trans HD5.o hb6
 have HE6 : Hd (Bl w4 w6) := bl_trans HB5.o hb6
 have HX6 : Hd (Box w6 w4.heap.size z.cl) := HXz5.o.below hb6
 clear hI5 hR6 hT6 hm6 hb6 lr HXz5 HD5 HB5
 go_wp2_with fail
 refine (eqVs hlen (HG6.o.row HMG.o) (HV3.o.below HD6.o)).mono ?_
 rintro r w7 ⟨rfl, hb7⟩
 have HG7 : Hd (VO w7 W5.heap.size vg Lg) := HG6.o.below hb7
 have HD7 : Hd (Bl w3 w7) := bl_trans HD6.o hb7
 have HE7 : Hd (Bl w4 w7) := bl_trans HE6.o hb7
 have HX7 : Hd (Box w7 w4.heap.size z.cl) := HX6.o.below hb7
 clear HG6 HD6 HE6 HX6 hb7
 have HXe : Hd (Box w7 w.heap.size e.cl) := HX3.o.below HD7.o
 have HBX : Hd (∀ w', Bl w7 w' → w'.rangeAt w.heap.size 0 e.cl ∧ w'.rangeAt w4.heap.size 0 z.cl) := fun w' hg => ⟨(HXe.o.below hg).range 0 _ rfl, (HX7.o.below hg).range 0 _ rfl⟩
 have HBw7 : Hd (Bl w w7) := bl_trans HBw3.o HD7.o
 have HT3 : Hd (Cl 8 #[.agg e.ar] w7.drew (CpyQuery e w7.drew)) := HTO.o w7.drew (HL.o.below (Below.drew HBw7.o))
 have HEQ7 : Hd (∀ (w8 : World) (x : QY), Below w7.heap.size w7.drew w8 → x.lies 0 w8 → e.same x → Cl 11 #[.agg z.ar, .agg x.ar] w8 (Yes w8)) := by
  intro w8 x hb h1 h2
  exact HEQ.o w8 z x (HZ4.o.below ((Below.drew HE7.o).trans (hb.mono HE7.o.size))) h1 HS4.o h2
 clear HEQ HXe
 go_wp2_with fail
 refine whd (fun w' => Bl w7 w') ?_ fun hHeld => ?_
 · exact Below.drew brf
 refine takeq (i := 0) 27 (v := .agg z.ar) rfl rfl (by kernel_rfl) (by kernel_rfl) (by kernel_rfl) (fun _ _ _ h => h) (yieldsIf_load_mid (by rfl) 34 _ rfl w4.heap.size 0 rfl z.cl _ (fun w' h => (HBX.o w' h).2) Tryz.underlying34 rfl (by kernel_rfl)) hHeld ?r1
 try simp only [Act.put, sA, zA, cA]
 refine takeq (i := 1) 28 (v := .agg e.ar) rfl rfl (by kernel_rfl) (by kernel_rfl) (by kernel_rfl) (fun _ _ _ h => h) (yieldsIf_load_mid (by rfl) 27 _ rfl w.heap.size 0 rfl e.cl _ (fun w' h => (HBX.o w' h).1) Tryz.underlying27 rfl (by kernel_rfl)) hHeld ?r2
 try simp only [Act.put, sA, zA, cA]
 refine rdA 2 fun K hK => ?_
 go_simp
 refine HT3.o.mono ?_
 rintro r w8 ⟨x, rfl, hx, hs8, hb8⟩
 have HB8 : Hd (Below w7.heap.size w7.drew w8) := hb8
 have hEQ := HEQ7.o w8 x HB8.o (hx.1.base nZ) hs8
 clear hx hs8 hb8 HEQ7 HT3 HBX
 go_wp2_with fail
 refine hK.out _ _ ?_ fun hHeld => ?_
 · exact bdr.trans HB8.o
 clear hK K
 try simp only [Act.put, sA, zA, cA]
 refine rdA 3 fun K hK => ?_
 go_simp
 refine hEQ.mono ?_
 rintro r w10 ⟨rfl, hb10⟩
 have HB10 : Hd (Bl w7 w10) := (bdr.trans HB8.o).trans (hb10.mono (by have := HB8.o.size; simpa using this))
 clear hEQ hb10 HB8
 go_wp2_with fail
 refine hK.out _ _ ?_ fun hHeld => ?_
 · exact HB10.o
 clear hK K
 try simp only [Act.put, sA, zA, cA]
 refine takeq (i := 4) 31 (v := .bool false) rfl rfl (by kernel_rfl) (by kernel_rfl) (by kernel_rfl) (fun _ _ _ h => h) (Or.inl ⟨by rfl, ?y3⟩) hHeld ?r3
 case y3 => (intro w' hSw; go_simp; (try with_reducible rfl))
 try simp only [Act.put, sA, zA, cA]
 refine wpAnyH_done (by kernel_rfl) ?_ _
 have HG10 : Hd (VO w10 W5.heap.size vg Lg) := HG7.o.below HB10.o
 have HD10 : Hd (Bl w3 w10) := bl_trans HD7.o HB10.o
 have HE10 : Hd (Bl w4 w10) := bl_trans HE7.o HB10.o
 have HX10 : Hd (Box w10 w4.heap.size z.cl) := HX7.o.below HB10.o
 clear hHeld HG7 HD7 HE7 HX7 HBw7 HB10
 have lr : w10.rangeAt w4.heap.size 0 z.cl := HX10.o.range 0 _ rfl
 have hM := markQuery_b w3.heap.size w4.heap.size z w10 (by rw [← QY.wt_same HS4.o HL.o HO4.o.1]; exact HWT.o) (fun o => HO4.o.marks (bl_alloc HE10.o o))
 go_wp2_with (with_reducible refine wpq_at ?_; refine ldr rfl rfl rfl Tryz.underlying34 lr rfl ?_; try simp only [Act.put, sA, zA, cA])
 refine hM.mono ?_
 rintro r w11 ⟨q11, o11, rfl, hq11, hM11⟩
 have HD11 : Hd (Bl w3 w11) := (bl_alloc HD10.o o11).trans hM11.below
 have HG11 : Hd (VO w11 W5.heap.size vg Lg) := (HG10.o.below (bl_a o11)).mid hM11 (Nat.le_of_lt HG5.o)
 have h35 : w3.heap.size ≤ W5.heap.size := Nat.le_trans h34 (Nat.le_of_lt HG5.o)
 clear lr hM hM11 HD10 HG10 HE10 HX10 HO4 HZ4
 have hk : ¬ (q11 < 0) := by omega
 go_wp2_with fail
 refine (eqVs hlen (HG11.o.row HMG.o) (HV3.o.below HD11.o)).mono ?_
 rintro r w12 ⟨rfl, hb12⟩
 have HG12 : Hd (VO w12 W5.heap.size vg Lg) := HG11.o.below hb12
 have HD12 : Hd (Bl w3 w12) := bl_trans HD11.o hb12
 clear HG11 HD11 hb12
 obtain ⟨pv, hpv⟩ : ∃ pv, pv = posV Lg Lg.length := ⟨_, rfl⟩
 have HMK := iH (mark_vs vg Lg W5.heap.size 1 w12 HG12.o.r HG12.o.t HLG.o.1 HLG.o.2 (by omega) (by omega))
 have HHD : Hd (∀ W, MdV W vg Lg 1 → Cl 14 #[vg, .int .i64 1] W fun e w' => e = .returned (.int .i64 (1 + (pv : Nat))) ∧ w' = W) := fun W h => (show Calls _ _ _ _ _ by rw [hpv]; exact held_vs vg Lg 1 W h HLG.o.1 HLG.o.2 (by omega) (by omega))
 rw [← hpv] at HMK
 have hpl : pv ≤ 1000000 := by have h := posV_le HLG.o.2 Lg.length; have h2 := HLG.o.1; rw [← hpv] at h; omega
 clear hpv
 go_wp2_with fail
 refine HMK.o.mono ?_
 rintro r w13 ⟨rfl, hM, hb13, hz13⟩
 have HD13 : Hd (Bl w3 w13) := HD12.o.trans (hb13.mono h35)
 have HM13 : Hd (MdV w13 vg Lg 1) := hM
 clear hM hb13 hz13 HD12 HG12 hk
 go_wp2_with fail
 refine (HHD.o _ HM13.o).mono ?_
 rintro r w13' ⟨rfl, rfl⟩
 have HBw13 : Hd (Bl w w13') := bl_trans HBw3.o HD13.o
 have lr : w13'.rangeAt w.heap.size 0 e.cl := (HX3.o.below HD13.o).range 0 _ rfl
 have hT4 := HTO.o w13' (HL.o.below HBw13.o)
 go_wp2_with (with_reducible refine wpq_at ?_; refine ldr rfl rfl rfl Tryz.underlying27 lr rfl ?_; try simp only [Act.put, sA, zA, cA])
 refine hT4.mono ?_
 rintro r w14 ⟨u, rfl, hu, hs, hb14⟩
 have HD14 : Hd (Bl w3 w14) := bl_trans HD13.o hb14
 have HM14 : Hd (MdV w14 vg Lg 1) := HM13.o.below hb14
 have hI := HIO.o w14 u (hu.1.base nZ) (HTB.o _ (bl_trans HBw3.o HD14.o)) hs
 clear lr hT4 hu hs hb14 HD13 HM13 HBw13 HTO HIO
 go_wp2_with fail
 refine hI.mono ?_
 rintro r w15 ⟨vh, Lh, rfl, hR15, hT15, hm15, hb15⟩
 have HD15 : Hd (Bl w3 w15) := bl_trans HD14.o hb15
 have HM15 : Hd (MdV w15 vg Lg 1) := HM14.o.below hb15
 have HH15 : Hd (RowT w15 vh R) := VO.row ⟨hR15, hT15⟩ hm15
 clear hI hR15 hT15 hm15 hb15 HD14 HM14
 go_wp2_with fail
 refine (eqVs hlen HH15.o (HV3.o.below HD15.o)).mono ?_
 rintro r w16 ⟨rfl, hb16⟩
 have HD16 : Hd (Bl w3 w16) := bl_trans HD15.o hb16
 have HM16 : Hd (MdV w16 vg Lg 1) := HM15.o.below hb16
 clear HD15 HM15 HH15 hb16
 go_wp2_with fail
 refine (HHD.o _ HM16.o).mono ?_
 rintro r w16' ⟨rfl, rfl⟩
 go_wp2
 go_ret
 exact ⟨rfl, bl_trans HBw3.o HD16.o⟩
open Go.ChangeShapes Go.WideShapes Go.ChangeAt Go.RowKit Go.Joins
theorem door_metVars (os : Os) (args : Array Value) : laidMetH Tryz.prog Rows.fnExactVarsRow.laid ((World.doorLaid Tryz.prog 24 os).forCall (fun _ _ => 0) ⟨#[], args, []⟩).memory :=
 laidMetH_of_parts3 (fuel := 8) (laidMet_of_run' 8 (by kernel_rfl) (by kernel_rfl)) (by kernel_rfl) (by kernel_rfl)
theorem Tryz.cells259 : Tryz.prog.cellsOf 259 = 1 := by kernel_rfl
theorem tab_of_laid {W : World} (h : laidMetH Tryz.prog Rows.fnExactVarsRow.laid W) : Tab W := by
 rw [MakeChecks.laidMetH_plain _ _ _ (by kernel_rfl)] at h
 exact Lib.tabIs_of_head (k := .u64) (zs := Lib.pow10Tab) (rest := []) (g := 1) (t := 268) (n := 20) (by kernel_rfl) (by kernel_rfl) (by kernel_rfl) Tryz.underlying259 Tryz.cells259 (by kernel_rfl) (laidMet.tail (laidMet.tail h))
theorem liftedVars (os : Os) (started : os.Started) (H : Type) (enc : TypeId × Value → H) :
 ReturnsInHanded {} Tryz.checked os 3 .any (fun w args => (Rows.fnExactVarsSpec.pre enc Tryz.prog Tryz.f3 [] false w args ∧ laidMetH Tryz.prog Rows.fnExactVarsRow.laid w) ∧ sizedMet enc Tryz.prog Tryz.f3 (OpenSpec.ofChange Rows.fnExactVarsSpec) false w args)
  (Rows.fnExactVarsSpec.post enc Tryz.prog Tryz.f3 false true false false) := by
 refine returnsInHanded_of_change_and (C := Tryz.checked) (X := fun w _ => laidMetH Tryz.prog Rows.fnExactVarsRow.laid w) (fun _ _ _ hh h => h.of_heap hh) own started (by kernel_rfl) Tryz.func3
  (ChangeSpec.witness_shaped (enc := enc) (C := Tryz.checked) (os := os) (X := fun w _ => laidMetH Tryz.prog Rows.fnExactVarsRow.laid w) false (World.doorLaid Tryz.prog 24 os) #[.agg #[.bool false, .bool false, .slice none 0 0, .slice none 0 0, .slice none 0 0, .slice none 0 0, .int .i64 0, .int .i64 0]] 8 rfl (World.shaped_of_RefB (by kernel_rfl) (by kernel_rfl)) (by kernel_rfl) (by kernel_rfl) (by kernel_rfl) (door_metVars os _)) ?_
 intro W base args ds gs before hval0 hW _ _ hL _
 have hval : ∀ (j : Nat) t v, Tryz.f3.params[j]? = some t → args[j]? = some v → Value.okWide Tryz.prog W .any base t v := hval0
 have hW' := hW
 obtain ⟨p, q, hA0, hV, rfl, hfz, hnd⟩ := hW
 have hA : DataW.TrodAll enc Tryz.prog W 0 (fun _ => true) true Tryz.f3.params.toList args.toList ds p := hA0
 rw [Tryz.params3] at hA hval
 obtain ⟨v0, vs0, d0, ds0, p0, q0, hargs, rfl, rfl, h0, r0⟩ := trodAll_cons hA
 obtain ⟨rfl, rfl, rfl⟩ := trodAll_nil r0
 obtain rfl : args = #[v0] := by cases args; simp_all
 obtain ⟨rfl, rfl⟩ := trodVars_none hV
 have k0 := h0
 have lt0 : ∀ x ∈ p0, x.block < W.heap.size := by obtain ⟨m, hm⟩ := k0; exact DataW.trod_lt m _ _ _ hm
 obtain ⟨t0, rfl, hc⟩ := open_query (hval 0 27 v0 rfl rfl) h0
 clear hA0 hval0
 refine (walkVars t0 W hc (tab_of_laid hL)).mono fun e W' ⟨he, bel⟩ => ?_
 subst he
 exact ⟨_, rfl, _, _, _, [], _, [], hW', trodAll_mk1 (shut_bool Tryz.underlying4 _), (trodAll_cons_mk (Below.trod laidOut (by kernel_rfl) (of_decide_eq_true (by kernel_rfl)) k0 bel lt0) trodAll_mk0), rfl, bel.frame _, fun h => by cases h⟩
theorem overVars : Rows.FnExactVarsSaid :=
 OpenClaim.holds_of_wide 3 Tryz.f3 rfl rfl rfl rfl rfl rfl rfl ⟨rfl, rfl, rfl, rfl, rfl⟩ rfl rfl rfl rfl rfl (by kernel_rfl) Tryz.func3 (by kernel_rfl)
  (of_decide_eq_true (by kernel_rfl)) (by unfold Func.isWrapper; first | (rw [if_pos (by decide +kernel)]; kernel_rfl) | (rw [if_neg (by decide +kernel)]; exact ⟨rfl, rfl⟩))
  (fun os started H enc _ => liftedVars os started H enc)
theorem provedVars : Rows.FnExactVarsCardSaid :=
 Claim7.holds_tied_plain_at .later [] [.data, .data, .data] true Rows.fnExactVarsCard.stood.harness false
  overVars (fun _ h => by cases h) (by kernel_rfl) (fun _ h => by cases h) fnExactVars_row_tie rfl ⟨rfl, rfl⟩ (by kernel_rfl) rfl
  (fun f fn hf hfn => by
   obtain rfl : f = 3 := Option.some.inj ((show Tryz.prog.funcNamed Rows.fnExactVarsRow.func = some 3 by kernel_rfl).symm.trans hf) |>.symm
   obtain rfl : fn = Tryz.f3 := (Option.some.inj (Tryz.func3.symm.trans hfn)).symm
   exact ⟨by kernel_rfl, fun j t ht => by
    rw [Tryz.params3] at ht
    have hm : t ∈ [27] := by simpa using Array.mem_of_getElem? ht
    have hall : ([27].all fun u => !Tryz.prog.wantsStandIn u) = true := by kernel_rfl
    exact (show Tryz.prog.wantsStandIn t = false by simpa using List.all_eq_true.1 hall t hm)⟩)
  (by kernel_rfl)
#print axioms provedVars
end Go.Proofs.YthljoojcpbignaaGreatDoor
