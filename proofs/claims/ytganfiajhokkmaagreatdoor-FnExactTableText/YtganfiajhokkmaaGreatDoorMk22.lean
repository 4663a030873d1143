/- PROVED: at every table the program's TableText answers as its model, writes into no argument, and its answer owns its memory (FnExactTableTextCardSaid; no condition; the library's three tables lie as the program's text lays them, which the card ties). Texts put together: TbO TbP -/
import Derived.Test.YtganfiajhokkmaaGreatDoorMk21
import Derived.Test.YtganfiajhokkmaaGreatDoorMk14
import Derived.Test.YtganfiajhokkmaaGreatDoorMk15
import Derived.Test.YtganfiajhokkmaaGreatDoorMk16
import Derived.Test.YtganfiajhokkmaaGreatDoorMk03
import Derived.Test.YtganfiajhokkmaaGreatDoorCards
import Derived.Test.YtganfiajhokkmaaGreatDoorTie
import Derived.LaidMore
import Derived.Stop.Joined
import Derived.Lib.LaidTab
import Derived.Stop.LaidErr
import Derived.SevenTiedAt
/- TbO -/
namespace Go.Proofs.YtganfiajhokkmaaGreatDoor
open Go.RowKit Go.Deep
set_option maxRecDepth 100000

theorem wpt_at {P : Program} {ops : Array Oper} {rest : List Oper} {op : Oper} {a : Act} {w : World} {Q : Exit → Act → World → Prop} (h : wpList P ops Q (op :: rest) a w) : wpList P ops Q (op :: rest) a w := h
theorem Nw.midT {w w' : World} {B C B' len : Nat} {a : Option Addr} {bs : List Int} (h : Nw w B' a len bs) (hm : Mid B C w w') (hC : C ≤ B') : Nw w' B' a len bs := by
  rcases h with h | ⟨g, ha, hB, ho1, ho2, ho3, ho4⟩
  · exact .inl h
  · have hb : w'.heap[g]? = w.heap[g]? := hm.block g (.inr (by omega))
    have ec : ∀ j, w'.cell? ⟨g, j, none⟩ = w.cell? ⟨g, j, none⟩ := fun j => World.cell?_of_block (w := w) (a := ⟨g, j, none⟩) hb
    have ef : ∀ j, w'.frozen? ⟨g, j, none⟩ = w.frozen? ⟨g, j, none⟩ := fun j => World.frozen?_of_block (w := w) (a := ⟨g, j, none⟩) hb
    refine .inr ⟨g, ha, hB, ⟨ho1.1, ho1.2.1, ho1.2.2.1, ?_⟩, by rw [hm.size]; exact ho2, fun i hi => by rw [ec]; exact ho3 i hi, fun i hi => by rw [ef]; exact ho4 i hi⟩
    rcases ho1.2.2.2 with h0 | ⟨b, off, hq, hlt, hc⟩
    · exact .inl h0
    · cases hq
      exact .inr ⟨g, 0, rfl, by rw [hm.size]; exact hlt, fun i hi => by rw [ec]; exact hc i hi⟩
def CpyTable (e : TL) (W : World) (r : Ending) (w' : World) : Prop := ∃ y : TL, r = .returned (.agg #[.slice y.va y.vn y.vc, .slice y.ra y.rn y.rc]) ∧ y.own W.heap.size w' ∧ y.vn ≤ y.vc ∧ e.same y ∧ Below W.heap.size W w'

set_option maxHeartbeats 4000000 in
theorem walkTableText (e : TL) (w : World) (hc : e.came w) (ht : Tab w) :
    Calls Tryz.prog 3 #[.agg #[.slice e.va e.vn e.vc, .slice e.ra e.rn e.rc]] w fun r w' => r = .returned (.bool true) ∧ Below w.heap.size w w' := by
  obtain ⟨L, hL, hlen⟩ := told_some e
  have HTB : Hid (∀ w', Below w.heap.size w w' → Tab w') := fun w' h => ht.below h
  have HLI : Hid (e.small → e.lies 0 w) := fun h => TL.came.lies hc h
  have HUP : Hid (∀ (x : TL) (W W' : World), x.lies 0 W → Below W.heap.size W W' → x.lies 0 W') := fun x W W' h hb => h.upper (Upper.of_below hb)
  have HZ : Hid (∀ W, Below w.heap.size w W → Calls Tryz.prog 4 #[.agg #[.slice e.va e.vn e.vc, .slice e.ra e.rn e.rc], .int .i64 1048576] W fun r w' => Sz e.small r ∧ Below W.heap.size W w') := fun W hb => szTable_any e 1048576 W (by omega) (by omega) (TL.came.below hc hb)
  have HXW : Hid (Box (w.alloc (.cells #[.slice e.va e.vn e.vc, .slice e.ra e.rn e.rc] 25)) w.heap.size [.slice e.va e.vn e.vc, .slice e.ra e.rn e.rc]) := Box.new w #[.slice e.va e.vn e.vc, .slice e.ra e.rn e.rc] 25 (0, 0)
  have HBW : Hid (Below w.heap.size w (w.alloc (.cells #[.slice e.va e.vn e.vc, .slice e.ra e.rn e.rc] 25))) := bl_a _
  have HTO : Hid (∀ W, e.lies 0 W → Calls Tryz.prog 6 #[.agg #[.slice e.va e.vn e.vc, .slice e.ra e.rn e.rc]] W (CpyTable e W)) := fun W h => toTable_to e W h
  have HSO : Hid (∀ (W : World) (y : TL), y.lies 0 W → y.vn ≤ y.vc → e.same y → Calls Tryz.prog 5 #[.agg #[.slice y.va y.vn y.vc, .slice y.ra y.rn y.rc]] W (TxRes W L)) := fun W y h hv hs => (specTableText_any y W h hv).mono fun r w' hh => hh.told hs hL
  have HIO : Hid (∀ (W : World) (y : TL), y.lies 0 W → e.same y → Tab W → Calls Tryz.prog 7 #[.agg #[.slice y.va y.vn y.vc, .slice y.ra y.rn y.rc]] W (TxRes W L)) := fun W y h hs hT => (implTableText_any y W h hT).mono fun r w' hh => hh.told hs hL
  have HEQ : Hid (∀ (W : World) (y z : TL), y.lies 0 W → z.lies 0 W → e.same y → e.same z → Calls Tryz.prog 9 #[.agg #[.slice y.va y.vn y.vc, .slice y.ra y.rn y.rc], .agg #[.slice z.va z.vn z.vc, .slice z.ra z.rn z.rc]] W (Yes W)) := fun W y z h1 h2 h3 h4 => eqTable_same y z W h1 h2 (h3.symm.trans h4)
  clear hc ht hL
  go_enter Tryz.func3, Tryz.ntmps3
  go_upto_region 1 with fail
  generalize hW0 : (w.alloc (.cells #[.slice e.va e.vn e.vc, .slice e.ra e.rn e.rc] 25)) = W0 at *
  clear hW0
  have lr : W0.rangeAt w.heap.size 0 [.slice e.va e.vn e.vc, .slice e.ra e.rn e.rc] := HXW.out.range 0 _ rfl
  go_wp2_with (with_reducible refine wpt_at ?_; refine wpList_load_mid rfl 25 _ rfl _ _ rfl [.slice e.va e.vn e.vc, .slice e.ra e.rn e.rc] _ lr Tryz.underlying25 rfl (by kernel_rfl) ?_; try simp only [Act.put, List.setIfInBounds_toArray, List.set_cons_zero, List.set_cons_succ])
  refine (HZ.out W0 HBW.out).mono ?_
  rintro r w1 ⟨⟨r1, rfl, hr1⟩, hb1⟩
  have HX0 : Hid (Box w1 w.heap.size [.slice e.va e.vn e.vc, .slice e.ra e.rn e.rc]) := HXW.out.below hb1
  have HB1 : Hid (Below w.heap.size w w1) := bl_trans HBW.out hb1
  clear hb1 lr HXW HBW HZ
  rcases hr1 with rfl | ⟨p1, q1, s1⟩
  · go_wp2_with fail
    go_ret
    exact ⟨rfl, HB1.out⟩
  have n1 : ¬ r1 < 0 := by omega
  have HL : Hid (e.lies 0 w) := HLI.out s1
  have hT1 := HTO.out w1 (HUP.out _ _ _ HL.out HB1.out)
  have lr : w1.rangeAt w.heap.size 0 [.slice e.va e.vn e.vc, .slice e.ra e.rn e.rc] := HX0.out.range 0 _ rfl
  clear p1 q1 s1 HLI
  go_wp2_with (with_reducible refine wpt_at ?_; refine wpList_load_mid rfl 25 _ rfl _ _ rfl [.slice e.va e.vn e.vc, .slice e.ra e.rn e.rc] _ lr Tryz.underlying25 rfl (by kernel_rfl) ?_; try simp only [Act.put, List.setIfInBounds_toArray, List.set_cons_zero, List.set_cons_succ])
  refine hT1.mono ?_
  rintro r w2 ⟨y, rfl, hy, hv, hs, hb2⟩
  have HB2 : Hid (Below w1.heap.size w1 w2) := hb2
  have hO := HSO.out w2 y (TL.lies.base hy.1 (Nat.zero_le _)) hv hs
  clear hT1 hy hs hb2 lr hv
  go_wp2_with fail
  refine hO.mono ?_
  rintro r w3 ⟨a0, cp0, rfl, hN3, hb3⟩
  have HV3 : Hid (Bs w3 a0 L.length L) := hN3.bs
  have HB3 : Hid (Below w1.heap.size w1 w3) := bl_trans HB2.out hb3
  have HBw3 : Hid (Below w.heap.size w w3) := bl_trans HB1.out HB3.out
  have HX3 : Hid (Box w3 w.heap.size [.slice e.va e.vn e.vc, .slice e.ra e.rn e.rc]) := HX0.out.below HB3.out
  clear hO hN3 hb3 HSO HX0 HB1 HB2 HB3
  have hT2 := HTO.out w3 (HUP.out _ _ _ HL.out HBw3.out)
  have lr : w3.rangeAt w.heap.size 0 [.slice e.va e.vn e.vc, .slice e.ra e.rn e.rc] := HX3.out.range 0 _ rfl
  go_wp2_with (with_reducible refine wpt_at ?_; refine wpList_load_mid rfl 25 _ rfl _ _ rfl [.slice e.va e.vn e.vc, .slice e.ra e.rn e.rc] _ lr Tryz.underlying25 rfl (by kernel_rfl) ?_; try simp only [Act.put, List.setIfInBounds_toArray, List.set_cons_zero, List.set_cons_succ])
  refine hT2.mono ?_
  rintro r w4 ⟨z, rfl, hz, hv, hs, hb4⟩
  have HO4 : Hid (z.own w3.heap.size w4) := hz
  have HZ4 : Hid (z.lies 0 w4) := TL.lies.base hz.1 (Nat.zero_le _)
  have HS4 : Hid (e.same z) := hs
  have HB4 : Hid (Below w3.heap.size w3 w4) := hb4
  clear hT2 hz hs hb4 lr hv
  have st : (w4.alloc (.cells #[.slice none 0 0, .slice none 0 0] 31)).there w4.heap.size 0 2 := (OB.new w4 #[.slice none 0 0, .slice none 0 0] 31).there 0 2 (by simp)
  have on : (#[.slice z.va z.vn z.vc, .slice z.ra z.rn z.rc] : Array Value).all (·.oneCell') = true := all_oneCell_toArray (cs := [.slice z.va z.vn z.vc, .slice z.ra z.rn z.rc]) (by simp [Value.oneCell'])
  have HXz5 : Hid (Box ((w4.alloc (.cells #[.slice none 0 0, .slice none 0 0] 31)).setCells w4.heap.size 0 [.slice z.va z.vn z.vc, .slice z.ra z.rn z.rc]) w4.heap.size [.slice z.va z.vn z.vc, .slice z.ra z.rn z.rc]) := ((OB.new w4 #[.slice none 0 0, .slice none 0 0] 31).sets [.slice z.va z.vn z.vc, .slice z.ra z.rn z.rc] 0).box
  have HB5 : Hid (Below w4.heap.size w4 ((w4.alloc (.cells #[.slice none 0 0, .slice none 0 0] 31)).setCells w4.heap.size 0 [.slice z.va z.vn z.vc, .slice z.ra z.rn z.rc])) := below_sets _ (Nat.le_refl _) _ _ _ (bl_a _)
  go_upto_region 7 with (with_reducible refine wpt_at ?_; refine wpList_store_mid rfl 31 _ _ rfl _ _ _ rfl rfl st (by kernel_rfl) on ?_; try simp only [Act.put])
  generalize (w4.alloc (.cells #[.slice none 0 0, .slice none 0 0] 31)).setCells w4.heap.size 0 [.slice z.va z.vn z.vc, .slice z.ra z.rn z.rc] = W5 at *
  clear st on
  have HD5 : Hid (Below w3.heap.size w3 W5) := bl_trans HB4.out HB5.out
  have hI5 := HIO.out W5 z (HUP.out _ _ _ HZ4.out HB5.out) HS4.out (HTB.out _ (bl_trans HBw3.out HD5.out))
  have HG5 : Hid (w4.heap.size < W5.heap.size) := HXz5.out.1
  have h34 : w3.heap.size ≤ w4.heap.size := HB4.out.size
  have lr : W5.rangeAt w4.heap.size 0 [.slice z.va z.vn z.vc, .slice z.ra z.rn z.rc] := HXz5.out.range 0 _ rfl
  go_wp2_with (with_reducible refine wpt_at ?_; refine wpList_load_mid rfl 31 _ rfl _ _ rfl [.slice z.va z.vn z.vc, .slice z.ra z.rn z.rc] _ lr Tryz.underlying31 rfl (by kernel_rfl) ?_; try simp only [Act.put, List.setIfInBounds_toArray, List.set_cons_zero, List.set_cons_succ])
  refine hI5.mono ?_
  rintro r w6 ⟨ag, cg, rfl, hN6, hb6⟩
  have HG6 : Hid (Nw w6 W5.heap.size ag L.length L) := hN6
  have HD6 : Hid (Below w3.heap.size w3 w6) := bl_trans HD5.out hb6
  have HE6 : Hid (Below w4.heap.size w4 w6) := bl_trans HB5.out hb6
  have HX6 : Hid (Box w6 w4.heap.size [.slice z.va z.vn z.vc, .slice z.ra z.rn z.rc]) := HXz5.out.below hb6
  clear hI5 hN6 hb6 lr HXz5 HD5 HB5
  go_wp2_with fail
  refine (eqByteS_any ag a0 L.length L.length cg cp0 L L _ HG6.out.bs (HV3.out.below HD6.out)).mono ?_
  rintro r w7 ⟨rfl, q7, rfl⟩
  have HG7 : Hid (Nw (w6.drewN q7) W5.heap.size ag L.length L) := HG6.out.below (bl_drewN q7)
  have HD7 : Hid (Below w3.heap.size w3 (w6.drewN q7)) := bl_trans HD6.out (bl_drewN q7)
  have HE7 : Hid (Below w4.heap.size w4 (w6.drewN q7)) := bl_trans HE6.out (bl_drewN q7)
  have HX7 : Hid (Box (w6.drewN q7) w4.heap.size [.slice z.va z.vn z.vc, .slice z.ra z.rn z.rc]) := HX6.out.below (bl_drewN q7)
  clear HG6 HD6 HE6 HX6
  generalize w6.drewN q7 = w7 at *
  have HXe : Hid (Box w7 w.heap.size [.slice e.va e.vn e.vc, .slice e.ra e.rn e.rc]) := HX3.out.below HD7.out
  have HBX : Hid (∀ w', Below w7.heap.size w7 w' → w'.rangeAt w.heap.size 0 [.slice e.va e.vn e.vc, .slice e.ra e.rn e.rc] ∧ w'.rangeAt w4.heap.size 0 [.slice z.va z.vn z.vc, .slice z.ra z.rn z.rc]) := fun w' hg => ⟨(HXe.out.below hg).range 0 _ rfl, (HX7.out.below hg).range 0 _ rfl⟩
  have HBw7 : Hid (Below w.heap.size w w7) := bl_trans HBw3.out HD7.out
  have HT3 : Hid (Calls Tryz.prog 6 #[.agg #[.slice e.va e.vn e.vc, .slice e.ra e.rn e.rc]] w7.drew (CpyTable e w7.drew)) := HTO.out w7.drew (HUP.out _ _ _ HL.out (Below.drew HBw7.out))
  have HEQ7 : Hid (∀ (w8 : World) (x : TL), Below w7.heap.size w7.drew w8 → x.lies 0 w8 → e.same x → Calls Tryz.prog 9 #[.agg #[.slice z.va z.vn z.vc, .slice z.ra z.rn z.rc], .agg #[.slice x.va x.vn x.vc, .slice x.ra x.rn x.rc]] w8 (Yes w8)) := by
    intro w8 x hb h1 h2
    exact HEQ.out w8 z x (HUP.out _ _ _ HZ4.out ((Below.drew HE7.out).trans (hb.mono HE7.out.size))) h1 HS4.out h2
  clear HEQ HXe
  go_wp2_with fail
  refine wp_region_held_drew (S := fun w' => Below w7.heap.size w7 w') (by kernel_rfl) ?_ (fun hHeld => ?_)
  · exact Below.drew (Below.refl _ _)
  refine takeq (i := 0) 27 (v := .agg #[.slice z.va z.vn z.vc, .slice z.ra z.rn z.rc]) rfl rfl (by kernel_rfl) (by kernel_rfl) (by kernel_rfl) (fun _ _ _ h => h) (yieldsIf_load_mid (by rfl) 31 _ rfl w4.heap.size 0 rfl [.slice z.va z.vn z.vc, .slice z.ra z.rn z.rc] _ (fun w' h => (HBX.out w' h).2) Tryz.underlying31 rfl (by kernel_rfl)) hHeld ?r1
  try simp only [Act.put, List.setIfInBounds_toArray, List.set_cons_zero, List.set_cons_succ]
  refine takeq (i := 1) 28 (v := .agg #[.slice e.va e.vn e.vc, .slice e.ra e.rn e.rc]) rfl rfl (by kernel_rfl) (by kernel_rfl) (by kernel_rfl) (fun _ _ _ h => h) (yieldsIf_load_mid (by rfl) 25 _ rfl w.heap.size 0 rfl [.slice e.va e.vn e.vc, .slice e.ra e.rn e.rc] _ (fun w' h => (HBX.out w' h).1) Tryz.underlying25 rfl (by kernel_rfl)) hHeld ?r2
  try simp only [Act.put, List.setIfInBounds_toArray, List.set_cons_zero, List.set_cons_succ]
  refine wpAnyH_ready (rs := [2]) (by kernel_rfl) (by simp) ?_
  refine AllReadyH.cons rfl (fun K hK => ?_) AllReadyH.nil
  go_simp
  refine HT3.out.mono ?_
  rintro r w8 ⟨x, rfl, hx, hv8, hs8, hb8⟩
  have HB8 : Hid (Below w7.heap.size w7.drew w8) := hb8
  have hEQ := HEQ7.out w8 x HB8.out (TL.lies.base hx.1 (Nat.zero_le _)) hs8
  clear hx hs8 hb8 hv8 HEQ7 HT3 HBX
  go_wp2_with fail
  refine hK.out _ _ ?_ (fun hHeld => ?_)
  · exact (Below.drew (Below.refl _ _)).trans HB8.out
  clear hK K
  try simp only [Act.put, List.setIfInBounds_toArray, List.set_cons_zero, List.set_cons_succ]
  refine wpAnyH_ready (rs := [3]) (by kernel_rfl) (by simp) ?_
  refine AllReadyH.cons rfl (fun K hK => ?_) AllReadyH.nil
  go_simp
  refine hEQ.mono ?_
  rintro r w10 ⟨rfl, hb10⟩
  have HB10 : Hid (Below w7.heap.size w7 w10) := ((Below.drew (Below.refl _ _)).trans HB8.out).trans (hb10.mono (by have := HB8.out.size; simpa using this))
  clear hEQ hb10 HB8
  go_wp2_with fail
  refine hK.out _ _ ?_ (fun hHeld => ?_)
  · exact HB10.out
  clear hK K
  try simp only [Act.put, List.setIfInBounds_toArray, List.set_cons_zero, List.set_cons_succ]
  refine takeq (i := 4) 31 (v := .bool false) rfl rfl (by kernel_rfl) (by kernel_rfl) (by kernel_rfl) (fun _ _ _ h => h) (Or.inl ⟨by rfl, ?y3⟩) hHeld ?r3
  case y3 => (intro w' hSw; go_simp; (try with_reducible rfl))
  try simp only [Act.put, List.setIfInBounds_toArray, List.set_cons_zero, List.set_cons_succ]
  refine wpAnyH_done (by kernel_rfl) ?_ _
  have HG10 : Hid (Nw w10 W5.heap.size ag L.length L) := HG7.out.below HB10.out
  have HD10 : Hid (Below w3.heap.size w3 w10) := bl_trans HD7.out HB10.out
  have HE10 : Hid (Below w4.heap.size w4 w10) := bl_trans HE7.out HB10.out
  have HX10 : Hid (Box w10 w4.heap.size [.slice z.va z.vn z.vc, .slice z.ra z.rn z.rc]) := HX7.out.below HB10.out
  clear hHeld HG7 HD7 HE7 HX7 HBw7 HB10
  have lr : w10.rangeAt w4.heap.size 0 [.slice z.va z.vn z.vc, .slice z.ra z.rn z.rc] := HX10.out.range 0 _ rfl
  have hM := markTable_b w3.heap.size w4.heap.size z w10 HO4.out.1.2.2.1 HO4.out.1.2.2.2.2.2 (fun o => HO4.out.marks1 (bl_alloc HE10.out o)) (fun o => HO4.out.marks2 (bl_alloc HE10.out o))
  go_wp2_with (with_reducible refine wpt_at ?_; refine wpList_load_mid rfl 31 _ rfl _ _ rfl [.slice z.va z.vn z.vc, .slice z.ra z.rn z.rc] _ lr Tryz.underlying31 rfl (by kernel_rfl) ?_; try simp only [Act.put, List.setIfInBounds_toArray, List.set_cons_zero, List.set_cons_succ])
  refine hM.mono ?_
  rintro r w11 ⟨q11, o11, rfl, hq11, hM11⟩
  have HD11 : Hid (Below w3.heap.size w3 w11) := (bl_alloc HD10.out o11).trans hM11.below
  have HG11 : Hid (Nw w11 W5.heap.size ag L.length L) := (HG10.out.below (bl_a o11)).midT hM11 (Nat.le_of_lt HG5.out)
  have h35 : w3.heap.size ≤ W5.heap.size := Nat.le_trans h34 (Nat.le_of_lt HG5.out)
  clear lr hM hM11 HD10 HG10 HE10 HX10 HO4 HZ4
  have hk : ¬ (q11 < 0) := by omega
  go_wp2_with fail
  refine (eqByteS_any ag a0 L.length L.length cg cp0 L L _ HG11.out.bs (HV3.out.below HD11.out)).mono ?_
  rintro r w12 ⟨rfl, q12, rfl⟩
  have HG12 : Hid (Nw (w11.drewN q12) W5.heap.size ag L.length L) := HG11.out.below (bl_drewN q12)
  have HD12 : Hid (Below w3.heap.size w3 (w11.drewN q12)) := bl_trans HD11.out (bl_drewN q12)
  clear HG11 HD11
  generalize w11.drewN q12 = w12 at *
  go_wp2_with fail
  refine (mark_nw ag L.length cg W5.heap.size L 1 _ HG12.out (by omega) (by omega) (by omega)).mono ?_
  rintro r w13 ⟨rfl, hM, hb13, hz13⟩
  have HD13 : Hid (Below w3.heap.size w3 w13) := HD12.out.trans (hb13.mono h35)
  have HM13 : Hid (Marked w13 ag L.length 1) := hM
  clear hM hb13 hz13 HD12 HG12 hk
  go_wp2_with fail
  refine (held_any ag L.length cg 1 _ HM13.out (by omega) (by omega) (by omega)).mono ?_
  rintro r w13' ⟨rfl, rfl⟩
  have HBw13 : Hid (Below w.heap.size w w13') := bl_trans HBw3.out HD13.out
  have lr : w13'.rangeAt w.heap.size 0 [.slice e.va e.vn e.vc, .slice e.ra e.rn e.rc] := (HX3.out.below HD13.out).range 0 _ rfl
  have hT4 := HTO.out w13' (HUP.out _ _ _ HL.out HBw13.out)
  go_wp2_with (with_reducible refine wpt_at ?_; refine wpList_load_mid rfl 25 _ rfl _ _ rfl [.slice e.va e.vn e.vc, .slice e.ra e.rn e.rc] _ lr Tryz.underlying25 rfl (by kernel_rfl) ?_; try simp only [Act.put, List.setIfInBounds_toArray, List.set_cons_zero, List.set_cons_succ])
  refine hT4.mono ?_
  rintro r w14 ⟨u, rfl, hu, hv, hs, hb14⟩
  have HD14 : Hid (Below w3.heap.size w3 w14) := bl_trans HD13.out hb14
  have HM14 : Hid (Marked w14 ag L.length 1) := HM13.out.below hb14
  have hI := HIO.out w14 u (TL.lies.base hu.1 (Nat.zero_le _)) hs (HTB.out _ (bl_trans HBw3.out HD14.out))
  clear lr hT4 hu hv hs hb14 HD13 HM13 HBw13 HTO HIO
  go_wp2_with fail
  refine hI.mono ?_
  rintro r w15 ⟨ah, ch, rfl, hN15, hb15⟩
  have HD15 : Hid (Below w3.heap.size w3 w15) := bl_trans HD14.out hb15
  have HM15 : Hid (Marked w15 ag L.length 1) := HM14.out.below hb15
  have HH15 : Hid (Bs w15 ah L.length L) := hN15.bs
  clear hI hN15 hb15 HD14 HM14
  go_wp2_with fail
  refine (eqByteS_any ah a0 L.length L.length ch cp0 L L _ HH15.out (HV3.out.below HD15.out)).mono ?_
  rintro r w16 ⟨rfl, q16, rfl⟩
  have HD16 : Hid (Below w3.heap.size w3 (w15.drewN q16)) := bl_trans HD15.out (bl_drewN q16)
  have HM16 : Hid (Marked (w15.drewN q16) ag L.length 1) := HM15.out.below (bl_drewN q16)
  clear HD15 HM15 HH15
  generalize w15.drewN q16 = w16 at *
  go_wp2_with fail
  refine (held_any ag L.length cg 1 _ HM16.out (by omega) (by omega) (by omega)).mono ?_
  rintro r w16' ⟨rfl, rfl⟩
  go_wp2_with fail
  go_ret
  exact ⟨rfl, bl_trans HBw3.out HD16.out⟩
end Go.Proofs.YtganfiajhokkmaaGreatDoor

/- TbP -/
namespace Go.Proofs.YtganfiajhokkmaaGreatDoor
open Go.ChangeShapes Go.WideShapes Go.ChangeAt Go.RowKit Go.Joins
set_option maxRecDepth 100000

theorem door_metTableText (os : Os) (args : Array Value) : laidMetH Tryz.prog Rows.fnExactTableTextRow.laid ((World.doorLaid Tryz.prog 24 os).forCall (fun _ _ => 0) ⟨#[], args, []⟩).memory :=
  laidMetH_of_parts3 (fuel := 8) (laidMet_of_run' 8 (by kernel_rfl) (by kernel_rfl)) (by kernel_rfl) (by kernel_rfl)

theorem Tryz.cells122 : Tryz.prog.cellsOf 122 = 1 := by kernel_rfl
theorem tab_of_laid {W : World} (h : laidMetH Tryz.prog Rows.fnExactTableTextRow.laid W) : Tab W := by
  rw [MakeChecks.laidMetH_plain _ _ _ (by kernel_rfl)] at h
  exact Lib.tabIs_of_head (k := .u64) (zs := Lib.pow10Tab) (rest := []) (g := 0) (t := 134) (n := 20) (by kernel_rfl) (by kernel_rfl) (by kernel_rfl) Tryz.underlying122 Tryz.cells122 (by kernel_rfl) (laidMet.tail (laidMet.tail h))

theorem liftedTableText (os : Os) (started : os.Started) (H : Type) (enc : TypeId × Value → H) :
    ReturnsInHanded {} Tryz.checked os 3 .any (fun w args => (Rows.fnExactTableTextSpec.pre enc Tryz.prog Tryz.f3 [] false w args ∧ laidMetH Tryz.prog Rows.fnExactTableTextRow.laid w) ∧ sizedMet enc Tryz.prog Tryz.f3 (OpenSpec.ofChange Rows.fnExactTableTextSpec) false w args)
      (Rows.fnExactTableTextSpec.post enc Tryz.prog Tryz.f3 false true false false) := by
  refine returnsInHanded_of_change_and (C := Tryz.checked) (X := fun w _ => laidMetH Tryz.prog Rows.fnExactTableTextRow.laid w) (fun _ _ _ hh h => h.of_heap hh) own started (by kernel_rfl) Tryz.func3
    (ChangeSpec.witness_shaped (enc := enc) (C := Tryz.checked) (os := os) (X := fun w _ => laidMetH Tryz.prog Rows.fnExactTableTextRow.laid w) false (World.doorLaid Tryz.prog 24 os) #[.agg #[.slice none 0 0, .slice none 0 0]] 8 rfl (World.shaped_of_RefB (by kernel_rfl) (by kernel_rfl)) (by kernel_rfl) (by kernel_rfl) (by kernel_rfl) (door_metTableText os _)) ?_
  intro W base args ds gs before hval0 hW _ _ hL _
  have hval : ∀ (j : Nat) t v, Tryz.f3.params[j]? = some t → args[j]? = some v → Value.okWide Tryz.prog W .any base t v := hval0
  have hW' := hW
  obtain ⟨p, q, hA0, hV, rfl, hfz, hnd⟩ := hW
  have hA : DataW.TrodAll enc Tryz.prog W 0 (fun _ => true) true Tryz.f3.params.toList args.toList ds p := hA0
  rw [Tryz.params3] at hA hval
  obtain ⟨v0, vs0, d0, ds0, p0, q0, hargs, rfl, rfl, h0, r0⟩ := trodAll_cons hA
  obtain ⟨rfl, rfl, rfl⟩ := trodAll_nil r0
  obtain rfl : args = #[v0] := by cases args; simp_all
  obtain ⟨rfl, rfl⟩ := trodVars_none hV
  have k0 := h0
  have lt0 : ∀ x ∈ p0, x.block < W.heap.size := by obtain ⟨m, hm⟩ := k0; exact DataW.trod_lt m _ _ _ hm
  obtain ⟨t0, rfl, hc⟩ := open_table (hval 0 25 v0 rfl rfl) h0
  clear hA0 hval0
  refine (walkTableText t0 W hc (tab_of_laid hL)).mono fun e W' ⟨he, bel⟩ => ?_
  subst he
  exact ⟨_, rfl, _, _, _, [], _, [], hW', trodAll_mk1 (shut_bool Tryz.underlying4 _), (trodAll_cons_mk (Below.trod laidOut (by kernel_rfl) (of_decide_eq_true (by kernel_rfl)) k0 bel lt0) trodAll_mk0), rfl, bel.frame _, fun h => by cases h⟩

theorem overTableText : Rows.FnExactTableTextSaid :=
  OpenClaim.holds_of_wide 3 Tryz.f3 rfl rfl rfl rfl rfl rfl rfl ⟨rfl, rfl, rfl, rfl, rfl⟩ rfl rfl rfl rfl rfl (by kernel_rfl) Tryz.func3 (by kernel_rfl)
    (of_decide_eq_true (by kernel_rfl)) (by unfold Func.isWrapper; first | (rw [if_pos (by decide +kernel)]; kernel_rfl) | (rw [if_neg (by decide +kernel)]; exact ⟨rfl, rfl⟩))
    (fun os started H enc _ => liftedTableText os started H enc)

theorem provedTableText : Rows.FnExactTableTextCardSaid :=
  Claim7.holds_tied_plain_at .later [] [.data, .data, .data] true Rows.fnExactTableTextCard.stood.harness false
    overTableText (fun _ h => by cases h) (by kernel_rfl) (fun _ h => by cases h) fnExactTableText_row_tie rfl ⟨rfl, rfl⟩ (by kernel_rfl) rfl
    (fun f fn hf hfn => by
      obtain rfl : f = 3 := Option.some.inj ((show Tryz.prog.funcNamed Rows.fnExactTableTextRow.func = some 3 by kernel_rfl).symm.trans hf) |>.symm
      obtain rfl : fn = Tryz.f3 := (Option.some.inj (Tryz.func3.symm.trans hfn)).symm
      exact ⟨by kernel_rfl, fun j t ht => by
        rw [Tryz.params3] at ht
        have hm : t ∈ [25] := by simpa using Array.mem_of_getElem? ht
        have hall : ([25].all fun u => !Tryz.prog.wantsStandIn u) = true := by kernel_rfl
        exact (show Tryz.prog.wantsStandIn t = false by simpa using List.all_eq_true.1 hall t hm)⟩)
    (by kernel_rfl)
#print axioms provedTableText
end Go.Proofs.YtganfiajhokkmaaGreatDoor
