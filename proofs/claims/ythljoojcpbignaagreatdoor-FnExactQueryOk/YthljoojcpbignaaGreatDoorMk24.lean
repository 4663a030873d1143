import Derived.Test.YthljoojcpbignaaGreatDoorMk23
import Derived.Test.YthljoojcpbignaaGreatDoorMk01
import Derived.Test.YthljoojcpbignaaGreatDoorMk03
import Derived.Test.YthljoojcpbignaaGreatDoorMk05
namespace Go.Proofs.YthljoojcpbignaaGreatDoor
/- UtF -/
open Go.RowKit Go.Deep
set_option maxHeartbeats 40000000
set_option maxRecDepth 100000
theorem toQueryW (x : QY) (w : World) (h : x.lies 0 w) : Calls Tryz.prog 8 #[.agg x.ar] w fun e w' => ∃ y : QY, e = .returned (.agg y.ar) ∧ y.own w.heap.size w' ∧ x.same y ∧ Bl w w' := by
 have HZ1 : Hid (∀ (W : World), Bl w W → Cl 28 #[.slice x.sa x.sn x.sc] W fun e w' => ∃ (g : Nat) (k' : Nat → SE), e = .returned (.slice (some ⟨g, 0, none⟩) x.sn x.sn) ∧ KRow W.heap.size w' 3 (some ⟨g, 0, none⟩) x.sn (fun i => (k' i).cells) ∧ FrW W.heap.size w' g (x.sn * 3) ∧ (∀ i, i < x.sn → (k' i).own W.heap.size w') ∧ (∀ i, i < x.sn → (x.sel i).same (k' i)) ∧ Bl W w') := fun W hb => toSelSW _ _ _ _ W h.s.2.2 (h.s.1.upper (uB hb)) fun i hi W' hW => toSelW _ W' ((h.s.2.1 i hi).upper (uB (bl_trans hb hW)))
 have HZ2 : Hid (∀ (W : World), Bl w W → Cl 29 #[.slice x.ba x.bn x.bc] W fun e w' => ∃ (g : Nat) (k' : Nat → UT), e = .returned (.slice (some ⟨g, 0, none⟩) x.bn x.bn) ∧ KRow W.heap.size w' 28 (some ⟨g, 0, none⟩) x.bn (fun i => (k' i).d.cells) ∧ FrW W.heap.size w' g (x.bn * 28) ∧ (∀ i, i < x.bn → (k' i).own W.heap.size w') ∧ (∀ i, i < x.bn → (x.body i).same (k' i)) ∧ Bl W w') := fun W hb => toElemSW _ _ _ _ W h.b.2.2 (h.b.1.upper (uB hb)) fun i hi W' hW => toElemW _ W' ((h.b.2.1 i hi).upper (uB (bl_trans hb hW)))
 have HZ3 : Hid (∀ (W : World), Bl w W → Cl 30 #[.slice x.ga x.gn x.gc] W fun e w' => ∃ (g : Nat) (k' : Nat → SL), e = .returned (.slice (some ⟨g, 0, none⟩) x.gn x.gn) ∧ KRow W.heap.size w' 1 (some ⟨g, 0, none⟩) x.gn (fun i => (k' i).cells) ∧ FrW W.heap.size w' g (x.gn) ∧ (∀ i, i < x.gn → (k' i).own W.heap.size w') ∧ (∀ i, i < x.gn → (x.grp i).same (k' i)) ∧ Bl W w') := fun W hb => toByteSS_of _ _ _ _ W h.g.2.2 (h.g.1.upper (uB hb)) fun i hi W' hW => toByteSW _ W' (BsF.upper (h.g.2.1 i hi) (uB (bl_trans hb hW)))
 have HZ4 : Hid (∀ (W : World), Bl w W → Cl 31 #[.slice x.oa x.on x.oc] W fun e w' => ∃ (g : Nat) (k' : Nat → KY), e = .returned (.slice (some ⟨g, 0, none⟩) x.on x.on) ∧ KRow W.heap.size w' 2 (some ⟨g, 0, none⟩) x.on (fun i => (k' i).cells) ∧ FrW W.heap.size w' g (x.on * 2) ∧ (∀ i, i < x.on → (k' i).own W.heap.size w') ∧ (∀ i, i < x.on → (x.key i).same (k' i)) ∧ Bl W w') := fun W hb => toKeySW _ _ _ _ W h.o.2.2 (h.o.1.upper (uB hb)) fun i hi W' hW => toKeyW _ W' ((h.o.2.1 i hi).upper (uB (bl_trans hb hW)))
 have HN1 := hid h.s.2.2
 have HN2 := hid h.b.2.2
 have HN3 := hid h.g.2.2
 have HN4 := hid h.o.2.2
 clear h
 go_in
 have Z1 := HZ1.out
 go_wp2_with fail
 refine (Z1 _ (bl_alloc (bl_alloc (bl_a _) _) _)).mono ?_
 rintro e w1 ⟨g1, k1, rfl, hy1, hw1, hz1, he1, hb1⟩
 have HT := hid ((TS.new w _ _ _ 27 34 34).below hb1)
 have e3 : (w.heap.size + 1 + 1 + 1) ≤ (((w.alloc (.cells x.ar 27)).alloc (.cells zQa 34)).alloc (.cells #[.bool x.ask, .bool x.dis, .slice none 0 0, .slice none 0 0, .slice none 0 0, .slice none 0 0, .int .i64 0, .int .i64 0] 34)).heap.size := by simp
 have HM1 := hid ((hy1.base e3).upper (upper_set (w := w1) (g := w.heap.size + 1 + 1) (i := 2) (.slice (some ⟨g1, 0, none⟩) x.sn x.sn)))
 have HW1 := hid ((hw1.base e3).upper (upper_set (w := w1) (g := w.heap.size + 1 + 1) (i := 2) (.slice (some ⟨g1, 0, none⟩) x.sn x.sn)))
 have HL1 := hid (fun i (hi : i < x.sn) => ((fun i hi => (hz1 i hi).base e3) i hi).upper (upper_set (w := w1) (g := w.heap.size + 1 + 1) (i := 2) (.slice (some ⟨g1, 0, none⟩) x.sn x.sn)))
 have HE1 := hid he1
 have HTn : Hid (TS w (w1.setCell ⟨w.heap.size + 1 + 1, 2, none⟩ (.slice (some ⟨g1, 0, none⟩) x.sn x.sn)) x.cl zQl [.bool x.ask, .bool x.dis, .slice (some ⟨g1, 0, none⟩) x.sn x.sn, .slice none 0 0, .slice none 0 0, .slice none 0 0, .int .i64 0, .int .i64 0]) := HT.out.set 2 _
 have st0 := (HT.out.ox.2 2 _ rfl).1
 have st1 := (HT.out.ox.2 2 _ rfl).2
 clear hy1 hw1 hz1 he1 hb1 e3 Z1 HZ1
 go_upto_region 5 with fail
 clear st0 st1 HT
 generalize (w1.setCell ⟨w.heap.size + 1 + 1, 2, none⟩ (.slice (some ⟨g1, 0, none⟩) x.sn x.sn)) = W1 at *
 have HT := HTn
 clear HTn
 have ld := HT.out.px.2 3 _ rfl
 have Z2 := HZ2.out
 go_wp2_with fail
 refine (Z2 _ HT.out.bl).mono ?_
 rintro e w2 ⟨g2, k2, rfl, hy2, hw2, hz2, he2, hb2⟩
 have e3 := HT.out.base
 have HT := hid (HT.out.below hb2)
 have HM2 := hid ((hy2.base e3).upper (upper_set (w := w2) (g := w.heap.size + 1 + 1) (i := 3) (.slice (some ⟨g2, 0, none⟩) x.bn x.bn)))
 have HW2 := hid ((hw2.base e3).upper (upper_set (w := w2) (g := w.heap.size + 1 + 1) (i := 3) (.slice (some ⟨g2, 0, none⟩) x.bn x.bn)))
 have HL2 := hid (fun i (hi : i < x.bn) => ((fun i hi => (hz2 i hi).base e3) i hi).upper (upper_set (w := w2) (g := w.heap.size + 1 + 1) (i := 3) (.slice (some ⟨g2, 0, none⟩) x.bn x.bn)))
 have HM1 := hid ((HM1.out.upper (uB hb2)).upper (upper_set (w := w2) (g := w.heap.size + 1 + 1) (i := 3) (.slice (some ⟨g2, 0, none⟩) x.bn x.bn)))
 have HW1 := hid ((HW1.out.upper (uB hb2)).upper (upper_set (w := w2) (g := w.heap.size + 1 + 1) (i := 3) (.slice (some ⟨g2, 0, none⟩) x.bn x.bn)))
 have HL1 := hid (fun i (hi : i < x.sn) => ((fun i hi => (HL1.out i hi).upper (uB hb2)) i hi).upper (upper_set (w := w2) (g := w.heap.size + 1 + 1) (i := 3) (.slice (some ⟨g2, 0, none⟩) x.bn x.bn)))
 have HE2 := hid he2
 have HTn : Hid (TS w (w2.setCell ⟨w.heap.size + 1 + 1, 3, none⟩ (.slice (some ⟨g2, 0, none⟩) x.bn x.bn)) x.cl zQl [.bool x.ask, .bool x.dis, .slice (some ⟨g1, 0, none⟩) x.sn x.sn, .slice (some ⟨g2, 0, none⟩) x.bn x.bn, .slice none 0 0, .slice none 0 0, .int .i64 0, .int .i64 0]) := HT.out.set 3 _
 have st0 := (HT.out.ox.2 3 _ rfl).1
 have st1 := (HT.out.ox.2 3 _ rfl).2
 clear hy2 hw2 hz2 he2 hb2 e3 Z2 HZ2 ld
 go_upto_region 6 with fail
 clear st0 st1 HT
 generalize (w2.setCell ⟨w.heap.size + 1 + 1, 3, none⟩ (.slice (some ⟨g2, 0, none⟩) x.bn x.bn)) = W2 at *
 have HT := HTn
 clear HTn
 have ld := HT.out.px.2 4 _ rfl
 have Z3 := HZ3.out
 go_wp2_with fail
 refine (Z3 _ HT.out.bl).mono ?_
 rintro e w3 ⟨g3, k3, rfl, hy3, hw3, hz3, he3, hb3⟩
 have e3 := HT.out.base
 have HT := hid (HT.out.below hb3)
 have HM3 := hid ((hy3.base e3).upper (upper_set (w := w3) (g := w.heap.size + 1 + 1) (i := 4) (.slice (some ⟨g3, 0, none⟩) x.gn x.gn)))
 have HW3 := hid ((hw3.base e3).upper (upper_set (w := w3) (g := w.heap.size + 1 + 1) (i := 4) (.slice (some ⟨g3, 0, none⟩) x.gn x.gn)))
 have HL3 := hid (fun i (hi : i < x.gn) => ((fun i hi => (hz3 i hi).base e3) i hi).upper (upper_set (w := w3) (g := w.heap.size + 1 + 1) (i := 4) (.slice (some ⟨g3, 0, none⟩) x.gn x.gn)))
 have HM2 := hid ((HM2.out.upper (uB hb3)).upper (upper_set (w := w3) (g := w.heap.size + 1 + 1) (i := 4) (.slice (some ⟨g3, 0, none⟩) x.gn x.gn)))
 have HW2 := hid ((HW2.out.upper (uB hb3)).upper (upper_set (w := w3) (g := w.heap.size + 1 + 1) (i := 4) (.slice (some ⟨g3, 0, none⟩) x.gn x.gn)))
 have HL2 := hid (fun i (hi : i < x.bn) => ((fun i hi => (HL2.out i hi).upper (uB hb3)) i hi).upper (upper_set (w := w3) (g := w.heap.size + 1 + 1) (i := 4) (.slice (some ⟨g3, 0, none⟩) x.gn x.gn)))
 have HM1 := hid ((HM1.out.upper (uB hb3)).upper (upper_set (w := w3) (g := w.heap.size + 1 + 1) (i := 4) (.slice (some ⟨g3, 0, none⟩) x.gn x.gn)))
 have HW1 := hid ((HW1.out.upper (uB hb3)).upper (upper_set (w := w3) (g := w.heap.size + 1 + 1) (i := 4) (.slice (some ⟨g3, 0, none⟩) x.gn x.gn)))
 have HL1 := hid (fun i (hi : i < x.sn) => ((fun i hi => (HL1.out i hi).upper (uB hb3)) i hi).upper (upper_set (w := w3) (g := w.heap.size + 1 + 1) (i := 4) (.slice (some ⟨g3, 0, none⟩) x.gn x.gn)))
 have HE3 := hid he3
 have HTn : Hid (TS w (w3.setCell ⟨w.heap.size + 1 + 1, 4, none⟩ (.slice (some ⟨g3, 0, none⟩) x.gn x.gn)) x.cl zQl [.bool x.ask, .bool x.dis, .slice (some ⟨g1, 0, none⟩) x.sn x.sn, .slice (some ⟨g2, 0, none⟩) x.bn x.bn, .slice (some ⟨g3, 0, none⟩) x.gn x.gn, .slice none 0 0, .int .i64 0, .int .i64 0]) := HT.out.set 4 _
 have st0 := (HT.out.ox.2 4 _ rfl).1
 have st1 := (HT.out.ox.2 4 _ rfl).2
 clear hy3 hw3 hz3 he3 hb3 e3 Z3 HZ3 ld
 go_upto_region 7 with fail
 clear st0 st1 HT
 generalize (w3.setCell ⟨w.heap.size + 1 + 1, 4, none⟩ (.slice (some ⟨g3, 0, none⟩) x.gn x.gn)) = W3 at *
 have HT := HTn
 clear HTn
 have ld := HT.out.px.2 5 _ rfl
 have Z4 := HZ4.out
 go_wp2_with fail
 refine (Z4 _ HT.out.bl).mono ?_
 rintro e w4 ⟨g4, k4, rfl, hy4, hw4, hz4, he4, hb4⟩
 have e3 := HT.out.base
 have HT := hid (HT.out.below hb4)
 have HM4 := hid ((hy4.base e3).upper (upper_set (w := w4) (g := w.heap.size + 1 + 1) (i := 5) (.slice (some ⟨g4, 0, none⟩) x.on x.on)))
 have HW4 := hid ((hw4.base e3).upper (upper_set (w := w4) (g := w.heap.size + 1 + 1) (i := 5) (.slice (some ⟨g4, 0, none⟩) x.on x.on)))
 have HL4 := hid (fun i (hi : i < x.on) => ((fun i hi => (hz4 i hi).base e3) i hi).upper (upper_set (w := w4) (g := w.heap.size + 1 + 1) (i := 5) (.slice (some ⟨g4, 0, none⟩) x.on x.on)))
 have HM3 := hid ((HM3.out.upper (uB hb4)).upper (upper_set (w := w4) (g := w.heap.size + 1 + 1) (i := 5) (.slice (some ⟨g4, 0, none⟩) x.on x.on)))
 have HW3 := hid ((HW3.out.upper (uB hb4)).upper (upper_set (w := w4) (g := w.heap.size + 1 + 1) (i := 5) (.slice (some ⟨g4, 0, none⟩) x.on x.on)))
 have HL3 := hid (fun i (hi : i < x.gn) => ((fun i hi => (HL3.out i hi).upper (uB hb4)) i hi).upper (upper_set (w := w4) (g := w.heap.size + 1 + 1) (i := 5) (.slice (some ⟨g4, 0, none⟩) x.on x.on)))
 have HM2 := hid ((HM2.out.upper (uB hb4)).upper (upper_set (w := w4) (g := w.heap.size + 1 + 1) (i := 5) (.slice (some ⟨g4, 0, none⟩) x.on x.on)))
 have HW2 := hid ((HW2.out.upper (uB hb4)).upper (upper_set (w := w4) (g := w.heap.size + 1 + 1) (i := 5) (.slice (some ⟨g4, 0, none⟩) x.on x.on)))
 have HL2 := hid (fun i (hi : i < x.bn) => ((fun i hi => (HL2.out i hi).upper (uB hb4)) i hi).upper (upper_set (w := w4) (g := w.heap.size + 1 + 1) (i := 5) (.slice (some ⟨g4, 0, none⟩) x.on x.on)))
 have HM1 := hid ((HM1.out.upper (uB hb4)).upper (upper_set (w := w4) (g := w.heap.size + 1 + 1) (i := 5) (.slice (some ⟨g4, 0, none⟩) x.on x.on)))
 have HW1 := hid ((HW1.out.upper (uB hb4)).upper (upper_set (w := w4) (g := w.heap.size + 1 + 1) (i := 5) (.slice (some ⟨g4, 0, none⟩) x.on x.on)))
 have HL1 := hid (fun i (hi : i < x.sn) => ((fun i hi => (HL1.out i hi).upper (uB hb4)) i hi).upper (upper_set (w := w4) (g := w.heap.size + 1 + 1) (i := 5) (.slice (some ⟨g4, 0, none⟩) x.on x.on)))
 have HE4 := hid he4
 have HTn : Hid (TS w (w4.setCell ⟨w.heap.size + 1 + 1, 5, none⟩ (.slice (some ⟨g4, 0, none⟩) x.on x.on)) x.cl zQl [.bool x.ask, .bool x.dis, .slice (some ⟨g1, 0, none⟩) x.sn x.sn, .slice (some ⟨g2, 0, none⟩) x.bn x.bn, .slice (some ⟨g3, 0, none⟩) x.gn x.gn, .slice (some ⟨g4, 0, none⟩) x.on x.on, .int .i64 0, .int .i64 0]) := HT.out.set 5 _
 have st0 := (HT.out.ox.2 5 _ rfl).1
 have st1 := (HT.out.ox.2 5 _ rfl).2
 clear hy4 hw4 hz4 he4 hb4 e3 Z4 HZ4 ld
 go_upto_region 8 with fail
 clear st0 st1 HT
 generalize (w4.setCell ⟨w.heap.size + 1 + 1, 5, none⟩ (.slice (some ⟨g4, 0, none⟩) x.on x.on)) = W4 at *
 have HT := HTn
 clear HTn
 have ld := HT.out.px.2 6 _ rfl
 have HM4 := hid (HM4.out.upper (upper_set (w := W4) (g := w.heap.size + 1 + 1) (i := 6) (.int .i64 x.lim)))
 have HW4 := hid (HW4.out.upper (upper_set (w := W4) (g := w.heap.size + 1 + 1) (i := 6) (.int .i64 x.lim)))
 have HL4 := hid (fun i (hi : i < x.on) => (HL4.out i hi).upper (upper_set (w := W4) (g := w.heap.size + 1 + 1) (i := 6) (.int .i64 x.lim)))
 have HM3 := hid (HM3.out.upper (upper_set (w := W4) (g := w.heap.size + 1 + 1) (i := 6) (.int .i64 x.lim)))
 have HW3 := hid (HW3.out.upper (upper_set (w := W4) (g := w.heap.size + 1 + 1) (i := 6) (.int .i64 x.lim)))
 have HL3 := hid (fun i (hi : i < x.gn) => (HL3.out i hi).upper (upper_set (w := W4) (g := w.heap.size + 1 + 1) (i := 6) (.int .i64 x.lim)))
 have HM2 := hid (HM2.out.upper (upper_set (w := W4) (g := w.heap.size + 1 + 1) (i := 6) (.int .i64 x.lim)))
 have HW2 := hid (HW2.out.upper (upper_set (w := W4) (g := w.heap.size + 1 + 1) (i := 6) (.int .i64 x.lim)))
 have HL2 := hid (fun i (hi : i < x.bn) => (HL2.out i hi).upper (upper_set (w := W4) (g := w.heap.size + 1 + 1) (i := 6) (.int .i64 x.lim)))
 have HM1 := hid (HM1.out.upper (upper_set (w := W4) (g := w.heap.size + 1 + 1) (i := 6) (.int .i64 x.lim)))
 have HW1 := hid (HW1.out.upper (upper_set (w := W4) (g := w.heap.size + 1 + 1) (i := 6) (.int .i64 x.lim)))
 have HL1 := hid (fun i (hi : i < x.sn) => (HL1.out i hi).upper (upper_set (w := W4) (g := w.heap.size + 1 + 1) (i := 6) (.int .i64 x.lim)))
 have HTn : Hid (TS w (W4.setCell ⟨w.heap.size + 1 + 1, 6, none⟩ (.int .i64 x.lim)) x.cl zQl [.bool x.ask, .bool x.dis, .slice (some ⟨g1, 0, none⟩) x.sn x.sn, .slice (some ⟨g2, 0, none⟩) x.bn x.bn, .slice (some ⟨g3, 0, none⟩) x.gn x.gn, .slice (some ⟨g4, 0, none⟩) x.on x.on, .int .i64 x.lim, .int .i64 0]) := HT.out.set 6 _
 have st0 := (HT.out.ox.2 6 _ rfl).1
 have st1 := (HT.out.ox.2 6 _ rfl).2
 go_upto_region 9 with fail
 clear st0 st1 HT ld
 generalize (W4.setCell ⟨w.heap.size + 1 + 1, 6, none⟩ (.int .i64 x.lim)) = W5 at *
 have HT := HTn
 clear HTn
 have ld := HT.out.px.2 7 _ rfl
 have HM4 := hid (HM4.out.upper (upper_set (w := W5) (g := w.heap.size + 1 + 1) (i := 7) (.int .i64 x.off)))
 have HW4 := hid (HW4.out.upper (upper_set (w := W5) (g := w.heap.size + 1 + 1) (i := 7) (.int .i64 x.off)))
 have HL4 := hid (fun i (hi : i < x.on) => (HL4.out i hi).upper (upper_set (w := W5) (g := w.heap.size + 1 + 1) (i := 7) (.int .i64 x.off)))
 have HM3 := hid (HM3.out.upper (upper_set (w := W5) (g := w.heap.size + 1 + 1) (i := 7) (.int .i64 x.off)))
 have HW3 := hid (HW3.out.upper (upper_set (w := W5) (g := w.heap.size + 1 + 1) (i := 7) (.int .i64 x.off)))
 have HL3 := hid (fun i (hi : i < x.gn) => (HL3.out i hi).upper (upper_set (w := W5) (g := w.heap.size + 1 + 1) (i := 7) (.int .i64 x.off)))
 have HM2 := hid (HM2.out.upper (upper_set (w := W5) (g := w.heap.size + 1 + 1) (i := 7) (.int .i64 x.off)))
 have HW2 := hid (HW2.out.upper (upper_set (w := W5) (g := w.heap.size + 1 + 1) (i := 7) (.int .i64 x.off)))
 have HL2 := hid (fun i (hi : i < x.bn) => (HL2.out i hi).upper (upper_set (w := W5) (g := w.heap.size + 1 + 1) (i := 7) (.int .i64 x.off)))
 have HM1 := hid (HM1.out.upper (upper_set (w := W5) (g := w.heap.size + 1 + 1) (i := 7) (.int .i64 x.off)))
 have HW1 := hid (HW1.out.upper (upper_set (w := W5) (g := w.heap.size + 1 + 1) (i := 7) (.int .i64 x.off)))
 have HL1 := hid (fun i (hi : i < x.sn) => (HL1.out i hi).upper (upper_set (w := W5) (g := w.heap.size + 1 + 1) (i := 7) (.int .i64 x.off)))
 have HTn : Hid (TS w (W5.setCell ⟨w.heap.size + 1 + 1, 7, none⟩ (.int .i64 x.off)) x.cl zQl [.bool x.ask, .bool x.dis, .slice (some ⟨g1, 0, none⟩) x.sn x.sn, .slice (some ⟨g2, 0, none⟩) x.bn x.bn, .slice (some ⟨g3, 0, none⟩) x.gn x.gn, .slice (some ⟨g4, 0, none⟩) x.on x.on, .int .i64 x.lim, .int .i64 x.off]) := HT.out.set 7 _
 have st0 := (HT.out.ox.2 7 _ rfl).1
 have st1 := (HT.out.ox.2 7 _ rfl).2
 go_upto_region 10 with fail
 clear st0 st1 HT ld
 generalize (W5.setCell ⟨w.heap.size + 1 + 1, 7, none⟩ (.int .i64 x.off)) = W6 at *
 have HT := HTn
 clear HTn
 have ld : W6.rangeAt (w.heap.size + 1 + 1) 0 [.bool x.ask, .bool x.dis, .slice (some ⟨g1, 0, none⟩) x.sn x.sn, .slice (some ⟨g2, 0, none⟩) x.bn x.bn, .slice (some ⟨g3, 0, none⟩) x.gn x.gn, .slice (some ⟨g4, 0, none⟩) x.on x.on, .int .i64 x.lim, .int .i64 x.off] := HT.out.ox.box.range 0 _ rfl
 have st0 := HT.out.rz.there 0 8 (by simp)
 have one1 := all_oneCell_toArray (cs := [.bool x.ask, .bool x.dis, .slice (some ⟨g1, 0, none⟩) x.sn x.sn, .slice (some ⟨g2, 0, none⟩) x.bn x.bn, .slice (some ⟨g3, 0, none⟩) x.gn x.gn, .slice (some ⟨g4, 0, none⟩) x.on x.on, .int .i64 x.lim, .int .i64 x.off]) (by simp [Value.oneCell'])
 go_wp2_with (first | (refine wpList_load_mid rfl 34 _ rfl (w.heap.size + 1 + 1) 0 rfl [.bool x.ask, .bool x.dis, .slice (some ⟨g1, 0, none⟩) x.sn x.sn, .slice (some ⟨g2, 0, none⟩) x.bn x.bn, .slice (some ⟨g3, 0, none⟩) x.gn x.gn, .slice (some ⟨g4, 0, none⟩) x.on x.on, .int .i64 x.lim, .int .i64 x.off] _ ld Tryz.underlying34 rfl (by kernel_rfl) ?_; try simp only [Act.put, sA, zA, cA]) | (refine wpList_store_mid rfl 34 _ _ rfl (w.heap.size + 1) 0 #[.bool x.ask, .bool x.dis, .slice (some ⟨g1, 0, none⟩) x.sn x.sn, .slice (some ⟨g2, 0, none⟩) x.bn x.bn, .slice (some ⟨g3, 0, none⟩) x.gn x.gn, .slice (some ⟨g4, 0, none⟩) x.on x.on, .int .i64 x.lim, .int .i64 x.off] rfl rfl st0 (by kernel_rfl) one1 ?_; try simp only [Act.put]))
 have hrd : (W6.setCells (w.heap.size + 1) 0 [.bool x.ask, .bool x.dis, .slice (some ⟨g1, 0, none⟩) x.sn x.sn, .slice (some ⟨g2, 0, none⟩) x.bn x.bn, .slice (some ⟨g3, 0, none⟩) x.gn x.gn, .slice (some ⟨g4, 0, none⟩) x.on x.on, .int .i64 x.lim, .int .i64 x.off]).rangeAt (w.heap.size + 1) 0 [.bool x.ask, .bool x.dis, .slice (some ⟨g1, 0, none⟩) x.sn x.sn, .slice (some ⟨g2, 0, none⟩) x.bn x.bn, .slice (some ⟨g3, 0, none⟩) x.gn x.gn, .slice (some ⟨g4, 0, none⟩) x.on x.on, .int .i64 x.lim, .int .i64 x.off] := World.rangeAt_setCells_same _ _ _ _ st0
 refine bodyPost_ret (v := .agg #[.bool x.ask, .bool x.dis, .slice (some ⟨g1, 0, none⟩) x.sn x.sn, .slice (some ⟨g2, 0, none⟩) x.bn x.bn, .slice (some ⟨g3, 0, none⟩) x.gn x.gn, .slice (some ⟨g4, 0, none⟩) x.on x.on, .int .i64 x.lim, .int .i64 x.off]) ?hr rfl ?hp
 case hr => exact results_cell rfl rfl (run_loadVar_mid (P := Tryz.prog) _ (w.heap.size + 1) 0 34 [.bool x.ask, .bool x.dis, .slice (some ⟨g1, 0, none⟩) x.sn x.sn, .slice (some ⟨g2, 0, none⟩) x.bn x.bn, .slice (some ⟨g3, 0, none⟩) x.gn x.gn, .slice (some ⟨g4, 0, none⟩) x.on x.on, .int .i64 x.lim, .int .i64 x.off] _ hrd Tryz.underlying34 rfl (by kernel_rfl))
 have HM4f : KRow w.heap.size (W6.setCells (w.heap.size + 1) 0 [.bool x.ask, .bool x.dis, .slice (some ⟨g1, 0, none⟩) x.sn x.sn, .slice (some ⟨g2, 0, none⟩) x.bn x.bn, .slice (some ⟨g3, 0, none⟩) x.gn x.gn, .slice (some ⟨g4, 0, none⟩) x.on x.on, .int .i64 x.lim, .int .i64 x.off]) 2 (some ⟨g4, 0, none⟩) x.on (fun i => (k4 i).cells) := ((HM4.out.upper ((upper_sets _ _ 0 W6).mono (by omega))).base (by omega))
 have HW4f : FrW w.heap.size (W6.setCells (w.heap.size + 1) 0 [.bool x.ask, .bool x.dis, .slice (some ⟨g1, 0, none⟩) x.sn x.sn, .slice (some ⟨g2, 0, none⟩) x.bn x.bn, .slice (some ⟨g3, 0, none⟩) x.gn x.gn, .slice (some ⟨g4, 0, none⟩) x.on x.on, .int .i64 x.lim, .int .i64 x.off]) g4 (x.on * 2) := ((HW4.out.upper ((upper_sets _ _ 0 W6).mono (by omega))).base (by omega))
 have HL4f : ∀ i, i < x.on → (k4 i).own w.heap.size (W6.setCells (w.heap.size + 1) 0 [.bool x.ask, .bool x.dis, .slice (some ⟨g1, 0, none⟩) x.sn x.sn, .slice (some ⟨g2, 0, none⟩) x.bn x.bn, .slice (some ⟨g3, 0, none⟩) x.gn x.gn, .slice (some ⟨g4, 0, none⟩) x.on x.on, .int .i64 x.lim, .int .i64 x.off]) := (fun i hi => ((fun i hi => (HL4.out i hi).upper ((upper_sets _ _ 0 W6).mono (by omega))) i hi).base (by omega))
 have HM3f : KRow w.heap.size (W6.setCells (w.heap.size + 1) 0 [.bool x.ask, .bool x.dis, .slice (some ⟨g1, 0, none⟩) x.sn x.sn, .slice (some ⟨g2, 0, none⟩) x.bn x.bn, .slice (some ⟨g3, 0, none⟩) x.gn x.gn, .slice (some ⟨g4, 0, none⟩) x.on x.on, .int .i64 x.lim, .int .i64 x.off]) 1 (some ⟨g3, 0, none⟩) x.gn (fun i => (k3 i).cells) := ((HM3.out.upper ((upper_sets _ _ 0 W6).mono (by omega))).base (by omega))
 have HW3f : FrW w.heap.size (W6.setCells (w.heap.size + 1) 0 [.bool x.ask, .bool x.dis, .slice (some ⟨g1, 0, none⟩) x.sn x.sn, .slice (some ⟨g2, 0, none⟩) x.bn x.bn, .slice (some ⟨g3, 0, none⟩) x.gn x.gn, .slice (some ⟨g4, 0, none⟩) x.on x.on, .int .i64 x.lim, .int .i64 x.off]) g3 x.gn := ((HW3.out.upper ((upper_sets _ _ 0 W6).mono (by omega))).base (by omega))
 have HL3f : ∀ i, i < x.gn → (k3 i).own w.heap.size (W6.setCells (w.heap.size + 1) 0 [.bool x.ask, .bool x.dis, .slice (some ⟨g1, 0, none⟩) x.sn x.sn, .slice (some ⟨g2, 0, none⟩) x.bn x.bn, .slice (some ⟨g3, 0, none⟩) x.gn x.gn, .slice (some ⟨g4, 0, none⟩) x.on x.on, .int .i64 x.lim, .int .i64 x.off]) := (fun i hi => ((fun i hi => (HL3.out i hi).upper ((upper_sets _ _ 0 W6).mono (by omega))) i hi).base (by omega))
 have HM2f : KRow w.heap.size (W6.setCells (w.heap.size + 1) 0 [.bool x.ask, .bool x.dis, .slice (some ⟨g1, 0, none⟩) x.sn x.sn, .slice (some ⟨g2, 0, none⟩) x.bn x.bn, .slice (some ⟨g3, 0, none⟩) x.gn x.gn, .slice (some ⟨g4, 0, none⟩) x.on x.on, .int .i64 x.lim, .int .i64 x.off]) 28 (some ⟨g2, 0, none⟩) x.bn (fun i => (k2 i).d.cells) := ((HM2.out.upper ((upper_sets _ _ 0 W6).mono (by omega))).base (by omega))
 have HW2f : FrW w.heap.size (W6.setCells (w.heap.size + 1) 0 [.bool x.ask, .bool x.dis, .slice (some ⟨g1, 0, none⟩) x.sn x.sn, .slice (some ⟨g2, 0, none⟩) x.bn x.bn, .slice (some ⟨g3, 0, none⟩) x.gn x.gn, .slice (some ⟨g4, 0, none⟩) x.on x.on, .int .i64 x.lim, .int .i64 x.off]) g2 (x.bn * 28) := ((HW2.out.upper ((upper_sets _ _ 0 W6).mono (by omega))).base (by omega))
 have HL2f : ∀ i, i < x.bn → (k2 i).own w.heap.size (W6.setCells (w.heap.size + 1) 0 [.bool x.ask, .bool x.dis, .slice (some ⟨g1, 0, none⟩) x.sn x.sn, .slice (some ⟨g2, 0, none⟩) x.bn x.bn, .slice (some ⟨g3, 0, none⟩) x.gn x.gn, .slice (some ⟨g4, 0, none⟩) x.on x.on, .int .i64 x.lim, .int .i64 x.off]) := (fun i hi => ((fun i hi => (HL2.out i hi).upper ((upper_sets _ _ 0 W6).mono (by omega))) i hi).base (by omega))
 have HM1f : KRow w.heap.size (W6.setCells (w.heap.size + 1) 0 [.bool x.ask, .bool x.dis, .slice (some ⟨g1, 0, none⟩) x.sn x.sn, .slice (some ⟨g2, 0, none⟩) x.bn x.bn, .slice (some ⟨g3, 0, none⟩) x.gn x.gn, .slice (some ⟨g4, 0, none⟩) x.on x.on, .int .i64 x.lim, .int .i64 x.off]) 3 (some ⟨g1, 0, none⟩) x.sn (fun i => (k1 i).cells) := ((HM1.out.upper ((upper_sets _ _ 0 W6).mono (by omega))).base (by omega))
 have HW1f : FrW w.heap.size (W6.setCells (w.heap.size + 1) 0 [.bool x.ask, .bool x.dis, .slice (some ⟨g1, 0, none⟩) x.sn x.sn, .slice (some ⟨g2, 0, none⟩) x.bn x.bn, .slice (some ⟨g3, 0, none⟩) x.gn x.gn, .slice (some ⟨g4, 0, none⟩) x.on x.on, .int .i64 x.lim, .int .i64 x.off]) g1 (x.sn * 3) := ((HW1.out.upper ((upper_sets _ _ 0 W6).mono (by omega))).base (by omega))
 have HL1f : ∀ i, i < x.sn → (k1 i).own w.heap.size (W6.setCells (w.heap.size + 1) 0 [.bool x.ask, .bool x.dis, .slice (some ⟨g1, 0, none⟩) x.sn x.sn, .slice (some ⟨g2, 0, none⟩) x.bn x.bn, .slice (some ⟨g3, 0, none⟩) x.gn x.gn, .slice (some ⟨g4, 0, none⟩) x.on x.on, .int .i64 x.lim, .int .i64 x.off]) := (fun i hi => ((fun i hi => (HL1.out i hi).upper ((upper_sets _ _ 0 W6).mono (by omega))) i hi).base (by omega))
 have hbf : Bl w (W6.setCells (w.heap.size + 1) 0 [.bool x.ask, .bool x.dis, .slice (some ⟨g1, 0, none⟩) x.sn x.sn, .slice (some ⟨g2, 0, none⟩) x.bn x.bn, .slice (some ⟨g3, 0, none⟩) x.gn x.gn, .slice (some ⟨g4, 0, none⟩) x.on x.on, .int .i64 x.lim, .int .i64 x.off]) := below_sets _ (by omega) _ _ _ HT.out.bl
 exact ⟨⟨x.ask, x.dis, some _, x.sn, x.sn, k1, some _, x.bn, x.bn, k2, some _, x.gn, x.gn, k3, some _, x.on, x.on, k4, x.lim, x.off⟩, rfl, ⟨⟨⟨HM1f, fun i hi => (HL1f i hi).1, HN1.out⟩, ⟨HM2f, fun i hi => (HL2f i hi).1, HN2.out⟩, ⟨HM3f, fun i hi => (HL3f i hi).1, HN3.out⟩, ⟨HM4f, fun i hi => (HL4f i hi).1, HN4.out⟩⟩, ⟨⟨g1, rfl, HW1f⟩, HL1f⟩, ⟨⟨g2, rfl, HW2f⟩, HL2f⟩, ⟨⟨g3, rfl, HW3f⟩, HL3f⟩, ⟨Nat.le_refl _, Nat.le_refl _⟩, ⟨⟨g4, rfl, HW4f⟩, HL4f⟩⟩, ⟨rfl, rfl, ⟨rfl, HE1.out⟩, ⟨rfl, HE2.out⟩, ⟨rfl, HE3.out⟩, ⟨rfl, HE4.out⟩, rfl, rfl⟩, hbf⟩
/- TbC -/
theorem eqByteSS_of (a a' : Option Addr) (cap cap' n : Nat) (x y : Nat → SL) (w : World) (hn : n ≤ 1048576) (hR : KRow 0 w 1 a n (fun i => (x i).cells)) (hR' : KRow 0 w 1 a' n (fun i => (y i).cells))
   (IH : ∀ i, i < n → ∀ (W : World), Bl w W → Calls Tryz.prog 19 #[.slice (x i).a (x i).len (x i).cap, .slice (y i).a (y i).len (y i).cap] W (Yes W)) :
   Calls Tryz.prog 10 #[.slice a n cap, .slice a' n cap'] w (Yes w) := by
 by_cases hn0 : n = 0
 · subst hn0
   clear hR hR' IH hn
   go_in
   go_wp2
   refine wp_loop_rounds 1 ?_
   rw [rounds_succ]
   go_wp2
   go_ret
   exact ⟨rfl, Below.refl _ _⟩
 obtain ⟨b, off, rfl, _, hlt, hc⟩ := hR.resolve_left hn0
 obtain ⟨b', off', rfl, _, hlt', hc'⟩ := hR'.resolve_left hn0
 have HC := hid (fun i (hi : i < n) c u (hu : ((x i).cells)[c]? = some u) => (by have h := hc i hi c u hu; rwa [Nat.mul_one] at h))
 have HC' : Hid (∀ i, i < n → ∀ c u, ((y i).cells)[c]? = some u → w.cell? ⟨b', off' + i + c, none⟩ = some u) := fun i hi c u hu => (by have h := hc' i hi c u hu; rwa [Nat.mul_one] at h)
 have HI := hid IH
 clear hR hR' hc hc' IH
 go_in
 go_wp2
 go_loopw [5] (fun i wr => ∃ k : Nat, k ≤ n ∧ i = .int .i64 k ∧ Hid (Bl w wr)) (fun i _ => n - (intOf i).toNat)
 case atStart => exact ⟨0, Nat.zero_le _, rfl, Below.refl _ _⟩
 obtain ⟨k, hk, rfl, HB⟩ := hrel
 by_cases hlk : k < n
 · have hlkz : (k : Int) < (n : Int) := by omega
   have HRX : Hid (∀ w', Bl wr w' → w'.rangeAt b (off + k) [.slice (x k).a (x k).len (x k).cap]) := fun w' hw c u hu => ((bl_trans HB.out hw).cell (p := ⟨b, off + k + c, none⟩) hlt).trans (HC.out k hlk c u hu)
   have HRY : Hid (∀ w', Bl wr w' → w'.rangeAt b' (off' + k) [.slice (y k).a (y k).len (y k).cap]) := fun w' hw c u hu => ((bl_trans HB.out hw).cell (p := ⟨b', off' + k + c, none⟩) hlt').trans (HC'.out k hlk c u hu)
   have Z := HI.out k hlk wr.drew (bl_trans HB.out bdr)
   go_wp2_with fail
   refine wp_region_held_drew (S := fun w' => Bl wr w') (by kernel_rfl) ?_ (fun hHeld => ?_)
   · exact Below.drew (Below.refl _ _)
   refine tkB 0 17 ?_
   refine tkB 1 18 ?_
   refine tkB 2 19 ?_
   refine takeq (i := 3) 20 (v := .slice _ (x k).len (x k).cap) rfl rfl (by kernel_rfl) (by kernel_rfl) (by kernel_rfl) (fun _ _ _ h => h) (Or.inl ⟨by rfl, fun w' hSw => (by have h0 := HRX.out w' hSw 0 _ rfl; simp only [Nat.add_zero] at h0; go_simp; (try with_reducible rfl))⟩) hHeld ?_
   refine tkB 4 21 ?_
   refine tkB 5 22 ?_
   refine tkB 6 23 ?_
   refine takeq (i := 7) 24 (v := .slice _ (y k).len (y k).cap) rfl rfl (by kernel_rfl) (by kernel_rfl) (by kernel_rfl) (fun _ _ _ h => h) (Or.inl ⟨by rfl, fun w' hSw => (by have h0 := HRY.out w' hSw 0 _ rfl; simp only [Nat.add_zero] at h0; go_simp; (try with_reducible rfl))⟩) hHeld ?_
   try simp only [Act.put, sA, zA, cA]
   refine rdA 8 fun K hK => ?_
   go_simp
   refine Z.mono ?_
   rintro e w2 ⟨rfl, hb2⟩
   have HB2 : Hid (Bl wr w2) := bdr.trans hb2
   clear hb2
   go_wp2_with fail
   refine hK.out _ _ ?_ (fun hHeld => ?_)
   · exact HB2.out
   clear hK K
   refine tkB 9 26 ?_
   refine wpAnyH_done (by kernel_rfl) ?_ _
   have HBq := hid (bl_trans HB.out HB2.out)
   clear hHeld HRX HRY Z HB HB2
   go_wp2_with fail
   go_roundw
   case rel => exact ⟨k + 1, by omega, by go_num, HBq⟩
   case measure => simp [intOf]; omega
 obtain rfl : k = n := by omega
 have hlkz : ¬ (k : Int) < (k : Int) := by omega
 go_wp2_with fail
 go_ret
 exact ⟨rfl, HB.out⟩
end Go.Proofs.YthljoojcpbignaaGreatDoor
