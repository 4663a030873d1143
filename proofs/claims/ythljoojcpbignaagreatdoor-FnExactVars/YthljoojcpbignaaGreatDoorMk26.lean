import Derived.Test.YthljoojcpbignaaGreatDoorMk25
import Derived.Test.YthljoojcpbignaaGreatDoorMk24
namespace Go.Proofs.YthljoojcpbignaaGreatDoor
open Go.RowKit Go.Deep
set_option maxHeartbeats 40000000
set_option maxRecDepth 100000
theorem toQueryW (x : QY) (w : World) (h : x.lies 0 w) : Calls Tryz.prog 8 #[.agg x.ar] w fun e w' => ∃ y : QY, e = .returned (.agg y.ar) ∧ y.own w.heap.size w' ∧ x.same y ∧ Bl w w' := by
 have HZ1 : Hd (∀ (W : World), Bl w W → Cl 28 #[.slice x.sa x.sn x.sc] W fun e w' => ∃ (g : Nat) (k' : Nat → SE), e = .returned (.slice (some ⟨g, 0, none⟩) x.sn x.sn) ∧ KRow W.heap.size w' 3 (some ⟨g, 0, none⟩) x.sn (fun i => (k' i).cells) ∧ FrW W.heap.size w' g (x.sn * 3) ∧ (∀ i, i < x.sn → (k' i).own W.heap.size w') ∧ (∀ i, i < x.sn → (x.sel i).same (k' i)) ∧ Bl W w') := fun W hb => toSelSW _ _ _ _ W h.s.2.2 (h.s.1.upper (uB hb)) fun i hi W' hW => toSelW _ W' ((h.s.2.1 i hi).upper (uB (bl_trans hb hW)))
 have HZ2 : Hd (∀ (W : World), Bl w W → Cl 29 #[.slice x.ba x.bn x.bc] W fun e w' => ∃ (g : Nat) (k' : Nat → UT), e = .returned (.slice (some ⟨g, 0, none⟩) x.bn x.bn) ∧ KRow W.heap.size w' 28 (some ⟨g, 0, none⟩) x.bn (fun i => (k' i).d.cells) ∧ FrW W.heap.size w' g (x.bn * 28) ∧ (∀ i, i < x.bn → (k' i).own W.heap.size w') ∧ (∀ i, i < x.bn → (x.body i).same (k' i)) ∧ Bl W w') := fun W hb => toElemSW _ _ _ _ W h.b.2.2 (h.b.1.upper (uB hb)) fun i hi W' hW => toElemW _ W' ((h.b.2.1 i hi).upper (uB (bl_trans hb hW)))
 have HZ3 : Hd (∀ (W : World), Bl w W → Cl 30 #[.slice x.ga x.gn x.gc] W fun e w' => ∃ (g : Nat) (k' : Nat → SL), e = .returned (.slice (some ⟨g, 0, none⟩) x.gn x.gn) ∧ KRow W.heap.size w' 1 (some ⟨g, 0, none⟩) x.gn (fun i => (k' i).cells) ∧ FrW W.heap.size w' g (x.gn) ∧ (∀ i, i < x.gn → (k' i).own W.heap.size w') ∧ (∀ i, i < x.gn → (x.grp i).same (k' i)) ∧ Bl W w') := fun W hb => toByteSS_of _ _ _ _ W h.g.2.2 (h.g.1.upper (uB hb)) fun i hi W' hW => toByteSW _ W' (BsF.upper (h.g.2.1 i hi) (uB (bl_trans hb hW)))
 have HZ4 : Hd (∀ (W : World), Bl w W → Cl 31 #[.slice x.oa x.on x.oc] W fun e w' => ∃ (g : Nat) (k' : Nat → KY), e = .returned (.slice (some ⟨g, 0, none⟩) x.on x.on) ∧ KRow W.heap.size w' 2 (some ⟨g, 0, none⟩) x.on (fun i => (k' i).cells) ∧ FrW W.heap.size w' g (x.on * 2) ∧ (∀ i, i < x.on → (k' i).own W.heap.size w') ∧ (∀ i, i < x.on → (x.key i).same (k' i)) ∧ Bl W w') := fun W hb => toKeySW _ _ _ _ W h.o.2.2 (h.o.1.upper (uB hb)) fun i hi W' hW => toKeyW _ W' ((h.o.2.1 i hi).upper (uB (bl_trans hb hW)))
 have HN1 := iH h.s.2.2
 have HN2 := iH h.b.2.2
 have HN3 := iH h.g.2.2
 have HN4 := iH h.o.2.2
 clear h
 go_in
 have Z1 := HZ1.o
 go_wp2_with fail
 refine (Z1 _ (bl_alloc (bl_alloc (bl_a _) _) _)).mono ?_
 rintro e w1 ⟨g1, k1, rfl, hy1, hw1, hz1, he1, hb1⟩
 have HT := iH ((TS.new w _ _ _ 27 34 34).below hb1)
 have e3 : (w.heap.size + 1 + 1 + 1) ≤ (((w.alloc (.cells x.ar 27)).alloc (.cells zQa 34)).alloc (.cells #[.bool x.ask, .bool x.dis, .slice none 0 0, .slice none 0 0, .slice none 0 0, .slice none 0 0, .int .i64 0, .int .i64 0] 34)).heap.size := by simp
 have HM1 := iH ((hy1.base e3).upper (upper_set (w := w1) (g := w.heap.size + 1 + 1) (i := 2) (.slice (some ⟨g1, 0, none⟩) x.sn x.sn)))
 have HW1 := iH ((hw1.base e3).upper (upper_set (w := w1) (g := w.heap.size + 1 + 1) (i := 2) (.slice (some ⟨g1, 0, none⟩) x.sn x.sn)))
 have HL1 := iH (fun i (hi : i < x.sn) => ((fun i hi => (hz1 i hi).base e3) i hi).upper (upper_set (w := w1) (g := w.heap.size + 1 + 1) (i := 2) (.slice (some ⟨g1, 0, none⟩) x.sn x.sn)))
 have HE1 := iH he1
 have HTn : Hd (TS w (w1.setCell ⟨w.heap.size + 1 + 1, 2, none⟩ (.slice (some ⟨g1, 0, none⟩) x.sn x.sn)) x.cl zQl [.bool x.ask, .bool x.dis, .slice (some ⟨g1, 0, none⟩) x.sn x.sn, .slice none 0 0, .slice none 0 0, .slice none 0 0, .int .i64 0, .int .i64 0]) := HT.o.set 2 _
 have st0 := (HT.o.ox.2 2 _ rfl).1
 have st1 := (HT.o.ox.2 2 _ rfl).2
 clear hy1 hw1 hz1 he1 hb1 e3 Z1 HZ1
 go_upto_region 5 with fail
 clear st0 st1 HT
 generalize (w1.setCell ⟨w.heap.size + 1 + 1, 2, none⟩ (.slice (some ⟨g1, 0, none⟩) x.sn x.sn)) = W1 at *
 have HT := HTn
 clear HTn
 have ld := HT.o.px.2 3 _ rfl
 have Z2 := HZ2.o
 go_wp2_with fail
 refine (Z2 _ HT.o.bl).mono ?_
 rintro e w2 ⟨g2, k2, rfl, hy2, hw2, hz2, he2, hb2⟩
 have e3 := HT.o.base
 have HT := iH (HT.o.below hb2)
 have HM2 := iH ((hy2.base e3).upper (upper_set (w := w2) (g := w.heap.size + 1 + 1) (i := 3) (.slice (some ⟨g2, 0, none⟩) x.bn x.bn)))
 have HW2 := iH ((hw2.base e3).upper (upper_set (w := w2) (g := w.heap.size + 1 + 1) (i := 3) (.slice (some ⟨g2, 0, none⟩) x.bn x.bn)))
 have HL2 := iH (fun i (hi : i < x.bn) => ((fun i hi => (hz2 i hi).base e3) i hi).upper (upper_set (w := w2) (g := w.heap.size + 1 + 1) (i := 3) (.slice (some ⟨g2, 0, none⟩) x.bn x.bn)))
 have HM1 := iH ((HM1.o.upper (uB hb2)).upper (upper_set (w := w2) (g := w.heap.size + 1 + 1) (i := 3) (.slice (some ⟨g2, 0, none⟩) x.bn x.bn)))
 have HW1 := iH ((HW1.o.upper (uB hb2)).upper (upper_set (w := w2) (g := w.heap.size + 1 + 1) (i := 3) (.slice (some ⟨g2, 0, none⟩) x.bn x.bn)))
 have HL1 := iH (fun i (hi : i < x.sn) => ((fun i hi => (HL1.o i hi).upper (uB hb2)) i hi).upper (upper_set (w := w2) (g := w.heap.size + 1 + 1) (i := 3) (.slice (some ⟨g2, 0, none⟩) x.bn x.bn)))
 have HE2 := iH he2
 have HTn : Hd (TS w (w2.setCell ⟨w.heap.size + 1 + 1, 3, none⟩ (.slice (some ⟨g2, 0, none⟩) x.bn x.bn)) x.cl zQl [.bool x.ask, .bool x.dis, .slice (some ⟨g1, 0, none⟩) x.sn x.sn, .slice (some ⟨g2, 0, none⟩) x.bn x.bn, .slice none 0 0, .slice none 0 0, .int .i64 0, .int .i64 0]) := HT.o.set 3 _
 have st0 := (HT.o.ox.2 3 _ rfl).1
 have st1 := (HT.o.ox.2 3 _ rfl).2
 clear hy2 hw2 hz2 he2 hb2 e3 Z2 HZ2 ld
 go_upto_region 6 with fail
 clear st0 st1 HT
 generalize (w2.setCell ⟨w.heap.size + 1 + 1, 3, none⟩ (.slice (some ⟨g2, 0, none⟩) x.bn x.bn)) = W2 at *
 have HT := HTn
 clear HTn
 have ld := HT.o.px.2 4 _ rfl
 have Z3 := HZ3.o
 go_wp2_with fail
 refine (Z3 _ HT.o.bl).mono ?_
 rintro e w3 ⟨g3, k3, rfl, hy3, hw3, hz3, he3, hb3⟩
 have e3 := HT.o.base
 have HT := iH (HT.o.below hb3)
 have HM3 := iH ((hy3.base e3).upper (upper_set (w := w3) (g := w.heap.size + 1 + 1) (i := 4) (.slice (some ⟨g3, 0, none⟩) x.gn x.gn)))
 have HW3 := iH ((hw3.base e3).upper (upper_set (w := w3) (g := w.heap.size + 1 + 1) (i := 4) (.slice (some ⟨g3, 0, none⟩) x.gn x.gn)))
 have HL3 := iH (fun i (hi : i < x.gn) => ((fun i hi => (hz3 i hi).base e3) i hi).upper (upper_set (w := w3) (g := w.heap.size + 1 + 1) (i := 4) (.slice (some ⟨g3, 0, none⟩) x.gn x.gn)))
 have HM2 := iH ((HM2.o.upper (uB hb3)).upper (upper_set (w := w3) (g := w.heap.size + 1 + 1) (i := 4) (.slice (some ⟨g3, 0, none⟩) x.gn x.gn)))
 have HW2 := iH ((HW2.o.upper (uB hb3)).upper (upper_set (w := w3) (g := w.heap.size + 1 + 1) (i := 4) (.slice (some ⟨g3, 0, none⟩) x.gn x.gn)))
 have HL2 := iH (fun i (hi : i < x.bn) => ((fun i hi => (HL2.o i hi).upper (uB hb3)) i hi).upper (upper_set (w := w3) (g := w.heap.size + 1 + 1) (i := 4) (.slice (some ⟨g3, 0, none⟩) x.gn x.gn)))
 have HM1 := iH ((HM1.o.upper (uB hb3)).upper (upper_set (w := w3) (g := w.heap.size + 1 + 1) (i := 4) (.slice (some ⟨g3, 0, none⟩) x.gn x.gn)))
 have HW1 := iH ((HW1.o.upper (uB hb3)).upper (upper_set (w := w3) (g := w.heap.size + 1 + 1) (i := 4) (.slice (some ⟨g3, 0, none⟩) x.gn x.gn)))
 have HL1 := iH (fun i (hi : i < x.sn) => ((fun i hi => (HL1.o i hi).upper (uB hb3)) i hi).upper (upper_set (w := w3) (g := w.heap.size + 1 + 1) (i := 4) (.slice (some ⟨g3, 0, none⟩) x.gn x.gn)))
 have HE3 := iH he3
 have HTn : Hd (TS w (w3.setCell ⟨w.heap.size + 1 + 1, 4, none⟩ (.slice (some ⟨g3, 0, none⟩) x.gn x.gn)) x.cl zQl [.bool x.ask, .bool x.dis, .slice (some ⟨g1, 0, none⟩) x.sn x.sn, .slice (some ⟨g2, 0, none⟩) x.bn x.bn, .slice (some ⟨g3, 0, none⟩) x.gn x.gn, .slice none 0 0, .int .i64 0, .int .i64 0]) := HT.o.set 4 _
 have st0 := (HT.o.ox.2 4 _ rfl).1
 have st1 := (HT.o.ox.2 4 _ rfl).2
 clear hy3 hw3 hz3 he3 hb3 e3 Z3 HZ3 ld
 go_upto_region 7 with fail
 clear st0 st1 HT
 generalize (w3.setCell ⟨w.heap.size + 1 + 1, 4, none⟩ (.slice (some ⟨g3, 0, none⟩) x.gn x.gn)) = W3 at *
 have HT := HTn
 clear HTn
 have ld := HT.o.px.2 5 _ rfl
 have Z4 := HZ4.o
 go_wp2_with fail
 refine (Z4 _ HT.o.bl).mono ?_
 rintro e w4 ⟨g4, k4, rfl, hy4, hw4, hz4, he4, hb4⟩
 have e3 := HT.o.base
 have HT := iH (HT.o.below hb4)
 have HM4 := iH ((hy4.base e3).upper (upper_set (w := w4) (g := w.heap.size + 1 + 1) (i := 5) (.slice (some ⟨g4, 0, none⟩) x.on x.on)))
 have HW4 := iH ((hw4.base e3).upper (upper_set (w := w4) (g := w.heap.size + 1 + 1) (i := 5) (.slice (some ⟨g4, 0, none⟩) x.on x.on)))
 have HL4 := iH (fun i (hi : i < x.on) => ((fun i hi => (hz4 i hi).base e3) i hi).upper (upper_set (w := w4) (g := w.heap.size + 1 + 1) (i := 5) (.slice (some ⟨g4, 0, none⟩) x.on x.on)))
 have HM3 := iH ((HM3.o.upper (uB hb4)).upper (upper_set (w := w4) (g := w.heap.size + 1 + 1) (i := 5) (.slice (some ⟨g4, 0, none⟩) x.on x.on)))
 have HW3 := iH ((HW3.o.upper (uB hb4)).upper (upper_set (w := w4) (g := w.heap.size + 1 + 1) (i := 5) (.slice (some ⟨g4, 0, none⟩) x.on x.on)))
 have HL3 := iH (fun i (hi : i < x.gn) => ((fun i hi => (HL3.o i hi).upper (uB hb4)) i hi).upper (upper_set (w := w4) (g := w.heap.size + 1 + 1) (i := 5) (.slice (some ⟨g4, 0, none⟩) x.on x.on)))
 have HM2 := iH ((HM2.o.upper (uB hb4)).upper (upper_set (w := w4) (g := w.heap.size + 1 + 1) (i := 5) (.slice (some ⟨g4, 0, none⟩) x.on x.on)))
 have HW2 := iH ((HW2.o.upper (uB hb4)).upper (upper_set (w := w4) (g := w.heap.size + 1 + 1) (i := 5) (.slice (some ⟨g4, 0, none⟩) x.on x.on)))
 have HL2 := iH (fun i (hi : i < x.bn) => ((fun i hi => (HL2.o i hi).upper (uB hb4)) i hi).upper (upper_set (w := w4) (g := w.heap.size + 1 + 1) (i := 5) (.slice (some ⟨g4, 0, none⟩) x.on x.on)))
 have HM1 := iH ((HM1.o.upper (uB hb4)).upper (upper_set (w := w4) (g := w.heap.size + 1 + 1) (i := 5) (.slice (some ⟨g4, 0, none⟩) x.on x.on)))
 have HW1 := iH ((HW1.o.upper (uB hb4)).upper (upper_set (w := w4) (g := w.heap.size + 1 + 1) (i := 5) (.slice (some ⟨g4, 0, none⟩) x.on x.on)))
 have HL1 := iH (fun i (hi : i < x.sn) => ((fun i hi => (HL1.o i hi).upper (uB hb4)) i hi).upper (upper_set (w := w4) (g := w.heap.size + 1 + 1) (i := 5) (.slice (some ⟨g4, 0, none⟩) x.on x.on)))
 have HE4 := iH he4
 have HTn : Hd (TS w (w4.setCell ⟨w.heap.size + 1 + 1, 5, none⟩ (.slice (some ⟨g4, 0, none⟩) x.on x.on)) x.cl zQl [.bool x.ask, .bool x.dis, .slice (some ⟨g1, 0, none⟩) x.sn x.sn, .slice (some ⟨g2, 0, none⟩) x.bn x.bn, .slice (some ⟨g3, 0, none⟩) x.gn x.gn, .slice (some ⟨g4, 0, none⟩) x.on x.on, .int .i64 0, .int .i64 0]) := HT.o.set 5 _
 have st0 := (HT.o.ox.2 5 _ rfl).1
 have st1 := (HT.o.ox.2 5 _ rfl).2
 clear hy4 hw4 hz4 he4 hb4 e3 Z4 HZ4 ld
 go_upto_region 8 with fail
 clear st0 st1 HT
 generalize (w4.setCell ⟨w.heap.size + 1 + 1, 5, none⟩ (.slice (some ⟨g4, 0, none⟩) x.on x.on)) = W4 at *
 have HT := HTn
 clear HTn
 have ld := HT.o.px.2 6 _ rfl
 have HM4 := iH (HM4.o.upper (upper_set (w := W4) (g := w.heap.size + 1 + 1) (i := 6) (.int .i64 x.lim)))
 have HW4 := iH (HW4.o.upper (upper_set (w := W4) (g := w.heap.size + 1 + 1) (i := 6) (.int .i64 x.lim)))
 have HL4 := iH (fun i (hi : i < x.on) => (HL4.o i hi).upper (upper_set (w := W4) (g := w.heap.size + 1 + 1) (i := 6) (.int .i64 x.lim)))
 have HM3 := iH (HM3.o.upper (upper_set (w := W4) (g := w.heap.size + 1 + 1) (i := 6) (.int .i64 x.lim)))
 have HW3 := iH (HW3.o.upper (upper_set (w := W4) (g := w.heap.size + 1 + 1) (i := 6) (.int .i64 x.lim)))
 have HL3 := iH (fun i (hi : i < x.gn) => (HL3.o i hi).upper (upper_set (w := W4) (g := w.heap.size + 1 + 1) (i := 6) (.int .i64 x.lim)))
 have HM2 := iH (HM2.o.upper (upper_set (w := W4) (g := w.heap.size + 1 + 1) (i := 6) (.int .i64 x.lim)))
 have HW2 := iH (HW2.o.upper (upper_set (w := W4) (g := w.heap.size + 1 + 1) (i := 6) (.int .i64 x.lim)))
 have HL2 := iH (fun i (hi : i < x.bn) => (HL2.o i hi).upper (upper_set (w := W4) (g := w.heap.size + 1 + 1) (i := 6) (.int .i64 x.lim)))
 have HM1 := iH (HM1.o.upper (upper_set (w := W4) (g := w.heap.size + 1 + 1) (i := 6) (.int .i64 x.lim)))
 have HW1 := iH (HW1.o.upper (upper_set (w := W4) (g := w.heap.size + 1 + 1) (i := 6) (.int .i64 x.lim)))
 have HL1 := iH (fun i (hi : i < x.sn) => (HL1.o i hi).upper (upper_set (w := W4) (g := w.heap.size + 1 + 1) (i := 6) (.int .i64 x.lim)))
 have HTn : Hd (TS w (W4.setCell ⟨w.heap.size + 1 + 1, 6, none⟩ (.int .i64 x.lim)) x.cl zQl [.bool x.ask, .bool x.dis, .slice (some ⟨g1, 0, none⟩) x.sn x.sn, .slice (some ⟨g2, 0, none⟩) x.bn x.bn, .slice (some ⟨g3, 0, none⟩) x.gn x.gn, .slice (some ⟨g4, 0, none⟩) x.on x.on, .int .i64 x.lim, .int .i64 0]) := HT.o.set 6 _
 have st0 := (HT.o.ox.2 6 _ rfl).1
 have st1 := (HT.o.ox.2 6 _ rfl).2
 go_upto_region 9 with fail
 clear st0 st1 HT ld
 generalize (W4.setCell ⟨w.heap.size + 1 + 1, 6, none⟩ (.int .i64 x.lim)) = W5 at *
 have HT := HTn
 clear HTn
 have ld := HT.o.px.2 7 _ rfl
 have HM4 := iH (HM4.o.upper (upper_set (w := W5) (g := w.heap.size + 1 + 1) (i := 7) (.int .i64 x.off)))
 have HW4 := iH (HW4.o.upper (upper_set (w := W5) (g := w.heap.size + 1 + 1) (i := 7) (.int .i64 x.off)))
 have HL4 := iH (fun i (hi : i < x.on) => (HL4.o i hi).upper (upper_set (w := W5) (g := w.heap.size + 1 + 1) (i := 7) (.int .i64 x.off)))
 have HM3 := iH (HM3.o.upper (upper_set (w := W5) (g := w.heap.size + 1 + 1) (i := 7) (.int .i64 x.off)))
 have HW3 := iH (HW3.o.upper (upper_set (w := W5) (g := w.heap.size + 1 + 1) (i := 7) (.int .i64 x.off)))
 have HL3 := iH (fun i (hi : i < x.gn) => (HL3.o i hi).upper (upper_set (w := W5) (g := w.heap.size + 1 + 1) (i := 7) (.int .i64 x.off)))
 have HM2 := iH (HM2.o.upper (upper_set (w := W5) (g := w.heap.size + 1 + 1) (i := 7) (.int .i64 x.off)))
 have HW2 := iH (HW2.o.upper (upper_set (w := W5) (g := w.heap.size + 1 + 1) (i := 7) (.int .i64 x.off)))
 have HL2 := iH (fun i (hi : i < x.bn) => (HL2.o i hi).upper (upper_set (w := W5) (g := w.heap.size + 1 + 1) (i := 7) (.int .i64 x.off)))
 have HM1 := iH (HM1.o.upper (upper_set (w := W5) (g := w.heap.size + 1 + 1) (i := 7) (.int .i64 x.off)))
 have HW1 := iH (HW1.o.upper (upper_set (w := W5) (g := w.heap.size + 1 + 1) (i := 7) (.int .i64 x.off)))
 have HL1 := iH (fun i (hi : i < x.sn) => (HL1.o i hi).upper (upper_set (w := W5) (g := w.heap.size + 1 + 1) (i := 7) (.int .i64 x.off)))
 have HTn : Hd (TS w (W5.setCell ⟨w.heap.size + 1 + 1, 7, none⟩ (.int .i64 x.off)) x.cl zQl (qL x g1 g2 g3 g4)) := HT.o.set 7 _
 have st0 := (HT.o.ox.2 7 _ rfl).1
 have st1 := (HT.o.ox.2 7 _ rfl).2
 go_upto_region 10 with fail
 clear st0 st1 HT ld
 generalize (W5.setCell ⟨w.heap.size + 1 + 1, 7, none⟩ (.int .i64 x.off)) = W6 at *
 have HT := HTn
 clear HTn
 have ld : W6.rangeAt (w.heap.size + 1 + 1) 0 (qL x g1 g2 g3 g4) := HT.o.ox.box.range 0 _ rfl
 have st0 := HT.o.rz.there 0 8 (by simp)
 have one1 := all_oneCell_toArray (cs := (qL x g1 g2 g3 g4)) (by simp [Value.oneCell'])
 go_wp2_with (first | (refine ldm Tryz.underlying34 ld ?_; try simp only [Act.put, sA, zA, cA]) | (refine wpList_store_mid rfl 34 _ _ rfl (w.heap.size + 1) 0 (qL x g1 g2 g3 g4).toArray rfl rfl st0 (by kernel_rfl) one1 ?_; try simp only [Act.put]))
 have hrd : (W6.setCells (w.heap.size + 1) 0 (qL x g1 g2 g3 g4)).rangeAt (w.heap.size + 1) 0 (qL x g1 g2 g3 g4) := World.rangeAt_setCells_same _ _ _ _ st0
 refine bodyPost_ret (v := .agg (qL x g1 g2 g3 g4).toArray) ?hr rfl ?hp
 case hr => exact results_cell rfl rfl (run_loadVar_mid (P := Tryz.prog) _ (w.heap.size + 1) 0 34 (qL x g1 g2 g3 g4) _ hrd Tryz.underlying34 rfl (by kernel_rfl))
 have HM4f : KRow w.heap.size (W6.setCells (w.heap.size + 1) 0 (qL x g1 g2 g3 g4)) 2 (some ⟨g4, 0, none⟩) x.on (fun i => (k4 i).cells) := ((HM4.o.upper ((upper_sets _ _ 0 W6).mono (by omega))).base (by omega))
 have HW4f : FrW w.heap.size (W6.setCells (w.heap.size + 1) 0 (qL x g1 g2 g3 g4)) g4 (x.on * 2) := ((HW4.o.upper ((upper_sets _ _ 0 W6).mono (by omega))).base (by omega))
 have HL4f : ∀ i, i < x.on → (k4 i).own w.heap.size (W6.setCells (w.heap.size + 1) 0 (qL x g1 g2 g3 g4)) := (fun i hi => ((fun i hi => (HL4.o i hi).upper ((upper_sets _ _ 0 W6).mono (by omega))) i hi).base (by omega))
 have HM3f : KRow w.heap.size (W6.setCells (w.heap.size + 1) 0 (qL x g1 g2 g3 g4)) 1 (some ⟨g3, 0, none⟩) x.gn (fun i => (k3 i).cells) := ((HM3.o.upper ((upper_sets _ _ 0 W6).mono (by omega))).base (by omega))
 have HW3f : FrW w.heap.size (W6.setCells (w.heap.size + 1) 0 (qL x g1 g2 g3 g4)) g3 x.gn := ((HW3.o.upper ((upper_sets _ _ 0 W6).mono (by omega))).base (by omega))
 have HL3f : ∀ i, i < x.gn → (k3 i).own w.heap.size (W6.setCells (w.heap.size + 1) 0 (qL x g1 g2 g3 g4)) := (fun i hi => ((fun i hi => (HL3.o i hi).upper ((upper_sets _ _ 0 W6).mono (by omega))) i hi).base (by omega))
 have HM2f : KRow w.heap.size (W6.setCells (w.heap.size + 1) 0 (qL x g1 g2 g3 g4)) 28 (some ⟨g2, 0, none⟩) x.bn (fun i => (k2 i).d.cells) := ((HM2.o.upper ((upper_sets _ _ 0 W6).mono (by omega))).base (by omega))
 have HW2f : FrW w.heap.size (W6.setCells (w.heap.size + 1) 0 (qL x g1 g2 g3 g4)) g2 (x.bn * 28) := ((HW2.o.upper ((upper_sets _ _ 0 W6).mono (by omega))).base (by omega))
 have HL2f : ∀ i, i < x.bn → (k2 i).own w.heap.size (W6.setCells (w.heap.size + 1) 0 (qL x g1 g2 g3 g4)) := (fun i hi => ((fun i hi => (HL2.o i hi).upper ((upper_sets _ _ 0 W6).mono (by omega))) i hi).base (by omega))
 have HM1f : KRow w.heap.size (W6.setCells (w.heap.size + 1) 0 (qL x g1 g2 g3 g4)) 3 (some ⟨g1, 0, none⟩) x.sn (fun i => (k1 i).cells) := ((HM1.o.upper ((upper_sets _ _ 0 W6).mono (by omega))).base (by omega))
 have HW1f : FrW w.heap.size (W6.setCells (w.heap.size + 1) 0 (qL x g1 g2 g3 g4)) g1 (x.sn * 3) := ((HW1.o.upper ((upper_sets _ _ 0 W6).mono (by omega))).base (by omega))
 have HL1f : ∀ i, i < x.sn → (k1 i).own w.heap.size (W6.setCells (w.heap.size + 1) 0 (qL x g1 g2 g3 g4)) := (fun i hi => ((fun i hi => (HL1.o i hi).upper ((upper_sets _ _ 0 W6).mono (by omega))) i hi).base (by omega))
 have hbf : Bl w (W6.setCells (w.heap.size + 1) 0 (qL x g1 g2 g3 g4)) := below_sets _ (by omega) _ _ _ HT.o.bl
 exact ⟨⟨x.ask, x.dis, some _, x.sn, x.sn, k1, some _, x.bn, x.bn, k2, some _, x.gn, x.gn, k3, some _, x.on, x.on, k4, x.lim, x.off⟩, rfl, ⟨⟨⟨HM1f, fun i hi => (HL1f i hi).1, HN1.o⟩, ⟨HM2f, fun i hi => (HL2f i hi).1, HN2.o⟩, ⟨HM3f, fun i hi => (HL3f i hi).1, HN3.o⟩, ⟨HM4f, fun i hi => (HL4f i hi).1, HN4.o⟩⟩, ⟨⟨g1, rfl, HW1f⟩, HL1f⟩, ⟨⟨g2, rfl, HW2f⟩, HL2f⟩, ⟨⟨g3, rfl, HW3f⟩, HL3f⟩, ⟨nR, nR⟩, ⟨⟨g4, rfl, HW4f⟩, HL4f⟩⟩, ⟨rfl, rfl, ⟨rfl, HE1.o⟩, ⟨rfl, HE2.o⟩, ⟨rfl, HE3.o⟩, ⟨rfl, HE4.o⟩, rfl, rfl⟩, hbf⟩
theorem ET.small_of {w : World} (e : ET) : e.came w → e.wt ≤ 1048576 → e.small := by
 induction e with
 | nil => exact fun h => False.elim h
 | mk d kid ih =>
  intro hc hw
  have h : d.v.len + d.t.t.len + (d.n + sumN d.n (fun i => (kid i).wt)) ≤ 1048576 := hw
  exact ⟨by omega, by omega, by omega, fun i hi => ih i (hc.2.2.2.2.2 i hi) (by have := sumN_le (f := fun i => (kid i).wt) hi; omega)⟩
theorem twt_le {tb : List TB} {x : TB} (h : x ∈ tb) : x.t.len ≤ twt tb tb.length := by
 obtain ⟨j, hj, rfl⟩ := List.mem_iff_getElem.1 h
 have := sumN_le (f := fun j => (tb[j]?.map (fun x => x.t.len)).getD 0) hj
 rw [List.getElem?_eq_getElem hj] at this
 exact this
theorem UT.small_of {w : World} (e : UT) : e.came w → e.wt ≤ 1048576 → e.small := by
 induction e with
 | nil => exact fun h => False.elim h
 | mk d ka kb ia ib =>
  intro hc hw
  obtain ⟨_, he, _, _, _, _, ha, hb⟩ := hc
  have h : d.p.wt + d.e.wt + d.v.len + (d.tb.length + twt d.tb d.tb.length) + (d.an + sumN d.an (fun i => (ka i).wt)) + (d.bn + sumN d.bn (fun i => (kb i).wt)) ≤ 1048576 := hw
  have hp : (d.p.s.v.len + d.p.s.t.t.len) + (d.p.p.v.len + d.p.p.t.t.len) + (d.p.o.v.len + d.p.o.t.t.len) = d.p.wt := rfl
  exact ⟨⟨⟨by omega, by omega⟩, ⟨by omega, by omega⟩, ⟨by omega, by omega⟩⟩, ET.small_of d.e he (by omega), by omega, ⟨by omega, fun x hx => by have := twt_le hx; omega⟩, ⟨by omega, fun i hi => ia i (ha i hi) (by have := sumN_le (f := fun i => (ka i).wt) hi; omega)⟩, by omega, fun i hi => ib i (hb i hi) (by have := sumN_le (f := fun i => (kb i).wt) hi; omega)⟩
theorem QY.small_of {w : World} {x : QY} (hc : x.came w) (hw : x.wt ≤ 1048576) : x.small := by
 have h : (x.sn + sumN x.sn (fun i => (x.sel i).wt)) + (x.bn + sumN x.bn (fun i => (x.body i).wt)) + (x.gn + sumN x.gn (fun i => (x.grp i).wt)) + (x.on + sumN x.on (fun i => (x.key i).wt)) ≤ 1048576 := hw
 refine ⟨⟨by omega, fun i hi => ?_⟩, ⟨by omega, fun i hi => ?_⟩, ⟨by omega, fun i hi => ?_⟩, by omega, fun i hi => ?_⟩
 · have := sumN_le (f := fun i => (x.sel i).wt) hi
   have h2 : (x.sel i).of.len + (x.sel i).v.len = (x.sel i).wt := rfl
   exact ⟨by omega, by omega⟩
 · exact UT.small_of _ (hc.b.2.1 i hi) (by have := sumN_le (f := fun i => (x.body i).wt) hi; omega)
 · have := sumN_le (f := fun i => (x.grp i).wt) hi
   have h2 : (x.grp i).len = (x.grp i).wt := rfl
   show (x.grp i).len ≤ 1048576
   omega
 have := sumN_le (f := fun i => (x.key i).wt) hi
 have h2 : (x.key i).v.len = (x.key i).wt := rfl
 show (x.key i).v.len ≤ 1048576
 omega
theorem len_same {B B' : Nat} {w w' : World} {x y : SL} (hx : BsF B w x) (hy : BsF B' w' y) (h : x.b = y.b) : x.len = y.len := by rw [← hx.1.1, ← hy.1.1, h]
theorem tlen_same {B B' : Nat} {w w' : World} {x y : TB} (hx : BsF B w x.sl) (hy : BsF B' w' y.sl) (h : x.td = y.td) : x.t.len = y.t.len := len_same hx hy (congrArg TD.bs h)
theorem IB.wt_same {B B' : Nat} {w w' : World} {x y : IB} (h : x.same y) (hx : x.lies B w) (hy : y.lies B' w') : x.wt = y.wt := by
 unfold IB.wt
 rw [len_same hx.1 hy.1 h.1, tlen_same hx.2.1 hy.2.1 h.2]
theorem PB.wt_same {B B' : Nat} {w w' : World} {x y : PB} (h : x.same y) (hx : x.lies B w) (hy : y.lies B' w') : x.wt = y.wt := by
 unfold PB.wt
 rw [IB.wt_same h.1 hx.1 hy.1, IB.wt_same h.2.1 hx.2.1 hy.2.1, IB.wt_same h.2.2 hx.2.2 hy.2.2]
theorem ET.wt_same {B B' : Nat} {w w' : World} (e : ET) : ∀ e' : ET, e.same e' → e.lies B w → e'.lies B' w' → e.wt = e'.wt := by
 induction e with
 | nil => exact fun _ _ h => False.elim h
 | mk d kid ih =>
  intro e' hs hl hl'
  cases e' with
  | nil => exact False.elim hl'
  | mk d' kid' =>
   obtain ⟨_, _, hv, ht, hn, hk⟩ := hs
   show d.v.len + d.t.t.len + (d.n + sumN d.n (fun i => (kid i).wt)) = d'.v.len + d'.t.t.len + (d'.n + sumN d'.n (fun i => (kid' i).wt))
   rw [len_same hl.1 hl'.1 hv, tlen_same hl.2.1 hl'.2.1 ht, ← hn, sumN_congr fun i hi => ih i (kid' i) (hk i hi) (hl.2.2.2.2.2 i hi) (hl'.2.2.2.2.2 i (by omega))]
theorem twt_same {B B' : Nat} {w w' : World} {a a' : Option Addr} {tb tb' : List TB} (h : tb.map TB.td = tb'.map TB.td) (hx : TRowF B w a tb) (hy : TRowF B' w' a' tb') : tb.length = tb'.length ∧ twt tb tb.length = twt tb' tb'.length := by
 have hn : tb.length = tb'.length := by have := congrArg List.length h; simpa using this
 refine ⟨hn, ?_⟩
 rw [← hn]
 refine sumN_congr fun i hi => ?_
 have hi' : i < tb'.length := by omega
 rw [List.getElem?_eq_getElem hi, List.getElem?_eq_getElem hi']
 have he : tb[i].td = tb'[i].td := by
  have := congrArg (fun l => l[i]?) h
  simpa [hi, hi'] using this
 exact tlen_same (hx.2.2 _ (List.getElem_mem hi)).1 (hy.2.2 _ (List.getElem_mem hi')).1 he
theorem UT.wt_same {B B' : Nat} {w w' : World} (e : UT) : ∀ e' : UT, e.same e' → e.lies B w → e'.lies B' w' → e.wt = e'.wt := by
 induction e with
 | nil => exact fun _ _ h => False.elim h
 | mk d ka kb ia ib =>
  intro e' hs hl hl'
  cases e' with
  | nil => exact False.elim hl'
  | mk d' ka' kb' =>
   obtain ⟨_, hp, he, hv, ht, ⟨ha, hka⟩, hb, hkb⟩ := hs
   obtain ⟨lp, le, lv, lt, _, _, _, la, lb⟩ := hl
   obtain ⟨lp', le', lv', lt', _, _, _, la', lb'⟩ := hl'
   obtain ⟨t1, t2⟩ := twt_same ht lt lt'
   show d.p.wt + d.e.wt + d.v.len + (d.tb.length + twt d.tb d.tb.length) + (d.an + sumN d.an (fun i => (ka i).wt)) + (d.bn + sumN d.bn (fun i => (kb i).wt)) = d'.p.wt + d'.e.wt + d'.v.len + (d'.tb.length + twt d'.tb d'.tb.length) + (d'.an + sumN d'.an (fun i => (ka' i).wt)) + (d'.bn + sumN d'.bn (fun i => (kb' i).wt))
   rw [PB.wt_same hp lp lp', ET.wt_same d.e d'.e he le le', len_same lv lv' hv, t2, t1, ← ha, ← hb, sumN_congr fun i hi => ia i (ka' i) (hka i hi) (la i hi) (la' i (by omega)), sumN_congr (g := fun i => (kb' i).wt) fun i hi => ib i (kb' i) (hkb i hi) (lb i hi) (lb' i (by omega))]
theorem QY.wt_same {B B' : Nat} {w w' : World} {x y : QY} (h : x.same y) (hx : x.lies B w) (hy : y.lies B' w') : x.wt = y.wt := by
 unfold QY.wt
 have hs := h.s.1
 have hb := h.b.1
 have hg := h.g.1
 have ho := h.o.1
 have e1 : sumN x.sn (fun i => (x.sel i).wt) = sumN x.sn (fun i => (y.sel i).wt) := sumN_congr fun i hi => by
  have h1 := len_same (hx.s.2.1 i hi).1 (hy.s.2.1 i (by omega)).1 (h.s.2 i hi).2.1
  have h2 := len_same (hx.s.2.1 i hi).2 (hy.s.2.1 i (by omega)).2 (h.s.2 i hi).2.2
  show (x.sel i).of.len + (x.sel i).v.len = (y.sel i).of.len + (y.sel i).v.len
  omega
 have e2 : sumN x.bn (fun i => (x.body i).wt) = sumN x.bn (fun i => (y.body i).wt) := sumN_congr fun i hi => UT.wt_same _ _ (h.b.2 i hi) (hx.b.2.1 i hi) (hy.b.2.1 i (by omega))
 have e3 : sumN x.gn (fun i => (x.grp i).wt) = sumN x.gn (fun i => (y.grp i).wt) := sumN_congr fun i hi => len_same (hx.g.2.1 i hi) (hy.g.2.1 i (by omega)) (h.g.2 i hi)
 have e4 : sumN x.on (fun i => (x.key i).wt) = sumN x.on (fun i => (y.key i).wt) := sumN_congr fun i hi => len_same (hx.o.2.1 i hi) (hy.o.2.1 i (by omega)) (h.o.2 i hi).1
 rw [e1, e2, e3, e4, hs, hb, hg, ho]
def U8 (w : World) (b j : Nat) : Prop := ∃ v, w.cell? ⟨b, j, none⟩ = some (.int .u8 v)
theorem cell_set_other {w : World} {g i b j : Nat} {v : Value} (h : b ≠ g ∨ j ≠ i) : (w.setCell ⟨g, i, none⟩ v).cell? ⟨b, j, none⟩ = w.cell? ⟨b, j, none⟩ := by
 by_cases hb : b = g
 · subst hb
   exact set_other (h.resolve_left (fun k => k rfl))
 exact World.cell?_of_block (Below.heap_setCell _ _ _ _ (by exact hb))
structure Mid (B C : Nat) (w w' : World) : Prop where
 os : w'.os = w.os
 tape : w'.tape = w.tape
 output : w'.output = w.output
 size : w'.heap.size = w.heap.size
 block : ∀ b, b < B ∨ C ≤ b → w'.heap[b]? = w.heap[b]?
theorem Mid.refl (B C : Nat) (w : World) : Mid B C w w := ⟨rfl, rfl, rfl, rfl, fun _ _ => rfl⟩
theorem Mid.but {B C g : Nat} {w w1 w2 : World} (h : Mid B C w w1) (k : But g w1 w2) (hB : B ≤ g) (hC : g < C) : Mid B C w w2 :=
 ⟨k.os.trans h.os, k.tape.trans h.tape, k.output.trans h.output, k.size.trans h.size, fun b hb => (k.block b (by omega)).trans (h.block b hb)⟩
theorem Mid.below {B C : Nat} {w w' : World} (h : Mid B C w w') : Below B w w' := ⟨h.os, h.tape, h.output, by rw [h.size]; exact nR, fun b hb => h.block b (.inl hb)⟩
theorem Mid.set {B C g i : Nat} {w w1 : World} {v : Value} (h : Mid B C w w1) (hB : B ≤ g) (hC : g < C) : Mid B C w (w1.setCell ⟨g, i, none⟩ v) := h.but ((But.refl g w1).set i v) hB hC
def N64 (w : World) (b j : Nat) : Prop := ∃ v, w.cell? ⟨b, j, none⟩ = some (.int .i64 v)
def Bo (w : World) (b j : Nat) : Prop := ∃ v, w.cell? ⟨b, j, none⟩ = some (.bool v)
structure KB (w w' : World) : Prop where
 u : ∀ b j, U8 w b j → U8 w' b j
 i : ∀ b j, N64 w b j → N64 w' b j
 o : ∀ b j, Bo w b j → Bo w' b j
 s : ∀ b j a l c, w.cell? ⟨b, j, none⟩ = some (.slice a l c) → w'.cell? ⟨b, j, none⟩ = some (.slice a l c)
 f : ∀ p, w'.frozen? p = w.frozen? p
theorem KB.refl (w : World) : KB w w := ⟨fun _ _ h => h, fun _ _ h => h, fun _ _ h => h, fun _ _ _ _ _ h => h, fun _ => rfl⟩
theorem KB.trans {w w' w'' : World} (h : KB w w') (k : KB w' w'') : KB w w'' := ⟨fun b j q => k.u b j (h.u b j q), fun b j q => k.i b j (h.i b j q), fun b j q => k.o b j (h.o b j q), fun b j a l c q => k.s b j a l c (h.s b j a l c q), fun p => (k.f p).trans (h.f p)⟩
theorem KB.set {w : World} {g i : Nat} {n : Int} (h : N64 w g i) : KB w (w.setCell ⟨g, i, none⟩ (.int .i64 n)) := by
 obtain ⟨v, hv⟩ := h
 refine ⟨fun b j hu => ?_, fun b j hu => ?_, fun b j hu => ?_, fun b j a l c hu => ?_, fun p => World.frozen?_setCell _ _ _ _⟩
 · by_cases e : b = g ∧ j = i
   · obtain ⟨rfl, rfl⟩ := e
     obtain ⟨u, hu⟩ := hu
     rw [hv] at hu
     cases hu
   unfold U8
   rw [cell_set_other (by omega)]
   exact hu
 · by_cases e : b = g ∧ j = i
   · obtain ⟨rfl, rfl⟩ := e
     exact ⟨_, set_same hv⟩
   unfold N64
   rw [cell_set_other (by omega)]
   exact hu
 · by_cases e : b = g ∧ j = i
   · obtain ⟨rfl, rfl⟩ := e
     obtain ⟨u, hu⟩ := hu
     rw [hv] at hu
     cases hu
   unfold Bo
   rw [cell_set_other (by omega)]
   exact hu
 by_cases e : b = g ∧ j = i
 · obtain ⟨rfl, rfl⟩ := e
   rw [hv] at hu
   cases hu
 rw [cell_set_other (by omega)]
 exact hu
theorem KB.setb {w : World} {g i : Nat} {n : Int} (h : U8 w g i) : KB w (w.setCell ⟨g, i, none⟩ (.int .u8 n)) := by
 obtain ⟨v, hv⟩ := h
 refine ⟨fun b j hu => ?_, fun b j hu => ?_, fun b j hu => ?_, fun b j a l c hu => ?_, fun p => World.frozen?_setCell _ _ _ _⟩
 · by_cases e : b = g ∧ j = i
   · obtain ⟨rfl, rfl⟩ := e
     exact ⟨_, set_same hv⟩
   unfold U8
   rw [cell_set_other (by omega)]
   exact hu
 · by_cases e : b = g ∧ j = i
   · obtain ⟨rfl, rfl⟩ := e
     obtain ⟨u, hu⟩ := hu
     rw [hv] at hu
     cases hu
   unfold N64
   rw [cell_set_other (by omega)]
   exact hu
 · by_cases e : b = g ∧ j = i
   · obtain ⟨rfl, rfl⟩ := e
     obtain ⟨u, hu⟩ := hu
     rw [hv] at hu
     cases hu
   unfold Bo
   rw [cell_set_other (by omega)]
   exact hu
 by_cases e : b = g ∧ j = i
 · obtain ⟨rfl, rfl⟩ := e
   rw [hv] at hu
   cases hu
 rw [cell_set_other (by omega)]
 exact hu
theorem KB.seto {w : World} {g i : Nat} {n : Bool} (h : Bo w g i) : KB w (w.setCell ⟨g, i, none⟩ (.bool n)) := by
 obtain ⟨v, hv⟩ := h
 refine ⟨fun b j hu => ?_, fun b j hu => ?_, fun b j hu => ?_, fun b j a l c hu => ?_, fun p => World.frozen?_setCell _ _ _ _⟩
 · by_cases e : b = g ∧ j = i
   · obtain ⟨rfl, rfl⟩ := e
     obtain ⟨u, hu⟩ := hu
     rw [hv] at hu
     cases hu
   unfold U8
   rw [cell_set_other (by omega)]
   exact hu
 · by_cases e : b = g ∧ j = i
   · obtain ⟨rfl, rfl⟩ := e
     obtain ⟨u, hu⟩ := hu
     rw [hv] at hu
     cases hu
   unfold N64
   rw [cell_set_other (by omega)]
   exact hu
 · by_cases e : b = g ∧ j = i
   · obtain ⟨rfl, rfl⟩ := e
     exact ⟨_, set_same hv⟩
   unfold Bo
   rw [cell_set_other (by omega)]
   exact hu
 by_cases e : b = g ∧ j = i
 · obtain ⟨rfl, rfl⟩ := e
   rw [hv] at hu
   cases hu
 rw [cell_set_other (by omega)]
 exact hu
theorem Mid.tr {B C : Nat} {w w1 w2 : World} (h : Mid B C w w1) (k : Mid B C w1 w2) : Mid B C w w2 :=
 ⟨k.os.trans h.os, k.tape.trans h.tape, k.output.trans h.output, k.size.trans h.size, fun b hb => (k.block b hb).trans (h.block b hb)⟩
def TxM (B C : Nat) (w : World) (a : Option Addr) (len : Nat) : Prop := len ≤ 1048576 ∧ (len = 0 ∨ ∃ g, a = some ⟨g, 0, none⟩ ∧ B ≤ g ∧ g < C ∧ ∀ i, i < len → U8 w g i ∧ w.frozen? ⟨g, i, none⟩ = false)
theorem TxM.kb {B C : Nat} {w w' : World} {a : Option Addr} {len : Nat} (h : TxM B C w a len) (k : KB w w') : TxM B C w' a len := by
 refine ⟨h.1, ?_⟩
 rcases h.2 with h | ⟨g, ha, hB, hC, hx⟩
 · exact .inl h
 exact .inr ⟨g, ha, hB, hC, fun i hi => ⟨k.u _ _ (hx i hi).1, (k.f _).trans (hx i hi).2⟩⟩
theorem markText_b (B C : Nat) (a : Option Addr) (len cap : Nat) (k : Int) (w : World) (h : TxM B C w a len) (hk : 0 ≤ k) (hk2 : k ≤ 4611686018427387904) :
 Calls Tryz.prog 20 #[.slice a len cap, .int .i64 k] w fun e w' => e = .returned (.int .i64 (k + len)) ∧ KB w w' ∧ Mid B C w w' := by
 obtain ⟨hlen, h⟩ := h
 by_cases h0 : len = 0
 · subst h0
   clear h
   go_enter Tryz.func20, Tryz.ntmps20
   go_wp2
   refine wp_loop_rounds 1 ?_
   rw [rounds_succ]
   go_wp2
   go_ret
   exact ⟨by simp, KB.refl _, Mid.refl _ _ _⟩
 rcases h with h | ⟨g, rfl, hB, hC, hx⟩
 · exact absurd h h0
 have HX : Hd (∀ i, i < len → U8 w g i ∧ w.frozen? ⟨g, i, none⟩ = false) := hx
 clear hx
 go_enter Tryz.func20, Tryz.ntmps20
 go_wp2_with fail
 go_loopw [1, 5] (fun a b wr => ∃ j : Nat, j ≤ len ∧ a = .int .i64 (k + j) ∧ b = .int .i64 j ∧ Hd (Mid B C w wr) ∧ Hd (KB w wr))
  (fun _ b _ => len - (intOf b).toNat)
 case atStart => exact ⟨0, nZ, by simp, rfl, Mid.refl _ _ _, KB.refl _⟩
 obtain ⟨j, hj, rfl, rfl, HB, HU⟩ := hrel
 by_cases hlt : j < len
 · have hu := HU.o.u g j (HX.o j hlt).1
   have HV : Hd (U8 wr g j) := hu
   obtain ⟨v, hv⟩ := hu
   have hfv := (HU.o.f ⟨g, j, none⟩).trans (HX.o j hlt).2
   go_wp2
   go_roundw
   case rel => exact ⟨j + 1, by omega, by go_num, by go_num, HB.o.set hB hC, HU.o.trans (KB.setb HV.o)⟩
   case measure => simp [intOf]; omega
 obtain rfl : j = len := by omega
 go_wp2
 go_ret
 exact ⟨rfl, HU.o, HB.o⟩
theorem SL.own.marks {B : Nat} {w w' : World} {x : SL} (h : x.own B w) (hb : Bl w w') : TxM B w.heap.size w' x.a x.len := by
 obtain ⟨h1, h2⟩ := h
 refine ⟨h1.1.2.1, ?_⟩
 rcases h2 with h2 | ⟨g, ha, hB, hlt, hf⟩
 · exact .inl h2
 rcases h1.1.2.2.2 with h3 | ⟨b, off, ha', _, hc⟩
 · exact .inl h3
 rw [ha] at ha'
 cases ha'
 exact .inr ⟨g, ha, hB, hlt, fun i hi => ⟨⟨_, (hb.cell (p := ⟨g, i, none⟩) hlt).trans (by have := hc i hi; rwa [Nat.zero_add] at this)⟩, (hb.frozen (p := ⟨g, i, none⟩) hlt).trans (hf i hi)⟩⟩
end Go.Proofs.YthljoojcpbignaaGreatDoor
