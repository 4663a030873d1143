import Derived.Test.YthljoojcpbignaaGreatDoorMk12
namespace Go.Proofs.YthljoojcpbignaaGreatDoor
open Go.RowKit Go.Deep
set_option maxHeartbeats 40000000
set_option maxRecDepth 100000
theorem toSelW (x : SE) (w : World) (h : x.lies 0 w) : Calls Tryz.prog 53 #[.agg x.ar] w fun e w' => ∃ y : SE, e = .returned (.agg y.ar) ∧ y.own w.heap.size w' ∧ x.same y ∧ Bl w w' := by
 have HZ1 := iH (fun (W : World) (hb : Below _ w W) => toByteSW _ W (h.1.upper (uB hb)))
 have HZ2 := iH (fun (W : World) (hb : Below _ w W) => toByteSW x.v W (h.2.upper (uB hb)))
 clear h
 go_in
 have Z1 := HZ1.o
 go_wp2_with fail
 refine (Z1 _ (bl_alloc (bl_alloc (bl_a _) _) _)).mono ?_
 rintro e w1 ⟨y1, rfl, hy1, he1, hb1⟩
 have HT := iH ((TS.new w _ _ _ 75 105 105).below hb1)
 have e3 : (w.heap.size + 1 + 1 + 1) ≤ (((w.alloc (.cells x.ar 75)).alloc (.cells #[.int .i64 0, .slice none 0 0, .slice none 0 0] 105)).alloc (.cells #[.int .i64 x.fn, .slice none 0 0, .slice none 0 0] 105)).heap.size := by simp
 have HM1 := iH ((hy1.base e3).upper (upper_set (w := w1) (g := w.heap.size + 1 + 1) (i := 1) (.slice y1.a y1.len y1.cap)))
 have HE1 := iH he1
 have HTn : Hd (TS w (w1.setCell ⟨w.heap.size + 1 + 1, 1, none⟩ (.slice y1.a y1.len y1.cap)) x.cl [.int .i64 0, .slice none 0 0, .slice none 0 0] [.int .i64 x.fn, .slice y1.a y1.len y1.cap, .slice none 0 0]) := HT.o.set 1 _
 have st0 := (HT.o.ox.2 1 _ rfl).1
 have st1 := (HT.o.ox.2 1 _ rfl).2
 clear hy1 he1 hb1 e3 Z1 HZ1
 go_upto_region 4 with fail
 clear st0 st1 HT
 generalize (w1.setCell ⟨w.heap.size + 1 + 1, 1, none⟩ (.slice y1.a y1.len y1.cap)) = W1 at *
 have HT := HTn
 clear HTn
 have ld := HT.o.px.2 2 _ rfl
 have Z2 := HZ2.o
 go_wp2_with fail
 refine (Z2 _ HT.o.bl).mono ?_
 rintro e w2 ⟨y2, rfl, hy2, he2, hb2⟩
 have e3 := HT.o.base
 have HT := iH (HT.o.below hb2)
 have HM2 := iH ((hy2.base e3).upper (upper_set (w := w2) (g := w.heap.size + 1 + 1) (i := 2) (.slice y2.a y2.len y2.cap)))
 have HM1 := iH ((HM1.o.upper (uB hb2)).upper (upper_set (w := w2) (g := w.heap.size + 1 + 1) (i := 2) (.slice y2.a y2.len y2.cap)))
 have HE2 := iH he2
 have HTn : Hd (TS w (w2.setCell ⟨w.heap.size + 1 + 1, 2, none⟩ (.slice y2.a y2.len y2.cap)) x.cl [.int .i64 0, .slice none 0 0, .slice none 0 0] [.int .i64 x.fn, .slice y1.a y1.len y1.cap, .slice y2.a y2.len y2.cap]) := HT.o.set 2 _
 have st0 := (HT.o.ox.2 2 _ rfl).1
 have st1 := (HT.o.ox.2 2 _ rfl).2
 clear hy2 he2 hb2 e3 Z2 HZ2 ld
 go_upto_region 5 with fail
 clear st0 st1 HT
 generalize (w2.setCell ⟨w.heap.size + 1 + 1, 2, none⟩ (.slice y2.a y2.len y2.cap)) = W2 at *
 have HT := HTn
 clear HTn
 have ld : W2.rangeAt (w.heap.size + 1 + 1) 0 [.int .i64 x.fn, .slice y1.a y1.len y1.cap, .slice y2.a y2.len y2.cap] := HT.o.ox.box.range 0 _ rfl
 have st0 := HT.o.rz.there 0 3 (by simp)
 have one1 := all_oneCell_toArray (cs := [.int .i64 x.fn, .slice y1.a y1.len y1.cap, .slice y2.a y2.len y2.cap]) (by simp [Value.oneCell'])
 go_wp2_with (first | (refine ldm Tryz.underlying105 ld ?_; try simp only [Act.put, sA, zA, cA]) | (refine wpList_store_mid rfl 105 _ _ rfl (w.heap.size + 1) 0 #[.int .i64 x.fn, .slice y1.a y1.len y1.cap, .slice y2.a y2.len y2.cap] rfl rfl st0 (by kernel_rfl) one1 ?_; try simp only [Act.put]))
 have hrd : (W2.setCells (w.heap.size + 1) 0 [.int .i64 x.fn, .slice y1.a y1.len y1.cap, .slice y2.a y2.len y2.cap]).rangeAt (w.heap.size + 1) 0 [.int .i64 x.fn, .slice y1.a y1.len y1.cap, .slice y2.a y2.len y2.cap] := World.rangeAt_setCells_same _ _ _ _ st0
 refine bodyPost_ret (v := .agg #[.int .i64 x.fn, .slice y1.a y1.len y1.cap, .slice y2.a y2.len y2.cap]) ?hr rfl ?hp
 case hr => exact results_cell rfl rfl (run_loadVar_mid (P := Tryz.prog) _ (w.heap.size + 1) 0 105 [.int .i64 x.fn, .slice y1.a y1.len y1.cap, .slice y2.a y2.len y2.cap] _ hrd Tryz.underlying105 rfl (by kernel_rfl))
 have HM2f : y2.own w.heap.size (W2.setCells (w.heap.size + 1) 0 [.int .i64 x.fn, .slice y1.a y1.len y1.cap, .slice y2.a y2.len y2.cap]) := ((HM2.o.upper ((upper_sets _ _ 0 W2).mono (by omega))).base (by omega))
 have HM1f : y1.own w.heap.size (W2.setCells (w.heap.size + 1) 0 [.int .i64 x.fn, .slice y1.a y1.len y1.cap, .slice y2.a y2.len y2.cap]) := ((HM1.o.upper ((upper_sets _ _ 0 W2).mono (by omega))).base (by omega))
 have hbf : Bl w (W2.setCells (w.heap.size + 1) 0 [.int .i64 x.fn, .slice y1.a y1.len y1.cap, .slice y2.a y2.len y2.cap]) := below_sets _ (by omega) _ _ _ HT.o.bl
 exact ⟨⟨x.fn, y1, y2⟩, rfl, ⟨⟨HM1f.1, HM2f.1⟩, HM1f.2, HM2f.2⟩, ⟨rfl, HE1.o, HE2.o⟩, hbf⟩
theorem run_make_toSelSW (n : Nat) (hn : n ≤ 1048576) (w : World) :
 (Instr.makeSlice 30 (.int .i64 (n : Int)) (.int .i64 (n : Int))).run Tryz.prog w = .ok (.slice (some ⟨w.heap.size, 0, none⟩) n n) (w.alloc (.cells (madeCells #[.int .i64 0, .slice none 0 0, .slice none 0 0] (n * 3)) 105)) := by
 have hi0 : (Tryz.prog.info? 105).map (fun i => (i.zero, i.size, i.bytes)) = some (some (.agg #[.int .i64 0, .slice none 0 0, .slice none 0 0]), 3, 56) := by kernel_rfl
 obtain ⟨i, hi, hzz⟩ := Option.map_eq_some_iff.1 hi0
 simp only [Prod.mk.injEq] at hzz
 obtain ⟨hz, hs, hb⟩ := hzz
 have hr := run_make (P := Tryz.prog) w 30 105 i _ Tryz.underlying30 hi hz .i64 .i64 n n (by omega) (Int.le_refl _) (by rw [hb]; omega) (by omega)
 simp only [Int.toNat_natCast, hs, Value.cells] at hr
 exact hr
def CptoSelSW (w : World) (n : Nat) (kid : Nat → SE) (e : Ending) (w' : World) : Prop := ∃ (g : Nat) (k' : Nat → SE), e = .returned (.slice (some ⟨g, 0, none⟩) n n) ∧ KRow w.heap.size w' 3 (some ⟨g, 0, none⟩) n (fun i => (k' i).cells) ∧ FrW w.heap.size w' g (n * 3) ∧ (∀ i, i < n → (k' i).own w.heap.size w') ∧ (∀ i, i < n → (kid i).same (k' i)) ∧ Bl w w'
theorem toSelSW (a : Option Addr) (cap n : Nat) (kid : Nat → SE) (w : World) (hn : n ≤ 1048576) (hR : KRow 0 w 3 a n (fun i => (kid i).cells))
 (IH : ∀ i, i < n → ∀ (W : World), Bl w W → Calls Tryz.prog 53 #[.agg (kid i).ar] W fun e w' => ∃ y : SE, e = .returned (.agg y.ar) ∧ y.own W.heap.size w' ∧ (kid i).same y ∧ Bl W w') :
 Calls Tryz.prog 28 #[.slice a n cap] w (CptoSelSW w n kid) := by
 try unfold SE.ar
 have hmk := run_make_toSelSW n hn
 by_cases hn0 : n = 0
 · subst hn0
   have hmk0 := fun w => by simpa using hmk w
   clear hmk hR IH hn
   go_in
   go_wp2
   refine wp_loop_rounds 1 ?_
   rw [rounds_succ]
   go_wp2
   go_ret
   exact ⟨w.heap.size, kid, rfl, .inl rfl, .inl (by simp), fun i hi => absurd hi nN, fun i hi => absurd hi nN, bl_a _⟩
 obtain ⟨b, off, rfl, _, hlt, hc⟩ := hR.resolve_left hn0
 have HC := iH hc
 have HI := iH IH
 have HTH : Hd ((w.alloc (.cells (madeCells #[.int .i64 0, .slice none 0 0, .slice none 0 0] (n * 3)) 105)).there w.heap.size 0 (n * 3)) := fun j hj => by
  have hs := size_madeCells #[.int .i64 0, .slice none 0 0, .slice none 0 0] (n * 3)
  have h := OB.new w (madeCells #[.int .i64 0, .slice none 0 0, .slice none 0 0] (n * 3)) 105
  have h2 := h.2 (0 + j) _ (List.getElem?_eq_getElem (by rw [Array.length_toList, hs]; omega))
  exact ⟨by rw [h2.1]; rfl, h2.2⟩
 clear hR hc IH
 go_in
 go_wp2
 go_loopw [4] (fun i wr => ∃ (k : Nat) (f : Nat → SE), k ≤ n ∧ i = .int .i64 k ∧ Hd (wr.there w.heap.size 0 (n * 3)) ∧ Hd (∀ j, j < k → wr.rangeAt w.heap.size (j * 3) ((f j).cells)) ∧ Hd (∀ j, j < k → (f j).own (w.heap.size + 1) wr) ∧ Hd (∀ j, j < k → (kid j).same (f j)) ∧ Hd (Bl w wr) ∧ Hd (w.heap.size < wr.heap.size))
  (fun i _ => n - (intOf i).toNat)
 case atStart => exact ⟨0, kid, nZ, rfl, HTH, fun j hj => absurd hj nN, fun j hj => absurd hj nN, fun j hj => absurd hj nN, bl_a _, (show w.heap.size < _ by simp)⟩
 obtain ⟨k, f, hk, rfl, HX, HR, HL, HS, HB, HZ⟩ := hrel
 clear hmk HTH
 by_cases hlk : k < n
 · have hlkz : (k : Int) < (n : Int) := by omega
   have hcx := fun c u (hu : ((kid k).cells)[c]? = some u) => (HB.o.cell (p := ⟨b, off + k * 3 + c, none⟩) hlt).trans (HC.o k hlk c u hu)
   have Z := HI.o k hlk
   go_wp2_with (refine wpList_load_mid rfl 75 _ rfl b (off + k * 3) rfl (kid k).cl _ hcx Tryz.underlying75 rfl (by kernel_rfl) ?_; try simp only [Act.put, sA, zA, cA])
   refine (Z _ HB.o).mono ?_
   rintro e w2 ⟨y, rfl, hy, he, hb2⟩
   have hkz : k * 3 + 3 ≤ n * 3 := by rw [← Nat.succ_mul]; exact Nat.mul_le_mul_right _ hlk
   have hth : w2.there w.heap.size (k * 3) 3 := fun j hj => by
    have h := HX.o (k * 3 + j) (by omega)
    rw [Nat.zero_add] at h
    exact ⟨by rw [hb2.cell (p := ⟨w.heap.size, k * 3 + j, none⟩) HZ.o]; exact h.1, (hb2.frozen (p := ⟨w.heap.size, k * 3 + j, none⟩) HZ.o).trans h.2⟩
   have HN1 : Hd ((w2.setCells w.heap.size (k * 3) y.cl).there w.heap.size 0 (n * 3)) := World.there_setCells (fun j hj => ⟨by rw [hb2.cell (p := ⟨w.heap.size, 0 + j, none⟩) HZ.o]; exact (HX.o j hj).1, (hb2.frozen (p := ⟨w.heap.size, 0 + j, none⟩) HZ.o).trans (HX.o j hj).2⟩) _ _ _
   have hlen : (y.cl : List Value).length = 3 := rfl
   have HN2 : Hd (∀ j, j < k + 1 → (w2.setCells w.heap.size (k * 3) y.cl).rangeAt w.heap.size (j * 3) ((if j = k then y else f j).cells)) := fun j hj => by
    by_cases e : j = k
    · subst e
      rw [if_pos rfl]
      exact World.rangeAt_setCells_same w2 _ _ _ (by rw [hlen]; exact hth)
    rw [if_neg e]
    have hjk : j * 3 + 3 ≤ k * 3 := by rw [← Nat.succ_mul]; exact Nat.mul_le_mul_right _ (by omega)
    refine World.rangeAt_setCells_apart (fun c u hu => (hb2.cell (p := ⟨w.heap.size, j * 3 + c, none⟩) HZ.o).trans (HR.o j (by omega) c u hu)) _ _ _ (.inr (.inl ?_))
    show j * 3 + 3 ≤ _
    exact hjk
   have hu3 : Upper (w.heap.size + 1) w2 (w2.setCells w.heap.size (k * 3) y.cl) := upper_sets _ _ _ _
   have HN3 : Hd (∀ j, j < k + 1 → (if j = k then y else f j).own (w.heap.size + 1) (w2.setCells w.heap.size (k * 3) y.cl)) := fun j hj => by
    by_cases e : j = k
    · rw [if_pos e]
      exact ((hy).base HZ.o).upper hu3
    rw [if_neg e]
    exact ((HL.o j (by omega)).upper (uB hb2)).upper hu3
   have HN4 : Hd (∀ j, j < k + 1 → (kid j).same (if j = k then y else f j)) := fun j hj => by
    by_cases e : j = k
    · rw [if_pos e, e]
      exact he
    rw [if_neg e]
    exact HS.o j (by omega)
   have HN5 : Hd (Bl w (w2.setCells w.heap.size (k * 3) y.cl)) := below_sets _ nR _ _ _ (bl_trans HB.o hb2)
   have HN6 := iH (Nat.lt_of_lt_of_le (Nat.lt_of_lt_of_le HZ.o hb2.size) hu3.size)
   have one1 := all_oneCell_toArray (cs := y.cl) (by simp [Value.oneCell'])
   clear Z hcx hy he hb2 hu3 hlen hkz HX HR HL HS HB HZ
   go_upto_region 4 with (refine wpList_store_mid rfl 105 _ _ rfl w.heap.size (k * 3) y.ar rfl rfl hth (by kernel_rfl) one1 ?_; try simp only [Act.put])
   clear hth one1
   go_wp2
   go_roundw
   case rel => exact ⟨k + 1, fun j => if j = k then y else f j, by omega, by go_num, HN1, HN2, HN3, HN4, HN5, HN6⟩
   case measure => simp [intOf]; omega
 obtain rfl : k = n := by omega
 have hlkz : ¬ (k : Int) < (k : Int) := by omega
 go_wp2
 go_ret
 exact ⟨w.heap.size, f, rfl, .inr ⟨w.heap.size, 0, rfl, nR, HZ.o, fun i hi c u hu => by rw [Nat.zero_add]; exact HR.o i hi c u hu⟩, .inr ⟨nR, HZ.o, fun j hj => by have h := (HX.o j hj).2; rwa [Nat.zero_add] at h⟩, fun i hi => (HL.o i hi).base (Nat.le_succ _), HS.o, HB.o⟩
theorem toKeyW (x : KY) (w : World) (h : x.lies 0 w) : Calls Tryz.prog 56 #[.agg #[.slice x.v.a x.v.len x.v.cap, .bool x.down]] w fun e w' => ∃ y : KY, e = .returned (.agg #[.slice y.v.a y.v.len y.v.cap, .bool y.down]) ∧ y.own w.heap.size w' ∧ x.same y ∧ Bl w w' := by
 have HZ1 := iH (fun (W : World) (hb : Below _ w W) => toByteSW x.v W (BsF.upper h (uB hb)))
 clear h
 go_in
 have Z1 := HZ1.o
 go_wp2_with fail
 refine (Z1 _ (bl_alloc (bl_alloc (bl_a _) _) _)).mono ?_
 rintro e w1 ⟨y1, rfl, hy1, he1, hb1⟩
 have HT := iH ((TS.new w _ _ _ 91 108 108).below hb1)
 have e3 : (w.heap.size + 1 + 1 + 1) ≤ (((w.alloc (.cells #[.slice x.v.a x.v.len x.v.cap, .bool x.down] 91)).alloc (.cells #[.slice none 0 0, .bool false] 108)).alloc (.cells #[.slice none 0 0, .bool false] 108)).heap.size := by simp
 have HM1 := iH ((hy1.base e3).upper (upper_set (w := w1) (g := w.heap.size + 1 + 1) (i := 0) (.slice y1.a y1.len y1.cap)))
 have HE1 := iH he1
 have HTn : Hd (TS w (w1.setCell ⟨w.heap.size + 1 + 1, 0, none⟩ (.slice y1.a y1.len y1.cap)) [.slice x.v.a x.v.len x.v.cap, .bool x.down] [.slice none 0 0, .bool false] [.slice y1.a y1.len y1.cap, .bool false]) := HT.o.set 0 _
 have st0 := (HT.o.ox.2 0 _ rfl).1
 have st1 := (HT.o.ox.2 0 _ rfl).2
 clear hy1 he1 hb1 e3 Z1 HZ1
 go_upto_region 3 with fail
 clear st0 st1 HT
 generalize (w1.setCell ⟨w.heap.size + 1 + 1, 0, none⟩ (.slice y1.a y1.len y1.cap)) = W1 at *
 have HT := HTn
 clear HTn
 have ld := HT.o.px.2 1 _ rfl
 have HM1 := iH (HM1.o.upper (upper_set (w := W1) (g := w.heap.size + 1 + 1) (i := 1) (.bool x.down)))
 have HTn : Hd (TS w (W1.setCell ⟨w.heap.size + 1 + 1, 1, none⟩ (.bool x.down)) [.slice x.v.a x.v.len x.v.cap, .bool x.down] [.slice none 0 0, .bool false] [.slice y1.a y1.len y1.cap, .bool x.down]) := HT.o.set 1 _
 have st0 := (HT.o.ox.2 1 _ rfl).1
 have st1 := (HT.o.ox.2 1 _ rfl).2
 go_upto_region 4 with fail
 clear st0 st1 HT ld
 generalize (W1.setCell ⟨w.heap.size + 1 + 1, 1, none⟩ (.bool x.down)) = W2 at *
 have HT := HTn
 clear HTn
 have ld : W2.rangeAt (w.heap.size + 1 + 1) 0 [.slice y1.a y1.len y1.cap, .bool x.down] := HT.o.ox.box.range 0 _ rfl
 have st0 := HT.o.rz.there 0 2 (by simp)
 have one1 := all_oneCell_toArray (cs := [.slice y1.a y1.len y1.cap, .bool x.down]) (by simp [Value.oneCell'])
 go_wp2_with (first | (refine ldm Tryz.underlying108 ld ?_; try simp only [Act.put, sA, zA, cA]) | (refine wpList_store_mid rfl 108 _ _ rfl (w.heap.size + 1) 0 #[.slice y1.a y1.len y1.cap, .bool x.down] rfl rfl st0 (by kernel_rfl) one1 ?_; try simp only [Act.put]))
 have hrd : (W2.setCells (w.heap.size + 1) 0 [.slice y1.a y1.len y1.cap, .bool x.down]).rangeAt (w.heap.size + 1) 0 [.slice y1.a y1.len y1.cap, .bool x.down] := World.rangeAt_setCells_same _ _ _ _ st0
 refine bodyPost_ret (v := .agg #[.slice y1.a y1.len y1.cap, .bool x.down]) ?hr rfl ?hp
 case hr => exact results_cell rfl rfl (run_loadVar_mid (P := Tryz.prog) _ (w.heap.size + 1) 0 108 [.slice y1.a y1.len y1.cap, .bool x.down] _ hrd Tryz.underlying108 rfl (by kernel_rfl))
 have HM1f : y1.own w.heap.size (W2.setCells (w.heap.size + 1) 0 [.slice y1.a y1.len y1.cap, .bool x.down]) := ((HM1.o.upper ((upper_sets _ _ 0 W2).mono (by omega))).base (by omega))
 have hbf : Bl w (W2.setCells (w.heap.size + 1) 0 [.slice y1.a y1.len y1.cap, .bool x.down]) := below_sets _ (by omega) _ _ _ HT.o.bl
 exact ⟨⟨y1, x.down⟩, rfl, ⟨HM1f.1, HM1f.2⟩, ⟨HE1.o, rfl⟩, hbf⟩
theorem run_make_toKeySW (n : Nat) (hn : n ≤ 1048576) (w : World) :
 (Instr.makeSlice 32 (.int .i64 (n : Int)) (.int .i64 (n : Int))).run Tryz.prog w = .ok (.slice (some ⟨w.heap.size, 0, none⟩) n n) (w.alloc (.cells (madeCells #[.slice none 0 0, .bool false] (n * 2)) 108)) := by
 have hi0 : (Tryz.prog.info? 108).map (fun i => (i.zero, i.size, i.bytes)) = some (some (.agg #[.slice none 0 0, .bool false]), 2, 32) := by kernel_rfl
 obtain ⟨i, hi, hzz⟩ := Option.map_eq_some_iff.1 hi0
 simp only [Prod.mk.injEq] at hzz
 obtain ⟨hz, hs, hb⟩ := hzz
 have hr := run_make (P := Tryz.prog) w 32 108 i _ Tryz.underlying32 hi hz .i64 .i64 n n (by omega) (Int.le_refl _) (by rw [hb]; omega) (by omega)
 simp only [Int.toNat_natCast, hs, Value.cells] at hr
 exact hr
def CptoKeySW (w : World) (n : Nat) (kid : Nat → KY) (e : Ending) (w' : World) : Prop := ∃ (g : Nat) (k' : Nat → KY), e = .returned (.slice (some ⟨g, 0, none⟩) n n) ∧ KRow w.heap.size w' 2 (some ⟨g, 0, none⟩) n (fun i => (k' i).cells) ∧ FrW w.heap.size w' g (n * 2) ∧ (∀ i, i < n → (k' i).own w.heap.size w') ∧ (∀ i, i < n → (kid i).same (k' i)) ∧ Bl w w'
theorem toKeySW (a : Option Addr) (cap n : Nat) (kid : Nat → KY) (w : World) (hn : n ≤ 1048576) (hR : KRow 0 w 2 a n (fun i => (kid i).cells))
 (IH : ∀ i, i < n → ∀ (W : World), Bl w W → Calls Tryz.prog 56 #[.agg #[.slice (kid i).v.a (kid i).v.len (kid i).v.cap, .bool (kid i).down]] W fun e w' => ∃ y : KY, e = .returned (.agg #[.slice y.v.a y.v.len y.v.cap, .bool y.down]) ∧ y.own W.heap.size w' ∧ (kid i).same y ∧ Bl W w') :
 Calls Tryz.prog 31 #[.slice a n cap] w (CptoKeySW w n kid) := by
 have hmk := run_make_toKeySW n hn
 by_cases hn0 : n = 0
 · subst hn0
   have hmk0 := fun w => by simpa using hmk w
   clear hmk hR IH hn
   go_in
   go_wp2
   refine wp_loop_rounds 1 ?_
   rw [rounds_succ]
   go_wp2
   go_ret
   exact ⟨w.heap.size, kid, rfl, .inl rfl, .inl (by simp), fun i hi => absurd hi nN, fun i hi => absurd hi nN, bl_a _⟩
 obtain ⟨b, off, rfl, _, hlt, hc⟩ := hR.resolve_left hn0
 have HC := iH hc
 have HI := iH IH
 have HTH : Hd ((w.alloc (.cells (madeCells #[.slice none 0 0, .bool false] (n * 2)) 108)).there w.heap.size 0 (n * 2)) := fun j hj => by
  have hs := size_madeCells #[.slice none 0 0, .bool false] (n * 2)
  have h := OB.new w (madeCells #[.slice none 0 0, .bool false] (n * 2)) 108
  have h2 := h.2 (0 + j) _ (List.getElem?_eq_getElem (by rw [Array.length_toList, hs]; omega))
  exact ⟨by rw [h2.1]; rfl, h2.2⟩
 clear hR hc IH
 go_in
 go_wp2
 go_loopw [4] (fun i wr => ∃ (k : Nat) (f : Nat → KY), k ≤ n ∧ i = .int .i64 k ∧ Hd (wr.there w.heap.size 0 (n * 2)) ∧ Hd (∀ j, j < k → wr.rangeAt w.heap.size (j * 2) ((f j).cells)) ∧ Hd (∀ j, j < k → (f j).own (w.heap.size + 1) wr) ∧ Hd (∀ j, j < k → (kid j).same (f j)) ∧ Hd (Bl w wr) ∧ Hd (w.heap.size < wr.heap.size))
  (fun i _ => n - (intOf i).toNat)
 case atStart => exact ⟨0, kid, nZ, rfl, HTH, fun j hj => absurd hj nN, fun j hj => absurd hj nN, fun j hj => absurd hj nN, bl_a _, (show w.heap.size < _ by simp)⟩
 obtain ⟨k, f, hk, rfl, HX, HR, HL, HS, HB, HZ⟩ := hrel
 clear hmk HTH
 by_cases hlk : k < n
 · have hlkz : (k : Int) < (n : Int) := by omega
   have hcx := fun c u (hu : ((kid k).cells)[c]? = some u) => (HB.o.cell (p := ⟨b, off + k * 2 + c, none⟩) hlt).trans (HC.o k hlk c u hu)
   have Z := HI.o k hlk
   go_wp2_with (refine ldm Tryz.underlying91 hcx ?_; try simp only [Act.put, sA, zA, cA])
   refine (Z _ HB.o).mono ?_
   rintro e w2 ⟨y, rfl, hy, he, hb2⟩
   have hkz : k * 2 + 2 ≤ n * 2 := by rw [← Nat.succ_mul]; exact Nat.mul_le_mul_right _ hlk
   have hth : w2.there w.heap.size (k * 2) 2 := fun j hj => by
    have h := HX.o (k * 2 + j) (by omega)
    rw [Nat.zero_add] at h
    exact ⟨by rw [hb2.cell (p := ⟨w.heap.size, k * 2 + j, none⟩) HZ.o]; exact h.1, (hb2.frozen (p := ⟨w.heap.size, k * 2 + j, none⟩) HZ.o).trans h.2⟩
   have HN1 : Hd ((w2.setCells w.heap.size (k * 2) [.slice y.v.a y.v.len y.v.cap, .bool y.down]).there w.heap.size 0 (n * 2)) := World.there_setCells (fun j hj => ⟨by rw [hb2.cell (p := ⟨w.heap.size, 0 + j, none⟩) HZ.o]; exact (HX.o j hj).1, (hb2.frozen (p := ⟨w.heap.size, 0 + j, none⟩) HZ.o).trans (HX.o j hj).2⟩) _ _ _
   have hlen : ([.slice y.v.a y.v.len y.v.cap, .bool y.down] : List Value).length = 2 := rfl
   have HN2 : Hd (∀ j, j < k + 1 → (w2.setCells w.heap.size (k * 2) [.slice y.v.a y.v.len y.v.cap, .bool y.down]).rangeAt w.heap.size (j * 2) ((if j = k then y else f j).cells)) := fun j hj => by
    by_cases e : j = k
    · subst e
      rw [if_pos rfl]
      exact World.rangeAt_setCells_same w2 _ _ _ (by rw [hlen]; exact hth)
    rw [if_neg e]
    have hjk : j * 2 + 2 ≤ k * 2 := by rw [← Nat.succ_mul]; exact Nat.mul_le_mul_right _ (by omega)
    refine World.rangeAt_setCells_apart (fun c u hu => (hb2.cell (p := ⟨w.heap.size, j * 2 + c, none⟩) HZ.o).trans (HR.o j (by omega) c u hu)) _ _ _ (.inr (.inl ?_))
    show j * 2 + 2 ≤ _
    exact hjk
   have hu3 : Upper (w.heap.size + 1) w2 (w2.setCells w.heap.size (k * 2) [.slice y.v.a y.v.len y.v.cap, .bool y.down]) := upper_sets _ _ _ _
   have HN3 : Hd (∀ j, j < k + 1 → (if j = k then y else f j).own (w.heap.size + 1) (w2.setCells w.heap.size (k * 2) [.slice y.v.a y.v.len y.v.cap, .bool y.down])) := fun j hj => by
    by_cases e : j = k
    · rw [if_pos e]
      exact ((hy).base HZ.o).upper hu3
    rw [if_neg e]
    exact ((HL.o j (by omega)).upper (uB hb2)).upper hu3
   have HN4 : Hd (∀ j, j < k + 1 → (kid j).same (if j = k then y else f j)) := fun j hj => by
    by_cases e : j = k
    · rw [if_pos e, e]
      exact he
    rw [if_neg e]
    exact HS.o j (by omega)
   have HN5 : Hd (Bl w (w2.setCells w.heap.size (k * 2) [.slice y.v.a y.v.len y.v.cap, .bool y.down])) := below_sets _ nR _ _ _ (bl_trans HB.o hb2)
   have HN6 := iH (Nat.lt_of_lt_of_le (Nat.lt_of_lt_of_le HZ.o hb2.size) hu3.size)
   have one1 := all_oneCell_toArray (cs := [.slice y.v.a y.v.len y.v.cap, .bool y.down]) (by simp [Value.oneCell'])
   clear Z hcx hy he hb2 hu3 hlen hkz HX HR HL HS HB HZ
   go_upto_region 4 with (refine wpList_store_mid rfl 108 _ _ rfl w.heap.size (k * 2) #[.slice y.v.a y.v.len y.v.cap, .bool y.down] rfl rfl hth (by kernel_rfl) one1 ?_; try simp only [Act.put])
   clear hth one1
   go_wp2
   go_roundw
   case rel => exact ⟨k + 1, fun j => if j = k then y else f j, by omega, by go_num, HN1, HN2, HN3, HN4, HN5, HN6⟩
   case measure => simp [intOf]; omega
 obtain rfl : k = n := by omega
 have hlkz : ¬ (k : Int) < (k : Int) := by omega
 go_wp2
 go_ret
 exact ⟨w.heap.size, f, rfl, .inr ⟨w.heap.size, 0, rfl, nR, HZ.o, fun i hi c u hu => by rw [Nat.zero_add]; exact HR.o i hi c u hu⟩, .inr ⟨nR, HZ.o, fun j hj => by have h := (HX.o j hj).2; rwa [Nat.zero_add] at h⟩, fun i hi => (HL.o i hi).base (Nat.le_succ _), HS.o, HB.o⟩
theorem run_make_toElemSW (n : Nat) (hn : n ≤ 1048576) (w : World) :
 (Instr.makeSlice 31 (.int .i64 (n : Int)) (.int .i64 (n : Int))).run Tryz.prog w = .ok (.slice (some ⟨w.heap.size, 0, none⟩) n n) (w.alloc (.cells (madeCells zUa (n * 28)) 103)) := by
 have hi0 : (Tryz.prog.info? 103).map (fun i => (i.zero, i.size, i.bytes)) = some (some (.agg zUa), 28, 432) := by kernel_rfl
 obtain ⟨i, hi, hzz⟩ := Option.map_eq_some_iff.1 hi0
 simp only [Prod.mk.injEq] at hzz
 obtain ⟨hz, hs, hb⟩ := hzz
 have hr := run_make (P := Tryz.prog) w 31 103 i _ Tryz.underlying31 hi hz .i64 .i64 n n (by omega) (Int.le_refl _) (by rw [hb]; omega) (by omega)
 simp only [Int.toNat_natCast, hs, Value.cells] at hr
 exact hr
def CptoElemSW (w : World) (n : Nat) (kid : Nat → UT) (e : Ending) (w' : World) : Prop := ∃ (g : Nat) (k' : Nat → UT), e = .returned (.slice (some ⟨g, 0, none⟩) n n) ∧ KRow w.heap.size w' 28 (some ⟨g, 0, none⟩) n (fun i => (k' i).d.cells) ∧ FrW w.heap.size w' g (n * 28) ∧ (∀ i, i < n → (k' i).own w.heap.size w') ∧ (∀ i, i < n → (kid i).same (k' i)) ∧ Bl w w'
theorem toElemSW (a : Option Addr) (cap n : Nat) (kid : Nat → UT) (w : World) (hn : n ≤ 1048576) (hR : KRow 0 w 28 a n (fun i => (kid i).d.cells))
 (IH : ∀ i, i < n → ∀ (W : World), Bl w W → Calls Tryz.prog 54 #[.agg (kid i).d.ar] W fun e w' => ∃ y : UT, e = .returned (.agg y.d.ar) ∧ y.own W.heap.size w' ∧ (kid i).same y ∧ Bl W w') :
 Calls Tryz.prog 29 #[.slice a n cap] w (CptoElemSW w n kid) := by
 try unfold UN.ar
 have hmk := run_make_toElemSW n hn
 by_cases hn0 : n = 0
 · subst hn0
   have hmk0 := fun w => by simpa using hmk w
   clear hmk hR IH hn
   go_in
   go_wp2
   refine wp_loop_rounds 1 ?_
   rw [rounds_succ]
   go_wp2
   go_ret
   exact ⟨w.heap.size, kid, rfl, .inl rfl, .inl (by simp), fun i hi => absurd hi nN, fun i hi => absurd hi nN, bl_a _⟩
 obtain ⟨b, off, rfl, _, hlt, hc⟩ := hR.resolve_left hn0
 have HC := iH hc
 have HI := iH IH
 have HTH : Hd ((w.alloc (.cells (madeCells zUa (n * 28)) 103)).there w.heap.size 0 (n * 28)) := fun j hj => by
  have hs := size_madeCells zUa (n * 28)
  have h := OB.new w (madeCells zUa (n * 28)) 103
  have h2 := h.2 (0 + j) _ (List.getElem?_eq_getElem (by rw [Array.length_toList, hs]; omega))
  exact ⟨by rw [h2.1]; rfl, h2.2⟩
 clear hR hc IH
 go_in
 go_wp2
 go_loopw [4] (fun i wr => ∃ (k : Nat) (f : Nat → UT), k ≤ n ∧ i = .int .i64 k ∧ Hd (wr.there w.heap.size 0 (n * 28)) ∧ Hd (∀ j, j < k → wr.rangeAt w.heap.size (j * 28) ((f j).d.cells)) ∧ Hd (∀ j, j < k → (f j).own (w.heap.size + 1) wr) ∧ Hd (∀ j, j < k → (kid j).same (f j)) ∧ Hd (Bl w wr) ∧ Hd (w.heap.size < wr.heap.size))
  (fun i _ => n - (intOf i).toNat)
 case atStart => exact ⟨0, kid, nZ, rfl, HTH, fun j hj => absurd hj nN, fun j hj => absurd hj nN, fun j hj => absurd hj nN, bl_a _, (show w.heap.size < _ by simp)⟩
 obtain ⟨k, f, hk, rfl, HX, HR, HL, HS, HB, HZ⟩ := hrel
 clear hmk HTH
 by_cases hlk : k < n
 · have hlkz : (k : Int) < (n : Int) := by omega
   have hcx := fun c u (hu : ((kid k).d.cells)[c]? = some u) => (HB.o.cell (p := ⟨b, off + k * 28 + c, none⟩) hlt).trans (HC.o k hlk c u hu)
   have Z := HI.o k hlk
   go_wp2_with (refine wpList_load_mid rfl 88 _ rfl b (off + k * 28) rfl (kid k).d.cl _ hcx Tryz.underlying88 rfl (by kernel_rfl) ?_; try simp only [Act.put, sA, zA, cA])
   refine (Z _ HB.o).mono ?_
   rintro e w2 ⟨y, rfl, hy, he, hb2⟩
   have hkz : k * 28 + 28 ≤ n * 28 := by rw [← Nat.succ_mul]; exact Nat.mul_le_mul_right _ hlk
   have hth : w2.there w.heap.size (k * 28) 28 := fun j hj => by
    have h := HX.o (k * 28 + j) (by omega)
    rw [Nat.zero_add] at h
    exact ⟨by rw [hb2.cell (p := ⟨w.heap.size, k * 28 + j, none⟩) HZ.o]; exact h.1, (hb2.frozen (p := ⟨w.heap.size, k * 28 + j, none⟩) HZ.o).trans h.2⟩
   have HN1 : Hd ((w2.setCells w.heap.size (k * 28) y.d.cl).there w.heap.size 0 (n * 28)) := World.there_setCells (fun j hj => ⟨by rw [hb2.cell (p := ⟨w.heap.size, 0 + j, none⟩) HZ.o]; exact (HX.o j hj).1, (hb2.frozen (p := ⟨w.heap.size, 0 + j, none⟩) HZ.o).trans (HX.o j hj).2⟩) _ _ _
   have hlen : (y.d.cl : List Value).length = 28 := rfl
   have HN2 : Hd (∀ j, j < k + 1 → (w2.setCells w.heap.size (k * 28) y.d.cl).rangeAt w.heap.size (j * 28) ((if j = k then y else f j).d.cells)) := fun j hj => by
    by_cases e : j = k
    · subst e
      rw [if_pos rfl]
      exact World.rangeAt_setCells_same w2 _ _ _ (by rw [hlen]; exact hth)
    rw [if_neg e]
    have hjk : j * 28 + 28 ≤ k * 28 := by rw [← Nat.succ_mul]; exact Nat.mul_le_mul_right _ (by omega)
    refine World.rangeAt_setCells_apart (fun c u hu => (hb2.cell (p := ⟨w.heap.size, j * 28 + c, none⟩) HZ.o).trans (HR.o j (by omega) c u hu)) _ _ _ (.inr (.inl ?_))
    show j * 28 + 28 ≤ _
    exact hjk
   have hu3 : Upper (w.heap.size + 1) w2 (w2.setCells w.heap.size (k * 28) y.d.cl) := upper_sets _ _ _ _
   have HN3 : Hd (∀ j, j < k + 1 → (if j = k then y else f j).own (w.heap.size + 1) (w2.setCells w.heap.size (k * 28) y.d.cl)) := fun j hj => by
    by_cases e : j = k
    · rw [if_pos e]
      exact ((hy).base HZ.o).upper hu3
    rw [if_neg e]
    exact ((HL.o j (by omega)).upper (uB hb2)).upper hu3
   have HN4 : Hd (∀ j, j < k + 1 → (kid j).same (if j = k then y else f j)) := fun j hj => by
    by_cases e : j = k
    · rw [if_pos e, e]
      exact he
    rw [if_neg e]
    exact HS.o j (by omega)
   have HN5 : Hd (Bl w (w2.setCells w.heap.size (k * 28) y.d.cl)) := below_sets _ nR _ _ _ (bl_trans HB.o hb2)
   have HN6 := iH (Nat.lt_of_lt_of_le (Nat.lt_of_lt_of_le HZ.o hb2.size) hu3.size)
   have one1 := all_oneCell_toArray (cs := y.d.cl) (by simp [Value.oneCell'])
   clear Z hcx hy he hb2 hu3 hlen hkz HX HR HL HS HB HZ
   go_upto_region 4 with (refine wpList_store_mid rfl 103 _ _ rfl w.heap.size (k * 28) y.d.ar rfl rfl hth (by kernel_rfl) one1 ?_; try simp only [Act.put])
   clear hth one1
   go_wp2
   go_roundw
   case rel => exact ⟨k + 1, fun j => if j = k then y else f j, by omega, by go_num, HN1, HN2, HN3, HN4, HN5, HN6⟩
   case measure => simp [intOf]; omega
 obtain rfl : k = n := by omega
 have hlkz : ¬ (k : Int) < (k : Int) := by omega
 go_wp2
 go_ret
 exact ⟨w.heap.size, f, rfl, .inr ⟨w.heap.size, 0, rfl, nR, HZ.o, fun i hi c u hu => by rw [Nat.zero_add]; exact HR.o i hi c u hu⟩, .inr ⟨nR, HZ.o, fun j hj => by have h := (HX.o j hj).2; rwa [Nat.zero_add] at h⟩, fun i hi => (HL.o i hi).base (Nat.le_succ _), HS.o, HB.o⟩
theorem toElemW (e : UT) : ∀ (w : World), e.lies 0 w → Calls Tryz.prog 54 #[.agg e.d.ar] w fun r w' => ∃ y : UT, r = .returned (.agg y.d.ar) ∧ y.own w.heap.size w' ∧ e.same y ∧ Bl w w' := by
 induction e with
 | nil => exact fun _ h => False.elim h
 | mk d ka kb ia ib =>
  intro w h
  show Calls Tryz.prog 54 #[.agg d.ar] w fun r w' => ∃ y : UT, r = .returned (.agg y.d.ar) ∧ y.own w.heap.size w' ∧ (UT.mk d ka kb).same y ∧ Bl w w'
  obtain ⟨hp, he, hv, ht, htn, ⟨an, aR⟩, ⟨bn, bR⟩, hka, hkb⟩ := h
  have HZ1 := iH (fun (W : World) (hb : Below _ w W) => toPatW d.p W (hp.upper (uB hb)))
  have HZ2 := iH (fun (W : World) (hb : Below _ w W) => toExprW d.e W (ET.lies.upper (uB hb) he))
  have HZ3 := iH (fun (W : World) (hb : Below _ w W) => toByteSW d.v W (hv.upper (uB hb)))
  have HZ4 := iH (fun (W : World) (hb : Below _ w W) => toTermSW _ d.tc _ W htn (ht.upper (uB hb)))
  have HZ5 : Hd (∀ (W : World), Bl w W → Cl 29 #[.slice d.aa d.an d.ac] W fun e w' => ∃ (g : Nat) (k' : Nat → UT), e = .returned (.slice (some ⟨g, 0, none⟩) d.an d.an) ∧ KRow W.heap.size w' 28 (some ⟨g, 0, none⟩) d.an (fun i => (k' i).d.cells) ∧ FrW W.heap.size w' g (d.an * 28) ∧ (∀ i, i < d.an → (k' i).own W.heap.size w') ∧ (∀ i, i < d.an → (ka i).same (k' i)) ∧ Bl W w') := fun W hb => toElemSW _ _ _ ka W an (aR.upper (uB hb)) fun i hi W' hW => ia i W' ((hka i hi).below (bl_trans hb hW))
  have HZ6 : Hd (∀ (W : World), Bl w W → Cl 29 #[.slice d.ba d.bn d.bc] W fun e w' => ∃ (g : Nat) (k' : Nat → UT), e = .returned (.slice (some ⟨g, 0, none⟩) d.bn d.bn) ∧ KRow W.heap.size w' 28 (some ⟨g, 0, none⟩) d.bn (fun i => (k' i).d.cells) ∧ FrW W.heap.size w' g (d.bn * 28) ∧ (∀ i, i < d.bn → (k' i).own W.heap.size w') ∧ (∀ i, i < d.bn → (kb i).same (k' i)) ∧ Bl W w') := fun W hb => toElemSW _ _ _ kb W bn (bR.upper (uB hb)) fun i hi W' hW => ib i W' ((hkb i hi).below (bl_trans hb hW))
  have HAN := iH an
  have HBN := iH bn
  have HTN := iH htn
  clear hp he hv ht htn an aR bn bR hka hkb ia ib
  go_in
  have Z1 := HZ1.o
  go_wp2_with fail
  refine (Z1 _ (bl_alloc (bl_alloc (bl_a _) _) _)).mono ?_
  rintro e w1 ⟨y1, rfl, hy1, he1, hb1⟩
  have HT := iH ((TS.new w _ _ _ 88 103 103).below hb1)
  have e3 : (w.heap.size + 1 + 1 + 1) ≤ (((w.alloc (.cells d.ar 88)).alloc (.cells zUa 103)).alloc (.cells #[.int .i64 d.k, .slice none 0 0, .int .i64 0, .slice none 0 0, .int .i64 0, .int .i64 0, .slice none 0 0, .int .i64 0, .slice none 0 0, .int .i64 0, .int .i64 0, .slice none 0 0, .int .i64 0, .slice none 0 0, .int .i64 0, .int .i64 0, .int .i64 0, .int .i64 0, .slice none 0 0, .int .i64 0, .slice none 0 0, .int .i64 0, .int .i64 0, .slice none 0 0, .slice none 0 0, .slice none 0 0, .slice none 0 0, .slice none 0 0] 103)).heap.size := by simp
  have HM1 := iH ((hy1.base e3).upper (upper_sets (w.heap.size + 1 + 1) y1.cl 1 w1))
  have HE1 := iH he1
  have HTn : Hd (TS w (w1.setCells (w.heap.size + 1 + 1) 1 y1.cl) d.cl zUl [.int .i64 d.k, .slice y1.s.v.a y1.s.v.len y1.s.v.cap, .int .i64 y1.s.t.t.k, .slice y1.s.t.t.a y1.s.t.t.len y1.s.t.t.cap, .int .i64 y1.s.t.t.n, .int .i64 y1.s.t.t.s, .slice y1.p.v.a y1.p.v.len y1.p.v.cap, .int .i64 y1.p.t.t.k, .slice y1.p.t.t.a y1.p.t.t.len y1.p.t.t.cap, .int .i64 y1.p.t.t.n, .int .i64 y1.p.t.t.s, .slice y1.o.v.a y1.o.v.len y1.o.v.cap, .int .i64 y1.o.t.t.k, .slice y1.o.t.t.a y1.o.t.t.len y1.o.t.t.cap, .int .i64 y1.o.t.t.n, .int .i64 y1.o.t.t.s, .int .i64 0, .int .i64 0, .slice none 0 0, .int .i64 0, .slice none 0 0, .int .i64 0, .int .i64 0, .slice none 0 0, .slice none 0 0, .slice none 0 0, .slice none 0 0, .slice none 0 0]) := HT.o.sets 1 _
  have st0 := HT.o.ox.there 1 15 (by simp)
  have one1 := all_oneCell_toArray (cs := y1.cl) (by simp [Value.oneCell'])
  clear hy1 he1 hb1 e3 Z1 HZ1
  go_upto_region 4 with (refine wpList_store_mid rfl 97 _ _ rfl (w.heap.size + 1 + 1) 1 y1.ar rfl rfl st0 (by kernel_rfl) one1 ?_; try simp only [Act.put])
  clear st0 one1 HT
  generalize (w1.setCells (w.heap.size + 1 + 1) 1 y1.cl) = W1 at *
  have HT := HTn
  clear HTn
  have ld : W1.rangeAt w.heap.size 16 d.e.d.cl := HT.o.px.range 16 _ rfl
  have Z2 := HZ2.o
  go_wp2_with (refine ldm Tryz.underlying85 ld ?_; try simp only [Act.put, sA, zA, cA])
  refine (Z2 _ HT.o.bl).mono ?_
  rintro e w2 ⟨y2, rfl, hy2, he2, hb2⟩
  have e3 := HT.o.base
  have HT := iH (HT.o.below hb2)
  have HM2 := iH ((hy2.base e3).upper (upper_sets (w.heap.size + 1 + 1) y2.d.cl 16 w2))
  have HM1 := iH ((HM1.o.upper (uB hb2)).upper (upper_sets (w.heap.size + 1 + 1) y2.d.cl 16 w2))
  have HE2 := iH he2
  have HTn : Hd (TS w (w2.setCells (w.heap.size + 1 + 1) 16 y2.d.cl) d.cl zUl [.int .i64 d.k, .slice y1.s.v.a y1.s.v.len y1.s.v.cap, .int .i64 y1.s.t.t.k, .slice y1.s.t.t.a y1.s.t.t.len y1.s.t.t.cap, .int .i64 y1.s.t.t.n, .int .i64 y1.s.t.t.s, .slice y1.p.v.a y1.p.v.len y1.p.v.cap, .int .i64 y1.p.t.t.k, .slice y1.p.t.t.a y1.p.t.t.len y1.p.t.t.cap, .int .i64 y1.p.t.t.n, .int .i64 y1.p.t.t.s, .slice y1.o.v.a y1.o.v.len y1.o.v.cap, .int .i64 y1.o.t.t.k, .slice y1.o.t.t.a y1.o.t.t.len y1.o.t.t.cap, .int .i64 y1.o.t.t.n, .int .i64 y1.o.t.t.s, .int .i64 y2.d.k, .int .i64 y2.d.op, .slice y2.d.v.a y2.d.v.len y2.d.v.cap, .int .i64 y2.d.t.t.k, .slice y2.d.t.t.a y2.d.t.t.len y2.d.t.t.cap, .int .i64 y2.d.t.t.n, .int .i64 y2.d.t.t.s, .slice y2.d.ka y2.d.n y2.d.kc, .slice none 0 0, .slice none 0 0, .slice none 0 0, .slice none 0 0]) := HT.o.sets 16 _
  have st0 := HT.o.ox.there 16 8 (by simp)
  have one1 := all_oneCell_toArray (cs := y2.d.cl) (by simp [Value.oneCell'])
  clear hy2 he2 hb2 e3 Z2 HZ2 ld
  go_upto_region 5 with (refine wpList_store_mid rfl 100 _ _ rfl (w.heap.size + 1 + 1) 16 y2.d.ar rfl rfl st0 (by kernel_rfl) one1 ?_; try simp only [Act.put])
  clear st0 one1 HT
  generalize (w2.setCells (w.heap.size + 1 + 1) 16 y2.d.cl) = W2 at *
  have HT := HTn
  clear HTn
  have ld := HT.o.px.2 24 _ rfl
  have Z3 := HZ3.o
  go_wp2_with fail
  refine (Z3 _ HT.o.bl).mono ?_
  rintro e w3 ⟨y3, rfl, hy3, he3, hb3⟩
  have e3 := HT.o.base
  have HT := iH (HT.o.below hb3)
  have HM3 := iH ((hy3.base e3).upper (upper_set (w := w3) (g := w.heap.size + 1 + 1) (i := 24) (.slice y3.a y3.len y3.cap)))
  have HM2 := iH ((HM2.o.upper (uB hb3)).upper (upper_set (w := w3) (g := w.heap.size + 1 + 1) (i := 24) (.slice y3.a y3.len y3.cap)))
  have HM1 := iH ((HM1.o.upper (uB hb3)).upper (upper_set (w := w3) (g := w.heap.size + 1 + 1) (i := 24) (.slice y3.a y3.len y3.cap)))
  have HE3 := iH he3
  have HTn : Hd (TS w (w3.setCell ⟨w.heap.size + 1 + 1, 24, none⟩ (.slice y3.a y3.len y3.cap)) d.cl zUl (uL d.k y1 y2.d y3 (.slice none 0 0) (.slice none 0 0) (.slice none 0 0))) := HT.o.set 24 _
  have st0 := (HT.o.ox.2 24 _ rfl).1
  have st1 := (HT.o.ox.2 24 _ rfl).2
  clear hy3 he3 hb3 e3 Z3 HZ3 ld
  go_upto_region 6 with fail
  clear st0 st1 HT
  generalize (w3.setCell ⟨w.heap.size + 1 + 1, 24, none⟩ (.slice y3.a y3.len y3.cap)) = W3 at *
  have HT := HTn
  clear HTn
  have ld := HT.o.px.2 25 _ rfl
  have Z4 := HZ4.o
  go_wp2_with fail
  refine (Z4 _ HT.o.bl).mono ?_
  rintro e w4 ⟨g4, c4, y4, rfl, hy4, hw4, he4, hb4⟩
  have e3 := HT.o.base
  have HT := iH (HT.o.below hb4)
  have HM4 := iH ((hy4.base e3).upper (upper_set (w := w4) (g := w.heap.size + 1 + 1) (i := 25) (.slice g4 y4.length c4)))
  have HW4 := iH ((hw4.base e3).upper (upper_set (w := w4) (g := w.heap.size + 1 + 1) (i := 25) (.slice g4 y4.length c4)))
  have HM3 := iH ((HM3.o.upper (uB hb4)).upper (upper_set (w := w4) (g := w.heap.size + 1 + 1) (i := 25) (.slice g4 y4.length c4)))
  have HM2 := iH ((HM2.o.upper (uB hb4)).upper (upper_set (w := w4) (g := w.heap.size + 1 + 1) (i := 25) (.slice g4 y4.length c4)))
  have HM1 := iH ((HM1.o.upper (uB hb4)).upper (upper_set (w := w4) (g := w.heap.size + 1 + 1) (i := 25) (.slice g4 y4.length c4)))
  have HE4 := iH he4
  have HTn : Hd (TS w (w4.setCell ⟨w.heap.size + 1 + 1, 25, none⟩ (.slice g4 y4.length c4)) d.cl zUl (uL d.k y1 y2.d y3 (.slice g4 y4.length c4) (.slice none 0 0) (.slice none 0 0))) := HT.o.set 25 _
  have st0 := (HT.o.ox.2 25 _ rfl).1
  have st1 := (HT.o.ox.2 25 _ rfl).2
  clear hy4 hw4 he4 hb4 e3 Z4 HZ4 ld
  go_upto_region 7 with fail
  clear st0 st1 HT
  generalize (w4.setCell ⟨w.heap.size + 1 + 1, 25, none⟩ (.slice g4 y4.length c4)) = W4 at *
  have HT := HTn
  clear HTn
  have ld := HT.o.px.2 26 _ rfl
  have Z5 := HZ5.o
  go_wp2_with fail
  refine (Z5 _ HT.o.bl).mono ?_
  rintro e w5 ⟨g5, k5, rfl, hy5, hw5, hz5, he5, hb5⟩
  have e3 := HT.o.base
  have HT := iH (HT.o.below hb5)
  have HM5 := iH ((hy5.base e3).upper (upper_set (w := w5) (g := w.heap.size + 1 + 1) (i := 26) (.slice (some ⟨g5, 0, none⟩) d.an d.an)))
  have HW5 := iH ((hw5.base e3).upper (upper_set (w := w5) (g := w.heap.size + 1 + 1) (i := 26) (.slice (some ⟨g5, 0, none⟩) d.an d.an)))
  have HL5 := iH (fun i (hi : i < d.an) => ((fun i hi => (hz5 i hi).base e3) i hi).upper (upper_set (w := w5) (g := w.heap.size + 1 + 1) (i := 26) (.slice (some ⟨g5, 0, none⟩) d.an d.an)))
  have HM4 := iH ((HM4.o.upper (uB hb5)).upper (upper_set (w := w5) (g := w.heap.size + 1 + 1) (i := 26) (.slice (some ⟨g5, 0, none⟩) d.an d.an)))
  have HW4 := iH ((HW4.o.upper (uB hb5)).upper (upper_set (w := w5) (g := w.heap.size + 1 + 1) (i := 26) (.slice (some ⟨g5, 0, none⟩) d.an d.an)))
  have HM3 := iH ((HM3.o.upper (uB hb5)).upper (upper_set (w := w5) (g := w.heap.size + 1 + 1) (i := 26) (.slice (some ⟨g5, 0, none⟩) d.an d.an)))
  have HM2 := iH ((HM2.o.upper (uB hb5)).upper (upper_set (w := w5) (g := w.heap.size + 1 + 1) (i := 26) (.slice (some ⟨g5, 0, none⟩) d.an d.an)))
  have HM1 := iH ((HM1.o.upper (uB hb5)).upper (upper_set (w := w5) (g := w.heap.size + 1 + 1) (i := 26) (.slice (some ⟨g5, 0, none⟩) d.an d.an)))
  have HE5 := iH he5
  have HTn : Hd (TS w (w5.setCell ⟨w.heap.size + 1 + 1, 26, none⟩ (.slice (some ⟨g5, 0, none⟩) d.an d.an)) d.cl zUl (uL d.k y1 y2.d y3 (.slice g4 y4.length c4) (.slice (some ⟨g5, 0, none⟩) d.an d.an) (.slice none 0 0))) := HT.o.set 26 _
  have st0 := (HT.o.ox.2 26 _ rfl).1
  have st1 := (HT.o.ox.2 26 _ rfl).2
  clear hy5 hw5 hz5 he5 hb5 e3 Z5 HZ5 ld
  go_upto_region 8 with fail
  clear st0 st1 HT
  generalize (w5.setCell ⟨w.heap.size + 1 + 1, 26, none⟩ (.slice (some ⟨g5, 0, none⟩) d.an d.an)) = W5 at *
  have HT := HTn
  clear HTn
  have ld := HT.o.px.2 27 _ rfl
  have Z6 := HZ6.o
  go_wp2_with fail
  refine (Z6 _ HT.o.bl).mono ?_
  rintro e w6 ⟨g6, k6, rfl, hy6, hw6, hz6, he6, hb6⟩
  have e3 := HT.o.base
  have HT := iH (HT.o.below hb6)
  have HM6 := iH ((hy6.base e3).upper (upper_set (w := w6) (g := w.heap.size + 1 + 1) (i := 27) (.slice (some ⟨g6, 0, none⟩) d.bn d.bn)))
  have HW6 := iH ((hw6.base e3).upper (upper_set (w := w6) (g := w.heap.size + 1 + 1) (i := 27) (.slice (some ⟨g6, 0, none⟩) d.bn d.bn)))
  have HL6 := iH (fun i (hi : i < d.bn) => ((fun i hi => (hz6 i hi).base e3) i hi).upper (upper_set (w := w6) (g := w.heap.size + 1 + 1) (i := 27) (.slice (some ⟨g6, 0, none⟩) d.bn d.bn)))
  have HM5 := iH ((HM5.o.upper (uB hb6)).upper (upper_set (w := w6) (g := w.heap.size + 1 + 1) (i := 27) (.slice (some ⟨g6, 0, none⟩) d.bn d.bn)))
  have HW5 := iH ((HW5.o.upper (uB hb6)).upper (upper_set (w := w6) (g := w.heap.size + 1 + 1) (i := 27) (.slice (some ⟨g6, 0, none⟩) d.bn d.bn)))
  have HL5 := iH (fun i (hi : i < d.an) => ((fun i hi => (HL5.o i hi).upper (uB hb6)) i hi).upper (upper_set (w := w6) (g := w.heap.size + 1 + 1) (i := 27) (.slice (some ⟨g6, 0, none⟩) d.bn d.bn)))
  have HM4 := iH ((HM4.o.upper (uB hb6)).upper (upper_set (w := w6) (g := w.heap.size + 1 + 1) (i := 27) (.slice (some ⟨g6, 0, none⟩) d.bn d.bn)))
  have HW4 := iH ((HW4.o.upper (uB hb6)).upper (upper_set (w := w6) (g := w.heap.size + 1 + 1) (i := 27) (.slice (some ⟨g6, 0, none⟩) d.bn d.bn)))
  have HM3 := iH ((HM3.o.upper (uB hb6)).upper (upper_set (w := w6) (g := w.heap.size + 1 + 1) (i := 27) (.slice (some ⟨g6, 0, none⟩) d.bn d.bn)))
  have HM2 := iH ((HM2.o.upper (uB hb6)).upper (upper_set (w := w6) (g := w.heap.size + 1 + 1) (i := 27) (.slice (some ⟨g6, 0, none⟩) d.bn d.bn)))
  have HM1 := iH ((HM1.o.upper (uB hb6)).upper (upper_set (w := w6) (g := w.heap.size + 1 + 1) (i := 27) (.slice (some ⟨g6, 0, none⟩) d.bn d.bn)))
  have HE6 := iH he6
  have HTn : Hd (TS w (w6.setCell ⟨w.heap.size + 1 + 1, 27, none⟩ (.slice (some ⟨g6, 0, none⟩) d.bn d.bn)) d.cl zUl (uL d.k y1 y2.d y3 (.slice g4 y4.length c4) (.slice (some ⟨g5, 0, none⟩) d.an d.an) (.slice (some ⟨g6, 0, none⟩) d.bn d.bn))) := HT.o.set 27 _
  have st0 := (HT.o.ox.2 27 _ rfl).1
  have st1 := (HT.o.ox.2 27 _ rfl).2
  clear hy6 hw6 hz6 he6 hb6 e3 Z6 HZ6 ld
  go_upto_region 9 with fail
  clear st0 st1 HT
  generalize (w6.setCell ⟨w.heap.size + 1 + 1, 27, none⟩ (.slice (some ⟨g6, 0, none⟩) d.bn d.bn)) = W6 at *
  have HT := HTn
  clear HTn
  have ld : W6.rangeAt (w.heap.size + 1 + 1) 0 (uL d.k y1 y2.d y3 (.slice g4 y4.length c4) (.slice (some ⟨g5, 0, none⟩) d.an d.an) (.slice (some ⟨g6, 0, none⟩) d.bn d.bn)) := HT.o.ox.box.range 0 _ rfl
  have st0 := HT.o.rz.there 0 28 (by simp)
  have one1 := all_oneCell_toArray (cs := (uL d.k y1 y2.d y3 (.slice g4 y4.length c4) (.slice (some ⟨g5, 0, none⟩) d.an d.an) (.slice (some ⟨g6, 0, none⟩) d.bn d.bn))) (by simp [Value.oneCell'])
  go_wp2_with (first | (refine ldm Tryz.underlying103 ld ?_; try simp only [Act.put, sA, zA, cA]) | (refine wpList_store_mid rfl 103 _ _ rfl (w.heap.size + 1) 0 (uA d.k y1 y2.d y3 (.slice g4 y4.length c4) (.slice (some ⟨g5, 0, none⟩) d.an d.an) (.slice (some ⟨g6, 0, none⟩) d.bn d.bn)) rfl rfl st0 (by kernel_rfl) one1 ?_; try simp only [Act.put]))
  have hrd : (W6.setCells (w.heap.size + 1) 0 (uL d.k y1 y2.d y3 (.slice g4 y4.length c4) (.slice (some ⟨g5, 0, none⟩) d.an d.an) (.slice (some ⟨g6, 0, none⟩) d.bn d.bn))).rangeAt (w.heap.size + 1) 0 (uL d.k y1 y2.d y3 (.slice g4 y4.length c4) (.slice (some ⟨g5, 0, none⟩) d.an d.an) (.slice (some ⟨g6, 0, none⟩) d.bn d.bn)) := World.rangeAt_setCells_same _ _ _ _ st0
  refine bodyPost_ret (v := .agg (uA d.k y1 y2.d y3 (.slice g4 y4.length c4) (.slice (some ⟨g5, 0, none⟩) d.an d.an) (.slice (some ⟨g6, 0, none⟩) d.bn d.bn))) ?hr rfl ?hp
  case hr => exact results_cell rfl rfl (run_loadVar_mid (P := Tryz.prog) _ (w.heap.size + 1) 0 103 (uL d.k y1 y2.d y3 (.slice g4 y4.length c4) (.slice (some ⟨g5, 0, none⟩) d.an d.an) (.slice (some ⟨g6, 0, none⟩) d.bn d.bn)) _ hrd Tryz.underlying103 rfl (by kernel_rfl))
  have HM6f : KRow w.heap.size (W6.setCells (w.heap.size + 1) 0 (uL d.k y1 y2.d y3 (.slice g4 y4.length c4) (.slice (some ⟨g5, 0, none⟩) d.an d.an) (.slice (some ⟨g6, 0, none⟩) d.bn d.bn))) 28 (some ⟨g6, 0, none⟩) d.bn (fun i => (k6 i).d.cells) := ((HM6.o.upper ((upper_sets _ _ 0 W6).mono (by omega))).base (by omega))
  have HW6f : FrW w.heap.size (W6.setCells (w.heap.size + 1) 0 (uL d.k y1 y2.d y3 (.slice g4 y4.length c4) (.slice (some ⟨g5, 0, none⟩) d.an d.an) (.slice (some ⟨g6, 0, none⟩) d.bn d.bn))) g6 (d.bn * 28) := ((HW6.o.upper ((upper_sets _ _ 0 W6).mono (by omega))).base (by omega))
  have HL6f : ∀ i, i < d.bn → (k6 i).own w.heap.size (W6.setCells (w.heap.size + 1) 0 (uL d.k y1 y2.d y3 (.slice g4 y4.length c4) (.slice (some ⟨g5, 0, none⟩) d.an d.an) (.slice (some ⟨g6, 0, none⟩) d.bn d.bn))) := (fun i hi => ((fun i hi => (HL6.o i hi).upper ((upper_sets _ _ 0 W6).mono (by omega))) i hi).base (by omega))
  have HM5f : KRow w.heap.size (W6.setCells (w.heap.size + 1) 0 (uL d.k y1 y2.d y3 (.slice g4 y4.length c4) (.slice (some ⟨g5, 0, none⟩) d.an d.an) (.slice (some ⟨g6, 0, none⟩) d.bn d.bn))) 28 (some ⟨g5, 0, none⟩) d.an (fun i => (k5 i).d.cells) := ((HM5.o.upper ((upper_sets _ _ 0 W6).mono (by omega))).base (by omega))
  have HW5f : FrW w.heap.size (W6.setCells (w.heap.size + 1) 0 (uL d.k y1 y2.d y3 (.slice g4 y4.length c4) (.slice (some ⟨g5, 0, none⟩) d.an d.an) (.slice (some ⟨g6, 0, none⟩) d.bn d.bn))) g5 (d.an * 28) := ((HW5.o.upper ((upper_sets _ _ 0 W6).mono (by omega))).base (by omega))
  have HL5f : ∀ i, i < d.an → (k5 i).own w.heap.size (W6.setCells (w.heap.size + 1) 0 (uL d.k y1 y2.d y3 (.slice g4 y4.length c4) (.slice (some ⟨g5, 0, none⟩) d.an d.an) (.slice (some ⟨g6, 0, none⟩) d.bn d.bn))) := (fun i hi => ((fun i hi => (HL5.o i hi).upper ((upper_sets _ _ 0 W6).mono (by omega))) i hi).base (by omega))
  have HM4f : TRowF w.heap.size (W6.setCells (w.heap.size + 1) 0 (uL d.k y1 y2.d y3 (.slice g4 y4.length c4) (.slice (some ⟨g5, 0, none⟩) d.an d.an) (.slice (some ⟨g6, 0, none⟩) d.bn d.bn))) g4 y4 := ((HM4.o.upper ((upper_sets _ _ 0 W6).mono (by omega))).base (by omega))
  have HW4f : TsW w.heap.size (W6.setCells (w.heap.size + 1) 0 (uL d.k y1 y2.d y3 (.slice g4 y4.length c4) (.slice (some ⟨g5, 0, none⟩) d.an d.an) (.slice (some ⟨g6, 0, none⟩) d.bn d.bn))) g4 y4 := ((HW4.o.upper ((upper_sets _ _ 0 W6).mono (by omega))).base (by omega))
  have HM3f : y3.own w.heap.size (W6.setCells (w.heap.size + 1) 0 (uL d.k y1 y2.d y3 (.slice g4 y4.length c4) (.slice (some ⟨g5, 0, none⟩) d.an d.an) (.slice (some ⟨g6, 0, none⟩) d.bn d.bn))) := ((HM3.o.upper ((upper_sets _ _ 0 W6).mono (by omega))).base (by omega))
  have HM2f : y2.own w.heap.size (W6.setCells (w.heap.size + 1) 0 (uL d.k y1 y2.d y3 (.slice g4 y4.length c4) (.slice (some ⟨g5, 0, none⟩) d.an d.an) (.slice (some ⟨g6, 0, none⟩) d.bn d.bn))) := ((HM2.o.upper ((upper_sets _ _ 0 W6).mono (by omega))).base (by omega))
  have HM1f : y1.own w.heap.size (W6.setCells (w.heap.size + 1) 0 (uL d.k y1 y2.d y3 (.slice g4 y4.length c4) (.slice (some ⟨g5, 0, none⟩) d.an d.an) (.slice (some ⟨g6, 0, none⟩) d.bn d.bn))) := ((HM1.o.upper ((upper_sets _ _ 0 W6).mono (by omega))).base (by omega))
  have hbf : Bl w (W6.setCells (w.heap.size + 1) 0 (uL d.k y1 y2.d y3 (.slice g4 y4.length c4) (.slice (some ⟨g5, 0, none⟩) d.an d.an) (.slice (some ⟨g6, 0, none⟩) d.bn d.bn))) := below_sets _ (by omega) _ _ _ HT.o.bl
  have hl4 : y4.length ≤ 1048576 := by have h := congrArg List.length HE4.o; simp at h; have := HTN.o; omega
  exact ⟨UT.mk ⟨d.k, y1, y2, y3, g4, c4, y4, some _, d.an, d.an, some _, d.bn, d.bn⟩ k5 k6, rfl, ⟨⟨HM1f.lies, HM2f.1, HM3f.1, HM4f, hl4, ⟨HAN.o, HM5f⟩, ⟨HBN.o, HM6f⟩, fun i hi => (HL5f i hi).1, fun i hi => (HL6f i hi).1⟩, HM1f, HM2f.2, HM3f.2, HW4f, ⟨g5, rfl, HW5f⟩, ⟨g6, rfl, HW6f⟩, ⟨nR, nR⟩, fun i hi => (HL5f i hi).2, fun i hi => (HL6f i hi).2⟩, ⟨rfl, HE1.o, HE2.o, HE3.o, HE4.o, ⟨rfl, HE5.o⟩, rfl, HE6.o⟩, hbf⟩
end Go.Proofs.YthljoojcpbignaaGreatDoor
