import Derived.Test.YtoloadogihbdeaaGreatMk11
namespace Go.Proofs.YtoloadogihbdeaaGreat
open Go.RowKit Go.Deep
set_option maxHeartbeats 40000000
set_option maxRecDepth 100000
variable {e : AT} {B B' : Nat} {d : PN} {w w' : World}
def AT.wr (B : Nat) (w : World) : AT → Prop
 | .nil => False
 | .mk d kid => RoW B w d.pa (d.pn * 15) ∧ (∀ i, i < d.pn → (d.pat i).own B w) ∧ d.e.wr B w ∧ TxW B w d.v ∧ TsW B w d.ta d.tb ∧ RoW B w d.ka (d.n * 13) ∧ ∀ i, i < d.n → (kid i).wr B w
theorem AT.wr.upper (h : e.wr B w) (hu : Upper B w w') : e.wr B w' := by
 induction e with
 | nil => exact False.elim h
 | mk d kid ih =>
  obtain ⟨g1, g2, h2, h3, h4, h5, h6⟩ := h;exact ⟨g1.upper hu, fun i hi => (g2 i hi).upper hu, h2.upper hu, h3.upper hu, h4.upper hu, h5.upper hu, fun i hi => ih i (h6 i hi)⟩
theorem AT.wr.base (h : e.wr B w) (hB : B' ≤ B) : e.wr B' w := by
 induction e with
 | nil => exact False.elim h
 | mk d kid ih =>
  obtain ⟨g1, g2, h2, h3, h4, h5, h6⟩ := h;exact ⟨g1.base hB, fun i hi => (g2 i hi).base hB, h2.base hB, h3.base hB, h4.base hB, h5.base hB, fun i hi => ih i (h6 i hi)⟩
def AT.own (B : Nat) (w : World) (e : AT) : Prop := e.lies B w ∧ e.wr B w
theorem AT.own.upper (h : e.own B w) (hu : Upper B w w') : e.own B w' := ⟨AT.lies.upper hu h.1, h.2.upper hu⟩
theorem AT.own.base (h : e.own B w) (hB : B' ≤ B) : e.own B' w := ⟨AT.lies.base hB h.1, h.2.base hB⟩
theorem run_make_toPatSW (n : Nat) (hn : n ≤ 1048576) (w : World) :
 (Instr.makeSlice 49 (.int .i64 (n : Int)) (.int .i64 (n : Int))).run Tryz.prog w = .ok (.slice (some ⟨w.heap.size, 0, none⟩) n n) (w.alloc (.cells (madeCells zPa (n * 15)) 39)) := by
 have hi0 : (Tryz.prog.info? 39).map (fun i => (i.zero, i.size, i.bytes)) = some (some (.agg zPa), 15, 216) := by kernel_rfl
 obtain ⟨i, hi, hzz⟩ := Option.map_eq_some_iff.1 hi0;simp only [Prod.mk.injEq] at hzz;obtain ⟨hz, hs, hb⟩ := hzz;have hr := run_make (P := Tryz.prog) w 49 39 i _ Tryz.underlying49 hi hz .i64 .i64 n n (by omega) (Int.le_refl _) (by rw [hb]; omega) (by omega);simp only [Int.toNat_natCast, hs, Value.cells] at hr;exact hr
def CptoPatSW (w : World) (n : Nat) (kid : Nat → PB) (e : Ending) (w' : World) : Prop := ∃ (g : Nat) (k' : Nat → PB), e = .returned (.slice (some ⟨g, 0, none⟩) n n) ∧ KRow w.heap.size w' 15 (some ⟨g, 0, none⟩) n (fun i => (k' i).cells) ∧ FrW w.heap.size w' g (n * 15) ∧ (∀ i, i < n → (k' i).own w.heap.size w') ∧ (∀ i, i < n → (kid i).same (k' i)) ∧ Bl w w'
theorem toPatSW (a : Option Addr) (cap n : Nat) (kid : Nat → PB) (w : World) (hn : n ≤ 1048576) (hR : KRow 0 w 15 a n (fun i => (kid i).cells))
 (IH : ∀ i, i < n → ∀ (W : World), Bl w W → Calls Tryz.prog 63 #[.agg (kid i).ar] W fun e w' => ∃ y : PB, e = .returned (.agg y.ar) ∧ y.own W.heap.size w' ∧ (kid i).same y ∧ Bl W w') :
 Calls Tryz.prog 31 #[.slice a n cap] w (CptoPatSW w n kid) := by
 try unfold PB.ar PB.cl
 have hmk := run_make_toPatSW n hn;by_cases hn0 : n = 0
 · subst hn0
   have hmk0 := fun w => by simpa using hmk w
   clear hmk hR IH hn;go_in;go_wp2;refine wl1 ?_;go_wp2;go_ret;exact ⟨w.heap.size, kid, rfl, .inl rfl, .inl (by simp), fun i hi => absurd hi nN, fun i hi => absurd hi nN, bl_a _⟩
 obtain ⟨b, off, rfl, _, hlt, hc⟩ := hR.resolve_left hn0;have HC := iH hc;have HI := iH IH;have HTH : Hd ((w.alloc (.cells (madeCells zPa (n * 15)) 39)).there w.heap.size 0 (n * 15)) := fun j hj => by
  have hs := size_madeCells zPa (n * 15);have h := OB.new w (madeCells zPa (n * 15)) 39;have h2 := h.2 (0 + j) _ (List.getElem?_eq_getElem (by rw [Array.length_toList, hs]; omega));exact ⟨by rw [h2.1]; rfl, h2.2⟩
 clear hR hc IH;go_in;go_wp2;go_loopw [4] (fun i wr => ∃ (k : Nat) (f : Nat → PB), k ≤ n ∧ i = .int .i64 k ∧ Hd (wr.there w.heap.size 0 (n * 15)) ∧ Hd (∀ j, j < k → wr.rangeAt w.heap.size (j * 15) ((f j).cells)) ∧ Hd (∀ j, j < k → (f j).own (w.heap.size + 1) wr) ∧ Hd (∀ j, j < k → (kid j).same (f j)) ∧ Hd (Bl w wr) ∧ Hd (w.heap.size < wr.heap.size))
  (fun i _ => n - (intOf i).toNat)
 case atStart => exact ⟨0, kid, nZ, rfl, HTH, fun j hj => absurd hj nN, fun j hj => absurd hj nN, fun j hj => absurd hj nN, bl_a _, (show w.heap.size < _ by simp)⟩
 obtain ⟨k, f, hk, rfl, HX, HR, HL, HS, HB, HZ⟩ := hrel;clear hmk HTH;by_cases hlk : k < n
 · have hlkz : (k : Int) < (n : Int) := by omega
   have hcx := fun c u (hu : ((kid k).cells)[c]? = some u) => (HB.o.cell (p := ⟨b, off + k * 15 + c, none⟩) hlt).trans (HC.o k hlk c u hu);have Z := HI.o k hlk;go_wp2_with (refine wpList_load_mid rfl 65 _ rfl b (off + k * 15) rfl (kid k).cl _ hcx Tryz.underlying65 rfl (by kernel_rfl) ?_; try simp only [Act.put, sA, zA, cA])
   refine (Z _ HB.o).mono ?_;rintro e w2 ⟨y, rfl, hy, he, hb2⟩;have hkz : k * 15 + 15 ≤ n * 15 := by rw [← Nat.succ_mul]; exact Nat.mul_le_mul_right _ hlk
   have hth : w2.there w.heap.size (k * 15) 15 := fun j hj => by
    have h := HX.o (k * 15 + j) (by omega);rw [Nat.zero_add] at h;exact ⟨by rw [hb2.cell (p := ⟨w.heap.size, k * 15 + j, none⟩) HZ.o]; exact h.1, (hb2.frozen (p := ⟨w.heap.size, k * 15 + j, none⟩) HZ.o).trans h.2⟩
   have HN1 : Hd ((w2.setCells w.heap.size (k * 15) y.cl).there w.heap.size 0 (n * 15)) := World.there_setCells (fun j hj => ⟨by rw [hb2.cell (p := ⟨w.heap.size, 0 + j, none⟩) HZ.o]; exact (HX.o j hj).1, (hb2.frozen (p := ⟨w.heap.size, 0 + j, none⟩) HZ.o).trans (HX.o j hj).2⟩) _ _ _;have hlen : (y.cl : List Value).length = 15 := rfl;have HN2 : Hd (∀ j, j < k + 1 → (w2.setCells w.heap.size (k * 15) y.cl).rangeAt w.heap.size (j * 15) ((if j = k then y else f j).cells)) := fun j hj => by
    by_cases e : j = k
    · subst e
      rw [if_pos rfl];exact World.rangeAt_setCells_same w2 w.heap.size (j * 15) y.cl (by rw [hlen]; exact hth)
    rw [if_neg e];have hjk : j * 15 + 15 ≤ k * 15 := by rw [← Nat.succ_mul]; exact Nat.mul_le_mul_right _ (by omega)
    refine World.rangeAt_setCells_apart (fun c u hu => (hb2.cell (p := ⟨w.heap.size, j * 15 + c, none⟩) HZ.o).trans (HR.o j (by omega) c u hu)) _ _ _ (.inr (.inl ?_));show j * 15 + 15 ≤ _;exact hjk
   have hu3 : Upper (w.heap.size + 1) w2 (w2.setCells w.heap.size (k * 15) y.cl) := upper_sets _ _ _ _;have HN3 : Hd (∀ j, j < k + 1 → (if j = k then y else f j).own (w.heap.size + 1) (w2.setCells w.heap.size (k * 15) y.cl)) := fun j hj => by
    by_cases e : j = k
    · rw [if_pos e]
      exact ((hy).base HZ.o).upper hu3
    rw [if_neg e];exact ((HL.o j (by omega)).upper (uB hb2)).upper hu3
   have HN4 : Hd (∀ j, j < k + 1 → (kid j).same (if j = k then y else f j)) := fun j hj => by
    by_cases e : j = k
    · rw [if_pos e, e]
      exact he
    rw [if_neg e];exact HS.o j (by omega)
   have HN5 : Hd (Bl w (w2.setCells w.heap.size (k * 15) y.cl)) := below_sets _ nR _ _ _ (bl_trans HB.o hb2);have HN6 := iH (Nat.lt_of_lt_of_le (Nat.lt_of_lt_of_le HZ.o hb2.size) hu3.size);have one1 := all_oneCell_toArray (cs := y.cl) (by simp [Value.oneCell']);clear Z hcx hy he hb2 hu3 hlen hkz HX HR HL HS HB HZ;go_upto_region 4 with (refine wpList_store_mid rfl 39 _ _ rfl w.heap.size (k * 15) y.ar rfl rfl hth (by kernel_rfl) one1 ?_; try simp only [Act.put])
   clear hth one1;go_wp2;go_roundw
   case rel => exact ⟨k + 1, fun j => if j = k then y else f j, by omega, by go_num, HN1, HN2, HN3, HN4, HN5, HN6⟩
   case measure => simp [intOf]; omega
 obtain rfl : k = n := by omega
 have hlkz : ¬ (k : Int) < (k : Int) := by omega
 go_wp2;go_ret;exact ⟨w.heap.size, f, rfl, .inr ⟨w.heap.size, 0, rfl, nR, HZ.o, fun i hi c u hu => by rw [Nat.zero_add]; exact HR.o i hi c u hu⟩, .inr ⟨nR, HZ.o, fun j hj => by have h := (HX.o j hj).2; rwa [Nat.zero_add] at h⟩, fun i hi => (HL.o i hi).base (Nat.le_succ _), HS.o, HB.o⟩
theorem run_make_toAlgSW (n : Nat) (hn : n ≤ 1048576) (w : World) :
 (Instr.makeSlice 50 (.int .i64 (n : Int)) (.int .i64 (n : Int))).run Tryz.prog w = .ok (.slice (some ⟨w.heap.size, 0, none⟩) n n) (w.alloc (.cells (madeCells zGa (n * 13)) 52)) := by
 have hi0 : (Tryz.prog.info? 52).map (fun i => (i.zero, i.size, i.bytes)) = some (some (.agg zGa), 13, 216) := by kernel_rfl
 obtain ⟨i, hi, hzz⟩ := Option.map_eq_some_iff.1 hi0;simp only [Prod.mk.injEq] at hzz;obtain ⟨hz, hs, hb⟩ := hzz;have hr := run_make (P := Tryz.prog) w 50 52 i _ Tryz.underlying50 hi hz .i64 .i64 n n (by omega) (Int.le_refl _) (by rw [hb]; omega) (by omega);simp only [Int.toNat_natCast, hs, Value.cells] at hr;exact hr
def CptoAlgSW (w : World) (n : Nat) (kid : Nat → AT) (e : Ending) (w' : World) : Prop := ∃ (g : Nat) (k' : Nat → AT), e = .returned (.slice (some ⟨g, 0, none⟩) n n) ∧ KRow w.heap.size w' 13 (some ⟨g, 0, none⟩) n (fun i => (k' i).d.cells) ∧ FrW w.heap.size w' g (n * 13) ∧ (∀ i, i < n → (k' i).own w.heap.size w') ∧ (∀ i, i < n → (kid i).same (k' i)) ∧ Bl w w'
theorem toAlgSW (a : Option Addr) (cap n : Nat) (kid : Nat → AT) (w : World) (hn : n ≤ 1048576) (hR : KRow 0 w 13 a n (fun i => (kid i).d.cells))
 (IH : ∀ i, i < n → ∀ (W : World), Bl w W → Calls Tryz.prog 7 #[.agg (kid i).d.ar] W fun e w' => ∃ y : AT, e = .returned (.agg y.d.ar) ∧ y.own W.heap.size w' ∧ (kid i).same y ∧ Bl W w') :
 Calls Tryz.prog 35 #[.slice a n cap] w (CptoAlgSW w n kid) := by
 try unfold AN.ar AN.cl
 have hmk := run_make_toAlgSW n hn;by_cases hn0 : n = 0
 · subst hn0
   have hmk0 := fun w => by simpa using hmk w
   clear hmk hR IH hn;go_in;go_wp2;refine wl1 ?_;go_wp2;go_ret;exact ⟨w.heap.size, kid, rfl, .inl rfl, .inl (by simp), fun i hi => absurd hi nN, fun i hi => absurd hi nN, bl_a _⟩
 obtain ⟨b, off, rfl, _, hlt, hc⟩ := hR.resolve_left hn0;have HC := iH hc;have HI := iH IH;have HTH : Hd ((w.alloc (.cells (madeCells zGa (n * 13)) 52)).there w.heap.size 0 (n * 13)) := fun j hj => by
  have hs := size_madeCells zGa (n * 13);have h := OB.new w (madeCells zGa (n * 13)) 52;have h2 := h.2 (0 + j) _ (List.getElem?_eq_getElem (by rw [Array.length_toList, hs]; omega));exact ⟨by rw [h2.1]; rfl, h2.2⟩
 clear hR hc IH;go_in;go_wp2;go_loopw [4] (fun i wr => ∃ (k : Nat) (f : Nat → AT), k ≤ n ∧ i = .int .i64 k ∧ Hd (wr.there w.heap.size 0 (n * 13)) ∧ Hd (∀ j, j < k → wr.rangeAt w.heap.size (j * 13) ((f j).d.cells)) ∧ Hd (∀ j, j < k → (f j).own (w.heap.size + 1) wr) ∧ Hd (∀ j, j < k → (kid j).same (f j)) ∧ Hd (Bl w wr) ∧ Hd (w.heap.size < wr.heap.size))
  (fun i _ => n - (intOf i).toNat)
 case atStart => exact ⟨0, kid, nZ, rfl, HTH, fun j hj => absurd hj nN, fun j hj => absurd hj nN, fun j hj => absurd hj nN, bl_a _, (show w.heap.size < _ by simp)⟩
 obtain ⟨k, f, hk, rfl, HX, HR, HL, HS, HB, HZ⟩ := hrel;clear hmk HTH;by_cases hlk : k < n
 · have hlkz : (k : Int) < (n : Int) := by omega
   have hcx := fun c u (hu : ((kid k).d.cells)[c]? = some u) => (HB.o.cell (p := ⟨b, off + k * 13 + c, none⟩) hlt).trans (HC.o k hlk c u hu);have Z := HI.o k hlk;go_wp2_with (refine wpList_load_mid rfl 32 _ rfl b (off + k * 13) rfl (kid k).d.cl _ hcx Tryz.underlying32 rfl (by kernel_rfl) ?_; try simp only [Act.put, sA, zA, cA])
   refine (Z _ HB.o).mono ?_;rintro e w2 ⟨y, rfl, hy, he, hb2⟩;have hkz : k * 13 + 13 ≤ n * 13 := by rw [← Nat.succ_mul]; exact Nat.mul_le_mul_right _ hlk
   have hth : w2.there w.heap.size (k * 13) 13 := fun j hj => by
    have h := HX.o (k * 13 + j) (by omega);rw [Nat.zero_add] at h;exact ⟨by rw [hb2.cell (p := ⟨w.heap.size, k * 13 + j, none⟩) HZ.o]; exact h.1, (hb2.frozen (p := ⟨w.heap.size, k * 13 + j, none⟩) HZ.o).trans h.2⟩
   have HN1 : Hd ((w2.setCells w.heap.size (k * 13) y.d.cl).there w.heap.size 0 (n * 13)) := World.there_setCells (fun j hj => ⟨by rw [hb2.cell (p := ⟨w.heap.size, 0 + j, none⟩) HZ.o]; exact (HX.o j hj).1, (hb2.frozen (p := ⟨w.heap.size, 0 + j, none⟩) HZ.o).trans (HX.o j hj).2⟩) _ _ _;have hlen : (y.d.cl : List Value).length = 13 := rfl;have HN2 : Hd (∀ j, j < k + 1 → (w2.setCells w.heap.size (k * 13) y.d.cl).rangeAt w.heap.size (j * 13) ((if j = k then y else f j).d.cells)) := fun j hj => by
    by_cases e : j = k
    · subst e
      rw [if_pos rfl];exact World.rangeAt_setCells_same w2 w.heap.size (j * 13) y.d.cl (by rw [hlen]; exact hth)
    rw [if_neg e];have hjk : j * 13 + 13 ≤ k * 13 := by rw [← Nat.succ_mul]; exact Nat.mul_le_mul_right _ (by omega)
    refine World.rangeAt_setCells_apart (fun c u hu => (hb2.cell (p := ⟨w.heap.size, j * 13 + c, none⟩) HZ.o).trans (HR.o j (by omega) c u hu)) _ _ _ (.inr (.inl ?_));show j * 13 + 13 ≤ _;exact hjk
   have hu3 : Upper (w.heap.size + 1) w2 (w2.setCells w.heap.size (k * 13) y.d.cl) := upper_sets _ _ _ _;have HN3 : Hd (∀ j, j < k + 1 → (if j = k then y else f j).own (w.heap.size + 1) (w2.setCells w.heap.size (k * 13) y.d.cl)) := fun j hj => by
    by_cases e : j = k
    · rw [if_pos e]
      exact ((hy).base HZ.o).upper hu3
    rw [if_neg e];exact ((HL.o j (by omega)).upper (uB hb2)).upper hu3
   have HN4 : Hd (∀ j, j < k + 1 → (kid j).same (if j = k then y else f j)) := fun j hj => by
    by_cases e : j = k
    · rw [if_pos e, e]
      exact he
    rw [if_neg e];exact HS.o j (by omega)
   have HN5 : Hd (Bl w (w2.setCells w.heap.size (k * 13) y.d.cl)) := below_sets _ nR _ _ _ (bl_trans HB.o hb2);have HN6 := iH (Nat.lt_of_lt_of_le (Nat.lt_of_lt_of_le HZ.o hb2.size) hu3.size);have one1 := all_oneCell_toArray (cs := y.d.cl) (by simp [Value.oneCell']);clear Z hcx hy he hb2 hu3 hlen hkz HX HR HL HS HB HZ;go_upto_region 4 with (refine wpList_store_mid rfl 52 _ _ rfl w.heap.size (k * 13) y.d.ar rfl rfl hth (by kernel_rfl) one1 ?_; try simp only [Act.put])
   clear hth one1;go_wp2;go_roundw
   case rel => exact ⟨k + 1, fun j => if j = k then y else f j, by omega, by go_num, HN1, HN2, HN3, HN4, HN5, HN6⟩
   case measure => simp [intOf]; omega
 obtain rfl : k = n := by omega
 have hlkz : ¬ (k : Int) < (k : Int) := by omega
 go_wp2;go_ret;exact ⟨w.heap.size, f, rfl, .inr ⟨w.heap.size, 0, rfl, nR, HZ.o, fun i hi c u hu => by rw [Nat.zero_add]; exact HR.o i hi c u hu⟩, .inr ⟨nR, HZ.o, fun j hj => by have h := (HX.o j hj).2; rwa [Nat.zero_add] at h⟩, fun i hi => (HL.o i hi).base (Nat.le_succ _), HS.o, HB.o⟩
theorem toAlgW (e : AT) : ∀ (w : World), e.lies 0 w → Calls Tryz.prog 7 #[.agg e.d.ar] w fun r w' => ∃ y : AT, r = .returned (.agg y.d.ar) ∧ y.own w.heap.size w' ∧ e.same y ∧ Bl w w' := by
 induction e with
 | nil => exact fun _ h => False.elim h
 | mk d kid ih =>
  intro w h;show Calls Tryz.prog 7 #[.agg d.ar] w fun r w' => ∃ y : AT, r = .returned (.agg y.d.ar) ∧ y.own w.heap.size w' ∧ (AT.mk d kid).same y ∧ Bl w w';obtain ⟨hrp, hpl, hpn, he, hv, ht, htn, hn, hR, hk⟩ := h;have HZ1 : Hd (∀ (W : World), Bl w W → Cl 31 #[.slice d.pa d.pn d.pc] W fun e w' => ∃ (g : Nat) (k' : Nat → PB), e = .returned (.slice (some ⟨g, 0, none⟩) d.pn d.pn) ∧ KRow W.heap.size w' 15 (some ⟨g, 0, none⟩) d.pn (fun i => (k' i).cells) ∧ FrW W.heap.size w' g (d.pn * 15) ∧ (∀ i, i < d.pn → (k' i).own W.heap.size w') ∧ (∀ i, i < d.pn → (d.pat i).same (k' i)) ∧ Bl W w') := fun W hb => toPatSW _ _ _ _ W hpn (hrp.upper (uB hb)) fun i hi W' hW => toPatW _ W' ((hpl i hi).upper (uB (bl_trans hb hW)));have HZ2 := iH (fun (W : World) (hb : Below _ w W) => toExprW d.e W (ET.lies.upper (uB hb) he));have HZ3 := iH (fun (W : World) (hb : Below _ w W) => toByteSW d.v W (hv.upper (uB hb)));have HZ4 := iH (fun (W : World) (hb : Below _ w W) => toTermSW _ d.tc _ W htn (ht.upper (uB hb)));have HZ5 : Hd (∀ (W : World), Bl w W → Cl 35 #[.slice d.ka d.n d.kc] W fun e w' => ∃ (g : Nat) (k' : Nat → AT), e = .returned (.slice (some ⟨g, 0, none⟩) d.n d.n) ∧ KRow W.heap.size w' 13 (some ⟨g, 0, none⟩) d.n (fun i => (k' i).d.cells) ∧ FrW W.heap.size w' g (d.n * 13) ∧ (∀ i, i < d.n → (k' i).own W.heap.size w') ∧ (∀ i, i < d.n → (kid i).same (k' i)) ∧ Bl W w') := fun W hb => toAlgSW _ _ d.n kid W hn (hR.upper (uB hb)) fun i hi W' hW => ih i W' (AT.lies.upper (uB (bl_trans hb hW)) (hk i hi));have HN := iH hn;have HPN := iH hpn;have HTN := iH htn;clear hrp hpl hpn he hv ht htn hn hR hk ih;go_in;have Z1 := HZ1.o;go_wp2_with fail
  refine (Z1 _ (bl_alloc (bl_alloc (bl_a _) _) _)).mono ?_;rintro e w1 ⟨g1, k1, rfl, hy1, hw1, hz1, he1, hb1⟩;have HT := iH ((TS.new w _ _ _ 32 52 52).below hb1);have e3 : (w.heap.size + 1 + 1 + 1) ≤ (((w.alloc (.cells d.ar 32)).alloc (.cells zGa 52)).alloc (.cells (fA d.k (.slice none 0 0) (.slice none 0 0) (.slice none 0 0) (.slice none 0 0)) 52)).heap.size := by simp
  have HM1 := iH ((hy1.base e3).upper (upper_set (w := w1) (g := w.heap.size + 1 + 1) (i := 1) (.slice (some ⟨g1, 0, none⟩) d.pn d.pn)));have HW1 := iH ((hw1.base e3).upper (upper_set (w := w1) (g := w.heap.size + 1 + 1) (i := 1) (.slice (some ⟨g1, 0, none⟩) d.pn d.pn)));have HL1 := iH (fun i (hi : i < d.pn) => ((fun i hi => (hz1 i hi).base e3) i hi).upper (upper_set (w := w1) (g := w.heap.size + 1 + 1) (i := 1) (.slice (some ⟨g1, 0, none⟩) d.pn d.pn)));have HE1 := iH he1;have HTn : Hd (TS w (w1.setCell ⟨w.heap.size + 1 + 1, 1, none⟩ (.slice (some ⟨g1, 0, none⟩) d.pn d.pn)) d.cl zGl (fL d.k (.slice (some ⟨g1, 0, none⟩) d.pn d.pn) (.slice none 0 0) (.slice none 0 0) (.slice none 0 0))) := HT.o.set 1 _;have st0 := (HT.o.ox.2 1 _ rfl).1;have st1 := (HT.o.ox.2 1 _ rfl).2;clear hy1 hw1 hz1 he1 hb1 e3 Z1 HZ1;go_upto_region 4 with fail
  clear st0 st1 HT;generalize w1.setCell _ _ = W1 at *;have HT := HTn;clear HTn;have ld : W1.rangeAt w.heap.size 2 d.e.d.cl := HT.o.px.range 2 _ rfl;have Z2 := HZ2.o;go_wp2_with (refine ldn Tryz.underlying28 ld ?_)
  refine (Z2 _ HT.o.bl).mono ?_;rintro e w2 ⟨y2, rfl, hy2, he2, hb2⟩;have e3 := HT.o.base;have HT := iH (HT.o.below hb2);have HM2 := iH ((hy2.base e3).upper (upper_sets (w.heap.size + 1 + 1) y2.d.cl 2 w2));have HM1 := iH ((HM1.o.upper (uB hb2)).upper (upper_sets (w.heap.size + 1 + 1) y2.d.cl 2 w2));have HW1 := iH ((HW1.o.upper (uB hb2)).upper (upper_sets (w.heap.size + 1 + 1) y2.d.cl 2 w2));have HL1 := iH (fun i (hi : i < d.pn) => ((fun i hi => (HL1.o i hi).upper (uB hb2)) i hi).upper (upper_sets (w.heap.size + 1 + 1) y2.d.cl 2 w2));have HE2 := iH he2;have HTn : Hd (TS w (w2.setCells (w.heap.size + 1 + 1) 2 y2.d.cl) d.cl zGl (gVL d.k (.slice (some ⟨g1, 0, none⟩) d.pn d.pn) y2.d (.slice none 0 0) (.slice none 0 0) (.slice none 0 0))) := HT.o.sets 2 _;have st0 := HT.o.ox.there 2 8 (by simp);have one1 := all_oneCell_toArray (cs := y2.d.cl) (by simp [Value.oneCell']);clear hy2 he2 hb2 e3 Z2 HZ2 ld;go_upto_region 5 with (refine wpList_store_mid rfl 42 _ _ rfl (w.heap.size + 1 + 1) 2 y2.d.ar rfl rfl st0 (by kernel_rfl) one1 ?_; try simp only [Act.put])
  clear st0 one1 HT;generalize w2.setCells _ _ _ = W2 at *;have HT := HTn;clear HTn;have ld := HT.o.px.2 10 _ rfl;have Z3 := HZ3.o;go_wp2_with fail
  refine (Z3 _ HT.o.bl).mono ?_;rintro e w3 ⟨y3, rfl, hy3, he3, hb3⟩;have e3 := HT.o.base;have HT := iH (HT.o.below hb3);have HM3 := iH ((hy3.base e3).upper (upper_set (w := w3) (g := w.heap.size + 1 + 1) (i := 10) (.slice y3.a y3.len y3.cap)));have HM2 := iH ((HM2.o.upper (uB hb3)).upper (upper_set (w := w3) (g := w.heap.size + 1 + 1) (i := 10) (.slice y3.a y3.len y3.cap)));have HM1 := iH ((HM1.o.upper (uB hb3)).upper (upper_set (w := w3) (g := w.heap.size + 1 + 1) (i := 10) (.slice y3.a y3.len y3.cap)));have HW1 := iH ((HW1.o.upper (uB hb3)).upper (upper_set (w := w3) (g := w.heap.size + 1 + 1) (i := 10) (.slice y3.a y3.len y3.cap)));have HL1 := iH (fun i (hi : i < d.pn) => ((fun i hi => (HL1.o i hi).upper (uB hb3)) i hi).upper (upper_set (w := w3) (g := w.heap.size + 1 + 1) (i := 10) (.slice y3.a y3.len y3.cap)));have HE3 := iH he3;have HTn : Hd (TS w (w3.setCell ⟨w.heap.size + 1 + 1, 10, none⟩ (.slice y3.a y3.len y3.cap)) d.cl zGl (gL d.k (.slice (some ⟨g1, 0, none⟩) d.pn d.pn) y2.d y3 (.slice none 0 0) (.slice none 0 0))) := HT.o.set 10 _;have st0 := (HT.o.ox.2 10 _ rfl).1;have st1 := (HT.o.ox.2 10 _ rfl).2;clear hy3 he3 hb3 e3 Z3 HZ3 ld;go_upto_region 6 with fail
  clear st0 st1 HT;generalize w3.setCell _ _ = W3 at *;have HT := HTn;clear HTn;have ld := HT.o.px.2 11 _ rfl;have Z4 := HZ4.o;go_wp2_with fail
  refine (Z4 _ HT.o.bl).mono ?_;rintro e w4 ⟨g4, c4, y4, rfl, hy4, hw4, he4, hb4⟩;have e3 := HT.o.base;have HT := iH (HT.o.below hb4);have HM4 := iH ((hy4.base e3).upper (upper_set (w := w4) (g := w.heap.size + 1 + 1) (i := 11) (.slice g4 y4.length c4)));have HW4 := iH ((hw4.base e3).upper (upper_set (w := w4) (g := w.heap.size + 1 + 1) (i := 11) (.slice g4 y4.length c4)));have HM3 := iH ((HM3.o.upper (uB hb4)).upper (upper_set (w := w4) (g := w.heap.size + 1 + 1) (i := 11) (.slice g4 y4.length c4)));have HM2 := iH ((HM2.o.upper (uB hb4)).upper (upper_set (w := w4) (g := w.heap.size + 1 + 1) (i := 11) (.slice g4 y4.length c4)));have HM1 := iH ((HM1.o.upper (uB hb4)).upper (upper_set (w := w4) (g := w.heap.size + 1 + 1) (i := 11) (.slice g4 y4.length c4)));have HW1 := iH ((HW1.o.upper (uB hb4)).upper (upper_set (w := w4) (g := w.heap.size + 1 + 1) (i := 11) (.slice g4 y4.length c4)));have HL1 := iH (fun i (hi : i < d.pn) => ((fun i hi => (HL1.o i hi).upper (uB hb4)) i hi).upper (upper_set (w := w4) (g := w.heap.size + 1 + 1) (i := 11) (.slice g4 y4.length c4)));have HE4 := iH he4;have HTn : Hd (TS w (w4.setCell ⟨w.heap.size + 1 + 1, 11, none⟩ (.slice g4 y4.length c4)) d.cl zGl (gL d.k (.slice (some ⟨g1, 0, none⟩) d.pn d.pn) y2.d y3 (.slice g4 y4.length c4) (.slice none 0 0))) := HT.o.set 11 _;have st0 := (HT.o.ox.2 11 _ rfl).1;have st1 := (HT.o.ox.2 11 _ rfl).2;clear hy4 hw4 he4 hb4 e3 Z4 HZ4 ld;go_upto_region 7 with fail
  clear st0 st1 HT;generalize w4.setCell _ _ = W4 at *;have HT := HTn;clear HTn;have ld := HT.o.px.2 12 _ rfl;have Z5 := HZ5.o;go_wp2_with fail
  refine (Z5 _ HT.o.bl).mono ?_;rintro e w5 ⟨g5, k5, rfl, hy5, hw5, hz5, he5, hb5⟩;have e3 := HT.o.base;have HT := iH (HT.o.below hb5);have HM5 := iH ((hy5.base e3).upper (upper_set (w := w5) (g := w.heap.size + 1 + 1) (i := 12) (.slice (some ⟨g5, 0, none⟩) d.n d.n)));have HW5 := iH ((hw5.base e3).upper (upper_set (w := w5) (g := w.heap.size + 1 + 1) (i := 12) (.slice (some ⟨g5, 0, none⟩) d.n d.n)));have HL5 := iH (fun i (hi : i < d.n) => ((fun i hi => (hz5 i hi).base e3) i hi).upper (upper_set (w := w5) (g := w.heap.size + 1 + 1) (i := 12) (.slice (some ⟨g5, 0, none⟩) d.n d.n)));have HM4 := iH ((HM4.o.upper (uB hb5)).upper (upper_set (w := w5) (g := w.heap.size + 1 + 1) (i := 12) (.slice (some ⟨g5, 0, none⟩) d.n d.n)));have HW4 := iH ((HW4.o.upper (uB hb5)).upper (upper_set (w := w5) (g := w.heap.size + 1 + 1) (i := 12) (.slice (some ⟨g5, 0, none⟩) d.n d.n)));have HM3 := iH ((HM3.o.upper (uB hb5)).upper (upper_set (w := w5) (g := w.heap.size + 1 + 1) (i := 12) (.slice (some ⟨g5, 0, none⟩) d.n d.n)));have HM2 := iH ((HM2.o.upper (uB hb5)).upper (upper_set (w := w5) (g := w.heap.size + 1 + 1) (i := 12) (.slice (some ⟨g5, 0, none⟩) d.n d.n)));have HM1 := iH ((HM1.o.upper (uB hb5)).upper (upper_set (w := w5) (g := w.heap.size + 1 + 1) (i := 12) (.slice (some ⟨g5, 0, none⟩) d.n d.n)));have HW1 := iH ((HW1.o.upper (uB hb5)).upper (upper_set (w := w5) (g := w.heap.size + 1 + 1) (i := 12) (.slice (some ⟨g5, 0, none⟩) d.n d.n)));have HL1 := iH (fun i (hi : i < d.pn) => ((fun i hi => (HL1.o i hi).upper (uB hb5)) i hi).upper (upper_set (w := w5) (g := w.heap.size + 1 + 1) (i := 12) (.slice (some ⟨g5, 0, none⟩) d.n d.n)));have HE5 := iH he5;have HTn : Hd (TS w (w5.setCell ⟨w.heap.size + 1 + 1, 12, none⟩ (.slice (some ⟨g5, 0, none⟩) d.n d.n)) d.cl zGl (gL d.k (.slice (some ⟨g1, 0, none⟩) d.pn d.pn) y2.d y3 (.slice g4 y4.length c4) (.slice (some ⟨g5, 0, none⟩) d.n d.n))) := HT.o.set 12 _;have st0 := (HT.o.ox.2 12 _ rfl).1;have st1 := (HT.o.ox.2 12 _ rfl).2;clear hy5 hw5 hz5 he5 hb5 e3 Z5 HZ5 ld;go_upto_region 8 with fail
  clear st0 st1 HT;generalize w5.setCell _ _ = W5 at *;have HT := HTn;clear HTn;have ld : W5.rangeAt (w.heap.size + 1 + 1) 0 (gL d.k (.slice (some ⟨g1, 0, none⟩) d.pn d.pn) y2.d y3 (.slice g4 y4.length c4) (.slice (some ⟨g5, 0, none⟩) d.n d.n)) := HT.o.ox.box.range 0 _ rfl;have st0 := HT.o.rz.there 0 13 (by simp);have one1 := all_oneCell_toArray (cs := (gL d.k (.slice (some ⟨g1, 0, none⟩) d.pn d.pn) y2.d y3 (.slice g4 y4.length c4) (.slice (some ⟨g5, 0, none⟩) d.n d.n))) (by simp [Value.oneCell']);go_wp2_with (first | (refine ldn Tryz.underlying52 ld ?_) | (refine wpList_store_mid rfl 52 _ _ rfl (w.heap.size + 1) 0 (gA d.k (.slice (some ⟨g1, 0, none⟩) d.pn d.pn) y2.d y3 (.slice g4 y4.length c4) (.slice (some ⟨g5, 0, none⟩) d.n d.n)) rfl rfl st0 (by kernel_rfl) one1 ?_; try simp only [Act.put]))
  have hrd : (W5.setCells (w.heap.size + 1) 0 (gL d.k (.slice (some ⟨g1, 0, none⟩) d.pn d.pn) y2.d y3 (.slice g4 y4.length c4) (.slice (some ⟨g5, 0, none⟩) d.n d.n))).rangeAt (w.heap.size + 1) 0 (gL d.k (.slice (some ⟨g1, 0, none⟩) d.pn d.pn) y2.d y3 (.slice g4 y4.length c4) (.slice (some ⟨g5, 0, none⟩) d.n d.n)) := World.rangeAt_setCells_same _ _ _ _ st0;refine bodyPost_ret (v := .agg (gA d.k (.slice (some ⟨g1, 0, none⟩) d.pn d.pn) y2.d y3 (.slice g4 y4.length c4) (.slice (some ⟨g5, 0, none⟩) d.n d.n))) ?hr rfl ?hp
  case hr => exact results_cell rfl rfl (run_loadVar_mid (P := Tryz.prog) _ (w.heap.size + 1) 0 52 (gL d.k (.slice (some ⟨g1, 0, none⟩) d.pn d.pn) y2.d y3 (.slice g4 y4.length c4) (.slice (some ⟨g5, 0, none⟩) d.n d.n)) _ hrd Tryz.underlying52 rfl (by kernel_rfl))
  have HM5f : KRow w.heap.size (W5.setCells (w.heap.size + 1) 0 (gL d.k (.slice (some ⟨g1, 0, none⟩) d.pn d.pn) y2.d y3 (.slice g4 y4.length c4) (.slice (some ⟨g5, 0, none⟩) d.n d.n))) 13 (some ⟨g5, 0, none⟩) d.n (fun i => (k5 i).d.cells) := ((HM5.o.upper ((upper_sets _ _ 0 W5).mono (by omega))).base (by omega));have HW5f : FrW w.heap.size (W5.setCells (w.heap.size + 1) 0 (gL d.k (.slice (some ⟨g1, 0, none⟩) d.pn d.pn) y2.d y3 (.slice g4 y4.length c4) (.slice (some ⟨g5, 0, none⟩) d.n d.n))) g5 (d.n * 13) := ((HW5.o.upper ((upper_sets _ _ 0 W5).mono (by omega))).base (by omega));have HL5f : ∀ i, i < d.n → (k5 i).own w.heap.size (W5.setCells (w.heap.size + 1) 0 (gL d.k (.slice (some ⟨g1, 0, none⟩) d.pn d.pn) y2.d y3 (.slice g4 y4.length c4) (.slice (some ⟨g5, 0, none⟩) d.n d.n))) := (fun i hi => ((fun i hi => (HL5.o i hi).upper ((upper_sets _ _ 0 W5).mono (by omega))) i hi).base (by omega));have HM4f : TRowF w.heap.size (W5.setCells (w.heap.size + 1) 0 (gL d.k (.slice (some ⟨g1, 0, none⟩) d.pn d.pn) y2.d y3 (.slice g4 y4.length c4) (.slice (some ⟨g5, 0, none⟩) d.n d.n))) g4 y4 := ((HM4.o.upper ((upper_sets _ _ 0 W5).mono (by omega))).base (by omega));have HW4f : TsW w.heap.size (W5.setCells (w.heap.size + 1) 0 (gL d.k (.slice (some ⟨g1, 0, none⟩) d.pn d.pn) y2.d y3 (.slice g4 y4.length c4) (.slice (some ⟨g5, 0, none⟩) d.n d.n))) g4 y4 := ((HW4.o.upper ((upper_sets _ _ 0 W5).mono (by omega))).base (by omega));have HM3f : y3.own w.heap.size (W5.setCells (w.heap.size + 1) 0 (gL d.k (.slice (some ⟨g1, 0, none⟩) d.pn d.pn) y2.d y3 (.slice g4 y4.length c4) (.slice (some ⟨g5, 0, none⟩) d.n d.n))) := ((HM3.o.upper ((upper_sets _ _ 0 W5).mono (by omega))).base (by omega));have HM2f : y2.own w.heap.size (W5.setCells (w.heap.size + 1) 0 (gL d.k (.slice (some ⟨g1, 0, none⟩) d.pn d.pn) y2.d y3 (.slice g4 y4.length c4) (.slice (some ⟨g5, 0, none⟩) d.n d.n))) := ((HM2.o.upper ((upper_sets _ _ 0 W5).mono (by omega))).base (by omega));have HM1f : KRow w.heap.size (W5.setCells (w.heap.size + 1) 0 (gL d.k (.slice (some ⟨g1, 0, none⟩) d.pn d.pn) y2.d y3 (.slice g4 y4.length c4) (.slice (some ⟨g5, 0, none⟩) d.n d.n))) 15 (some ⟨g1, 0, none⟩) d.pn (fun i => (k1 i).cells) := ((HM1.o.upper ((upper_sets _ _ 0 W5).mono (by omega))).base (by omega));have HW1f : FrW w.heap.size (W5.setCells (w.heap.size + 1) 0 (gL d.k (.slice (some ⟨g1, 0, none⟩) d.pn d.pn) y2.d y3 (.slice g4 y4.length c4) (.slice (some ⟨g5, 0, none⟩) d.n d.n))) g1 (d.pn * 15) := ((HW1.o.upper ((upper_sets _ _ 0 W5).mono (by omega))).base (by omega));have HL1f : ∀ i, i < d.pn → (k1 i).own w.heap.size (W5.setCells (w.heap.size + 1) 0 (gL d.k (.slice (some ⟨g1, 0, none⟩) d.pn d.pn) y2.d y3 (.slice g4 y4.length c4) (.slice (some ⟨g5, 0, none⟩) d.n d.n))) := (fun i hi => ((fun i hi => (HL1.o i hi).upper ((upper_sets _ _ 0 W5).mono (by omega))) i hi).base (by omega));have hbf : Bl w (W5.setCells (w.heap.size + 1) 0 (gL d.k (.slice (some ⟨g1, 0, none⟩) d.pn d.pn) y2.d y3 (.slice g4 y4.length c4) (.slice (some ⟨g5, 0, none⟩) d.n d.n))) := below_sets _ (by omega) _ _ _ HT.o.bl;have hl4 : y4.length ≤ 1048576 := by have h := congrArg List.length HE4.o; simp at h; have := HTN.o; omega
  exact ⟨AT.mk ⟨d.k, some ⟨g1, 0, none⟩, d.pn, d.pn, k1, y2, y3, g4, c4, y4, some ⟨g5, 0, none⟩, d.n, d.n⟩ k5, rfl, ⟨⟨HM1f, fun i hi => (HL1f i hi).lies, HPN.o, HM2f.1, HM3f.1, HM4f, hl4, HN.o, HM5f, fun i hi => (HL5f i hi).1⟩, ⟨g1, rfl, HW1f⟩, HL1f, HM2f.2, HM3f.2, HW4f, ⟨g5, rfl, HW5f⟩, fun i hi => (HL5f i hi).2⟩, ⟨rfl, rfl, HE1.o, HE2.o, HE3.o, HE4.o, rfl, HE5.o⟩, hbf⟩
theorem am_own {g o : Nat} (h : e.own B w) (hb : Bl w w') (hB : B ≤ g) (hC : g < w.heap.size) (cc : ∀ c u, (e.d.cells)[c]? = some u → w'.cell? ⟨g, o + c, none⟩ = some u) (ff : ∀ c, c < 13 → w'.frozen? ⟨g, o + c, none⟩ = false) : AM B w.heap.size w' g o e.d := by
 obtain ⟨hl, hw⟩ := h;cases e with
 | nil => exact False.elim hl
 | mk d kid =>
  obtain ⟨l1, l2, l3, l4, l5, l6, l7, l8, l9, l10⟩ := hl;obtain ⟨z1, z2, z3, z4, ⟨z5, z6⟩, z7, z8⟩ := hw;obtain ⟨⟨e1, e2⟩, e3, e4⟩ := et_oz ⟨l4, z3.wz⟩;have nn : ∀ q k, d.cells[q]? = some (.int .i64 k) → q < 13 → WN w' g (o + q) := fun q k hq hl => ⟨⟨_, cc q _ hq⟩, ff q hl⟩;exact ⟨hB, hC, nn 0 _ rfl (by omega), nn 2 _ rfl (by omega), nn 3 _ rfl (by omega), nn 5 _ rfl (by omega), nn 7 _ rfl (by omega), nn 8 _ rfl (by omega), cc 4 _ rfl, sl_m e1 e2 hb, cc 6 _ rfl, sl_m (x := d.e.d.t.sl) e3 e4 hb, cc 10 _ rfl, sl_m l5 z4 hb, cc 1 _ rfl, cc 9 _ rfl, cc 11 _ rfl, cc 12 _ rfl, px_oz l1 (.inr z1) z2 hb, km_oz hb d.e ⟨l4, z3.wz⟩, tx_oz l6 (.inr z5) z6 hb⟩
theorem bm_own (hb : Bl w w') (e : AT) (h : e.own B w) : BM B w.heap.size w' e := by
 induction e with
 | nil => exact False.elim h.1
 | mk d kid ih =>
  obtain ⟨hl, hw⟩ := h;obtain ⟨l1, l2, l3, l4, l5, l6, l7, l8, l9, l10⟩ := hl;obtain ⟨z1, z2, z3, z4, _, z7, z8⟩ := hw;by_cases h0 : d.n = 0
  · exact .inl h0
  obtain ⟨g, ha, hB, hC, cc, ff⟩ := row_oz l9 (.inr z7) hb h0 (by omega);exact .inr ⟨g, ha, fun i hi => ⟨am_own ⟨l10 i hi, z8 i hi⟩ hb hB hC (cc i hi) (ff i hi), ih i ⟨l10 i hi, z8 i hi⟩⟩⟩
theorem AT.own.marks (h : e.own B w) (hb : Bl w w') (hw : e.wt ≤ 3145728) : AMk B w.heap.size w' e := by
 have ht := e.tl_le;unfold AT.tl at ht;have hk := bm_own hb e h;obtain ⟨hl, hz⟩ := h;cases e with
 | nil => exact False.elim hl
 | mk d kid =>
  obtain ⟨l1, l2, l3, l4, l5, l6, l7, l8, l9, l10⟩ := hl;obtain ⟨z1, z2, z3, z4, ⟨z5, z6⟩, z7, z8⟩ := hz;obtain ⟨⟨e1, e2⟩, e3, e4⟩ := et_oz ⟨l4, z3.wz⟩;exact ⟨px_oz l1 (.inr z1) z2 hb, ⟨sl_m e1 e2 hb, sl_m (x := d.e.d.t.sl) e3 e4 hb, km_oz hb d.e ⟨l4, z3.wz⟩, (by show (d.e.ms.length : Int) ≤ _; change _ + (_ + _ + d.e.ms.length) + _ + _ + _ ≤ _ at ht; omega)⟩, sl_m l5 z4 hb, tx_oz l6 (.inr z5) z6 hb, hk, by omega, by omega, by omega⟩
theorem szPatS_w (a : Option Addr) (cap n : Nat) (kid : Nat → PB) (l : Int) (w : World) (h1 : 0 ≤ l) (h2 : l ≤ 1048576) (hn : n ≤ 9223372036854775807) (hR : KRow 0 w 15 a n (fun i => (kid i).cells))
 (IH : ∀ i, i < n → ∀ (W : World) (l : Int), 0 ≤ l → l ≤ 1048576 → Bl w W → Calls Tryz.prog 59 #[.agg (kid i).ar, .int .i64 l] W fun e w' => Sw l (kid i).wt e ∧ Bl W w') :
 Calls Tryz.prog 22 #[.slice a n cap, .int .i64 l] w fun e w' => Sw l (n + sumN n (fun i => (kid i).wt)) e ∧ Bl w w' := by
 try unfold PB.ar PB.cl
 by_cases hbig : l < n
 · clear hR IH
   go_in;go_wp2;go_ret;exact ⟨⟨-1, rfl, .inl rfl⟩, Below.refl _ _⟩
 by_cases hn0 : n = 0
 · subst hn0
   clear hR IH hn hbig;have hbig : ¬ l < 0 := by omega
   go_in;go_wp2;refine wl1 ?_;go_wp2;go_ret;exact ⟨⟨_, rfl, .inr ⟨by omega, by omega, by simp [sumN]⟩⟩, Below.refl _ _⟩
 obtain ⟨b, off, rfl, _, hlt, hc⟩ := hR.resolve_left hn0;have HC := iH hc;have HI := iH IH;clear hR hc IH;go_in;go_wp2;go_loopw [1, 5] (fun x i wr => ∃ (k : Nat) (r : Int), k ≤ n ∧ i = .int .i64 k ∧ x = .int .i64 r ∧ 0 ≤ r ∧ r ≤ 1048576 ∧ Hd (Bl w wr) ∧ Hd (r + ((n + sumN k (fun i => (kid i).wt) : Nat) : Int) ≤ l))
  (fun _ i _ => n - (intOf i).toNat)
 case atStart => exact ⟨0, _, nZ, rfl, rfl, by omega, by omega, Below.refl _ _, (show _ ≤ _ by simp only [sumN]; omega)⟩
 obtain ⟨k, r, hk, rfl, rfl, hr0, hr1, HB, HH⟩ := hrel;by_cases hlk : k < n
 · have hcx := fun c u (hu : ((kid k).cells)[c]? = some u) => (HB.o.cell (p := ⟨b, off + k * 15 + c, none⟩) hlt).trans (HC.o k hlk c u hu)
   have hin : (Tryz.prog.info? 65).map (·.size) = some 15 := by kernel_rfl
   have Z := HI.o k hlk;go_wp2_with (refine wpList_load_mid rfl 65 _ rfl b (off + k * 15) rfl (kid k).cl _ hcx Tryz.underlying65 rfl hin ?_; try simp only [Act.put, sA, zA, cA])
   refine (Z _ r hr0 hr1 HB.o).mono ?_;rintro e w2 ⟨⟨q, rfl, hq⟩, hb2⟩;have HB2 := iH (bl_trans HB.o hb2);clear hcx hin Z hb2 HB;rcases hq with rfl | ⟨z1, z2, z3⟩
   · go_wp2
     go_ret;exact ⟨⟨-1, rfl, .inl rfl⟩, HB2.o⟩
   have HZ3 := iH z3;have nq : ¬ q < 0 := by omega
   clear z3;go_wp2;go_roundw
   case rel =>
    refine ⟨k + 1, q, by omega, by go_num, rfl, by omega, by omega, HB2, ?_⟩
    have a1 := HH.o;have a2 := HZ3.o;show q + ((n + (sumN k (fun i => (kid i).wt) + (kid k).wt) : Nat) : Int) ≤ l;omega
   case measure => simp [intOf]; omega
 obtain rfl : k = n := by omega
 go_wp2;go_ret;exact ⟨⟨r, rfl, .inr ⟨hr0, hr1, HH.o⟩⟩, HB.o⟩
theorem szAlgS_w (a : Option Addr) (cap n : Nat) (kid : Nat → AT) (l : Int) (w : World) (h1 : 0 ≤ l) (h2 : l ≤ 1048576) (hn : n ≤ 9223372036854775807) (hR : KRow 0 w 13 a n (fun i => (kid i).d.cells))
 (IH : ∀ i, i < n → ∀ (W : World) (l : Int), 0 ≤ l → l ≤ 1048576 → Bl w W → Calls Tryz.prog 5 #[.agg (kid i).d.ar, .int .i64 l] W fun e w' => Sw l (kid i).wt e ∧ Bl W w') :
 Calls Tryz.prog 26 #[.slice a n cap, .int .i64 l] w fun e w' => Sw l (n + sumN n (fun i => (kid i).wt)) e ∧ Bl w w' := by
 try unfold AN.ar AN.cl
 by_cases hbig : l < n
 · clear hR IH
   go_in;go_wp2;go_ret;exact ⟨⟨-1, rfl, .inl rfl⟩, Below.refl _ _⟩
 by_cases hn0 : n = 0
 · subst hn0
   clear hR IH hn hbig;have hbig : ¬ l < 0 := by omega
   go_in;go_wp2;refine wl1 ?_;go_wp2;go_ret;exact ⟨⟨_, rfl, .inr ⟨by omega, by omega, by simp [sumN]⟩⟩, Below.refl _ _⟩
 obtain ⟨b, off, rfl, _, hlt, hc⟩ := hR.resolve_left hn0;have HC := iH hc;have HI := iH IH;clear hR hc IH;go_in;go_wp2;go_loopw [1, 5] (fun x i wr => ∃ (k : Nat) (r : Int), k ≤ n ∧ i = .int .i64 k ∧ x = .int .i64 r ∧ 0 ≤ r ∧ r ≤ 1048576 ∧ Hd (Bl w wr) ∧ Hd (r + ((n + sumN k (fun i => (kid i).wt) : Nat) : Int) ≤ l))
  (fun _ i _ => n - (intOf i).toNat)
 case atStart => exact ⟨0, _, nZ, rfl, rfl, by omega, by omega, Below.refl _ _, (show _ ≤ _ by simp only [sumN]; omega)⟩
 obtain ⟨k, r, hk, rfl, rfl, hr0, hr1, HB, HH⟩ := hrel;by_cases hlk : k < n
 · have hcx := fun c u (hu : ((kid k).d.cells)[c]? = some u) => (HB.o.cell (p := ⟨b, off + k * 13 + c, none⟩) hlt).trans (HC.o k hlk c u hu)
   have hin : (Tryz.prog.info? 32).map (·.size) = some 13 := by kernel_rfl
   have Z := HI.o k hlk;go_wp2_with (refine wpList_load_mid rfl 32 _ rfl b (off + k * 13) rfl (kid k).d.cl _ hcx Tryz.underlying32 rfl hin ?_; try simp only [Act.put, sA, zA, cA])
   refine (Z _ r hr0 hr1 HB.o).mono ?_;rintro e w2 ⟨⟨q, rfl, hq⟩, hb2⟩;have HB2 := iH (bl_trans HB.o hb2);clear hcx hin Z hb2 HB;rcases hq with rfl | ⟨z1, z2, z3⟩
   · go_wp2
     go_ret;exact ⟨⟨-1, rfl, .inl rfl⟩, HB2.o⟩
   have HZ3 := iH z3;have nq : ¬ q < 0 := by omega
   clear z3;go_wp2;go_roundw
   case rel =>
    refine ⟨k + 1, q, by omega, by go_num, rfl, by omega, by omega, HB2, ?_⟩
    have a1 := HH.o;have a2 := HZ3.o;show q + ((n + (sumN k (fun i => (kid i).wt) + (kid k).wt) : Nat) : Int) ≤ l;omega
   case measure => simp [intOf]; omega
 obtain rfl : k = n := by omega
 go_wp2;go_ret;exact ⟨⟨r, rfl, .inr ⟨hr0, hr1, HH.o⟩⟩, HB.o⟩
theorem szAlg_w (e : AT) : ∀ (l : Int) (w : World), 0 ≤ l → l ≤ 1048576 → e.came w → Calls Tryz.prog 5 #[.agg e.d.ar, .int .i64 l] w fun r w' => Sw l e.wt r ∧ Bl w w' := by
 induction e with
 | nil => exact fun _ _ _ _ h => False.elim h
 | mk d kid ih =>
  intro l w h1 h2 hc;show Calls Tryz.prog 5 #[.agg d.ar, .int .i64 l] w fun r w' => Sw l ((d.pn + sumN d.pn (fun i => (d.pat i).wt)) + d.e.wt + d.v.len + (d.tb.length + twt d.tb d.tb.length) + (d.n + sumN d.n (fun i => (kid i).wt))) r ∧ Bl w w';obtain ⟨hrp, hpl, hpn, he, hv, ht, hn, hR, hk⟩ := hc;have HZ1 := iH (fun (W : World) (l : Int) (h1 : 0 ≤ l) (h2 : l ≤ 1048576) (hb : Below _ w W) => szPatS_w _ d.pc _ _ l W h1 h2 hpn (hrp.upper (uB hb)) fun i hi W' l' a1 a2 hW => szPat_w _ l' W' a1 a2 ((hpl i hi).below (bl_trans hb hW)));have HZ2 := iH (fun (W : World) (l : Int) (h1 : 0 ≤ l) (h2 : l ≤ 1048576) (hb : Below _ w W) => szExpr_w d.e l W h1 h2 (ET.came.below hb he));have HZ3 : Hd (∀ (W : World) (l : Int), 0 ≤ l → l ≤ 1048576 → Bl w W → Cl 24 #[.slice d.v.a d.v.len d.v.cap, .int .i64 l] W fun e w' => Sw l (d.v.len) e ∧ Bl W w') := fun W l h1 h2 hb => szByteS_w d.v l W h1 h2 hv.1;have HZ4 := iH (fun (W : World) (l : Int) (h1 : 0 ≤ l) (h2 : l ≤ 1048576) (hb : Below _ w W) => szTermS_w _ d.tc _ l W h1 h2 (ht.below hb));have HZ5 := iH (fun (W : World) (l : Int) (h1 : 0 ≤ l) (h2 : l ≤ 1048576) (hb : Below _ w W) => szAlgS_w _ d.kc d.n kid l W h1 h2 hn (hR.upper (uB hb)) fun i hi W' l' a1 a2 hW => ih i l' W' a1 a2 (AT.came.below (bl_trans hb hW) (hk i hi)));clear hrp hpl hpn he hv ht hR hk ih hn;go_in;have Z1 := HZ1.o;go_wp2_with fail
  refine (Z1 _ l h1 h2 (bl_a _)).mono ?_;rintro e w1 ⟨⟨r1, rfl, hr1⟩, hb1⟩;have HX1 := iH ((Box.new w _ 32 _).below hb1);have HB1 := iH (bl_trans (bl_a _) hb1);clear hb1 Z1 ;rcases hr1 with rfl | ⟨p1, q1, s1⟩
  · go_wp2
    go_ret;exact ⟨⟨-1, rfl, .inl rfl⟩, HB1.o⟩
  have n1 : ¬ r1 < 0 := by omega
  have HS1 := iH s1;clear s1;have ld : w1.rangeAt w.heap.size 2 d.e.d.cl := HX1.o.range 2 _ rfl;have Z2 := HZ2.o;go_wp2_with (refine ldn Tryz.underlying28 ld ?_)
  refine (Z2 _ r1 p1 q1 HB1.o).mono ?_;rintro e w2 ⟨⟨r2, rfl, hr2⟩, hb2⟩;have HX2 := iH (HX1.o.below hb2);have HB2 := iH (bl_trans HB1.o hb2);clear hb2 Z2 ld HX1 HB1;rcases hr2 with rfl | ⟨p2, q2, s2⟩
  · go_wp2
    go_ret;exact ⟨⟨-1, rfl, .inl rfl⟩, HB2.o⟩
  have n2 : ¬ r2 < 0 := by omega
  have HS2 := iH s2;clear s2;have ld := HX2.o.2 10 _ rfl;have Z3 := HZ3.o;go_wp2_with fail
  refine (Z3 _ r2 p2 q2 HB2.o).mono ?_;rintro e w3 ⟨⟨r3, rfl, hr3⟩, hb3⟩;have HX3 := iH (HX2.o.below hb3);have HB3 := iH (bl_trans HB2.o hb3);clear hb3 Z3 ld HX2 HB2;rcases hr3 with rfl | ⟨p3, q3, s3⟩
  · go_wp2
    go_ret;exact ⟨⟨-1, rfl, .inl rfl⟩, HB3.o⟩
  have n3 : ¬ r3 < 0 := by omega
  have HS3 := iH s3;clear s3;have ld := HX3.o.2 11 _ rfl;have Z4 := HZ4.o;go_wp2_with fail
  refine (Z4 _ r3 p3 q3 HB3.o).mono ?_;rintro e w4 ⟨⟨r4, rfl, hr4⟩, hb4⟩;have HX4 := iH (HX3.o.below hb4);have HB4 := iH (bl_trans HB3.o hb4);clear hb4 Z4 ld HX3 HB3;rcases hr4 with rfl | ⟨p4, q4, s4⟩
  · go_wp2
    go_ret;exact ⟨⟨-1, rfl, .inl rfl⟩, HB4.o⟩
  have n4 : ¬ r4 < 0 := by omega
  have HS4 := iH s4;clear s4;have ld := HX4.o.2 12 _ rfl;have Z5 := HZ5.o;go_wp2_with fail
  refine (Z5 _ r4 p4 q4 HB4.o).mono ?_;rintro e w5 ⟨⟨r5, rfl, hr5⟩, hb5⟩;have HX5 := iH (HX4.o.below hb5);have HB5 := iH (bl_trans HB4.o hb5);clear hb5 Z5 ld HX4 HB4;rcases hr5 with rfl | ⟨p5, q5, s5⟩
  · go_wp2
    go_ret;exact ⟨⟨-1, rfl, .inl rfl⟩, HB5.o⟩
  have n5 : ¬ r5 < 0 := by omega
  have HS5 := iH s5;clear s5;go_wp2;go_ret;exact ⟨⟨r5, rfl, .inr ⟨p5, q5, (show r5 + (((d.pn + sumN d.pn (fun i => (d.pat i).wt)) + d.e.wt + d.v.len + (d.tb.length + twt d.tb d.tb.length) + (d.n + sumN d.n (fun i => (kid i).wt)) : Nat) : Int) ≤ l by have a1 := HS1.o; have a2 := HS2.o; have a3 := HS3.o; have a4 := HS4.o; have a5 := HS5.o; omega)⟩⟩, HB5.o⟩
theorem wpq_stop {P : Program} {ops : Array Oper} {rest : List Oper} {op : Oper} {a : Act} {Q : Exit → Act → World → Prop} (ty : TypeId) (x : Operand) (_ : op.op = .load ty x) (h : Hd (wpList P ops Q (op :: rest) a w)) : wpList P ops Q (op :: rest) a w := h
theorem isZeroI_any (x : IB) (w : World) (h : x.lies 0 w) : Calls Tryz.prog 185 #[.agg x.ar] w (Tells (zeroI x) w) := by
 try unfold IB.ar IB.cl
 have HL := iH (nil_len h.1.1.1);have HZ := iH (fun W (hb : Bl w W) => isZeroT_any x.t W (h.2.1.upper (uB hb)));obtain ⟨P, hP⟩ : ∃ P, P = zeroI x := ⟨_, rfl⟩;have HP : Hd (P ↔ (x.v.b = [] ∧ zeroT x.t.td)) := (show (P ↔ _) by rw [hP]; exact Iff.rfl);rw [← hP];clear h hP;by_cases h2 : x.v.len = 0;rotate_left
 · go_in
   go_wp2;go_ret;exact Tells.no (fun hp => h2 (HL.o.1 (HP.o.1 hp).1)) (bl_a _)
 have H3 := iH (HL.o.2 h2);have Z := HZ.o;go_in;go_wp2_with fail
 refine (Z _ (bl_a _)).mono ?_;rintro e w1 ⟨q1, rfl, hq1, hb1⟩;have HQ := iH (show (q1 = true ↔ P) from hq1.trans ⟨fun h => HP.o.2 ⟨H3.o, h⟩, fun h => (HP.o.1 h).2⟩);have HB := iH (bl_trans (bl_a _) hb1);clear Z hq1 hb1;go_wp2;go_ret;exact Tells.of HQ.o HB.o
theorem isZeroP_any (x : PB) (w : World) (h : x.lies 0 w) : Calls Tryz.prog 172 #[.agg x.ar] w (Tells (zeroP x) w) := by
 try unfold PB.ar PB.cl
 have HZ1 := iH (fun W (hb : Bl w W) => isZeroI_any x.s W (h.1.upper (uB hb)));have HZ2 := iH (fun W (hb : Bl w W) => isZeroI_any x.p W (h.2.1.upper (uB hb)));have HZ3 := iH (fun W (hb : Bl w W) => isZeroI_any x.o W (h.2.2.upper (uB hb)));obtain ⟨P, hP⟩ : ∃ P, P = zeroP x := ⟨_, rfl⟩;have HP : Hd (P ↔ (zeroI x.s ∧ zeroI x.p ∧ zeroI x.o)) := (show (P ↔ _) by rw [hP]; exact Iff.rfl);rw [← hP];clear h hP;go_in;go_wp2_with fail
 refine (HZ1.o _ (bl_a _)).mono ?_;rintro e w1 ⟨q1, rfl, hq1, hb1⟩;have HX := iH ((Box.new w _ 39 (0, 0)).below hb1);have HB1 := iH (bl_trans (bl_a _) hb1);clear hb1 HZ1;cases q1
 · have HNO : Hd (¬ P) := fun hh => by have h := hq1.2 (HP.o.1 hh).1; cases h
   clear hq1;go_wp2;go_ret;exact Tells.no HNO.o HB1.o
 have H1 := iH (hq1.1 rfl);have lr : w1.rangeAt w.heap.size 5 x.p.cl := HX.o.range 5 _ rfl;clear hq1;go_wp2_with (with_reducible refine wpq_at ?_; refine wpq_stop 37 _ rfl ?_)
 change wpList _ _ _ _ _ _;refine wpq_load ?hw 37 _ rfl w.heap.size 5 rfl _ _ lr Tryz.underlying37 rfl (by kernel_rfl) ?_
 case hw => rfl
 simp only [Act.put, sA, zA, cA];go_wp2_with fail
 refine (HZ2.o _ HB1.o).mono ?_;rintro e w2 ⟨q2, rfl, hq2, hb2⟩;have HX2 := iH (HX.o.below hb2);have HB2 := iH (bl_trans HB1.o hb2);clear hb2 HZ2 HB1 lr HX;cases q2
 · have HNO : Hd (¬ P) := fun hh => by have h := hq2.2 (HP.o.1 hh).2.1; cases h
   clear hq2;go_wp2;go_ret;exact Tells.no HNO.o HB2.o
 have H2 := iH (hq2.1 rfl);have lr : w2.rangeAt w.heap.size 10 x.o.cl := HX2.o.range 10 _ rfl;clear hq2;go_wp2_with (with_reducible refine wpq_at ?_; refine wpq_stop 37 _ rfl ?_)
 change wpList _ _ _ _ _ _;refine wpq_load ?hw 37 _ rfl w.heap.size 10 rfl _ _ lr Tryz.underlying37 rfl (by kernel_rfl) ?_
 case hw => rfl
 simp only [Act.put, sA, zA, cA];go_wp2_with fail
 refine (HZ3.o _ HB2.o).mono ?_;rintro e w3 ⟨q3, rfl, hq3, hb3⟩;have HB3 := iH (bl_trans HB2.o hb3);have HQ := iH (show (q3 = true ↔ P) from hq3.trans ⟨fun h => HP.o.2 ⟨H1.o, H2.o, h⟩, fun h => (HP.o.1 h).2.2⟩);clear hb3 hq3 lr HX2;go_wp2;go_ret;exact Tells.of HQ.o HB3.o
theorem isWithin_tells (n a b : Int) (w : World) : Calls Tryz.prog 150 #[.int .i64 n, .int .i64 a, .int .i64 b] w (Tells (a ≤ n ∧ n ≤ b) w) := by
 obtain ⟨P, hP⟩ : ∃ P, P = (a ≤ n ∧ n ≤ b) := ⟨_, rfl⟩;have HP := iH (show (P ↔ _) by rw [hP]);rw [← hP];clear hP;by_cases h1 : a ≤ n
 · by_cases h2 : n ≤ b
   · go_in
     go_wp2;go_ret;exact Tells.of ⟨fun _ => HP.o.2 ⟨h1, h2⟩, fun _ => by simp; try omega⟩ brf
   go_in;go_wp2;go_ret;refine Tells.of ⟨fun h => ?_, fun hp => by have := (HP.o.1 hp).2; omega⟩ brf
   exfalso;simp at h;try omega
 go_in;go_wp2;go_ret;exact Tells.no (fun hp => by have := (HP.o.1 hp).1; omega) brf
def qKids (k : Int) : Int := if k = 1 ∨ k = 2 ∨ k = 3 ∨ k = 4 then 2 else if k = 0 ∨ k = 5 ∨ k = 6 then 1 else 0
theorem planKidCount_any (k : Int) (w : World) : Calls Tryz.prog 149 #[.int .i64 k] w fun e w' => e = .returned (.int .i64 (qKids k)) ∧ w' = w := by
 go_enter Tryz.func149, Tryz.ntmps149;go_wp2;all_goals go_ret
 all_goals refine ⟨?_, rfl⟩
 all_goals (unfold qKids; simp_all)
theorem hasExprP_any (d : PN) (w : World) : Calls Tryz.prog 126 #[.agg d.ar] w (Tells (hasE d.k) w) := by
 try unfold PN.ar PN.cl
 obtain ⟨P, hP⟩ : ∃ P, P = hasE d.k := ⟨_, rfl⟩;have HP : Hd (P ↔ (d.k = 2 ∨ d.k = 5 ∨ d.k = 6)) := (show (P ↔ _) by rw [hP]; exact Iff.rfl);rw [← hP];clear hP;have x0 : (w.alloc (.cells d.ar 46)).cell? ⟨w.heap.size, 0, none⟩ = some (.int .i64 d.k) := (Box.new w d.ar 46 (0, 0)).2 0 _ rfl;have HB : Hd (Bl w (w.alloc (.cells d.ar 46))) := bl_a _;go_enter Tryz.func126, Tryz.ntmps126;go_upto_region 1 with fail
 generalize (w.alloc (.cells d.ar 46)) = W1 at *;by_cases h2 : d.k = 2
 · have HY : Hd P := HP.o.2 (by omega)
   go_wp2;go_ret;exact Tells.yes HY.o HB.o
 by_cases h5 : d.k = 5
 · have HY : Hd P := HP.o.2 (by omega)
   go_wp2;go_ret;exact Tells.yes HY.o HB.o
 by_cases h6 : d.k = 6
 · have HY : Hd P := HP.o.2 (by omega)
   go_wp2;go_ret;exact Tells.yes HY.o HB.o
 have HN : Hd (¬ P) := fun hh => by have := HP.o.1 hh; omega
 go_wp2;go_ret;refine Tells.of ⟨fun h => ?_, fun hp => absurd hp HN.o⟩ HB.o;exfalso;simp at h;omega
def BareP (d : PN) : Prop := d.ord = 0 ∧ zeroP d.p ∧ zeroE d.e ∧ d.v.b = [] ∧ d.tb = []
theorem BareP.mk (h0 : d.ord = 0) (h1 : zeroP d.p) (h2 : zeroE d.e) (h3 : d.v.b = []) (h4 : d.tb = []) : BareP d := And.intro h0 (And.intro h1 (And.intro h2 (And.intro h3 h4)))
theorem isBareP_any (d : PN) (w : World) (hp : d.p.lies 0 w) (he : d.e.lies 0 w) (hv : BsF 0 w d.v) : Calls Tryz.prog 154 #[.agg d.ar] w (Tells (BareP d) w) := by
 try unfold PN.ar PN.cl
 have HL : Hd (d.v.b = [] ↔ d.v.len = 0) := nil_len hv.1.1;have HZP : Hd (∀ W, Bl w W → Cl 172 #[.agg d.p.ar] W (Tells (zeroP d.p) W)) := fun W hb => isZeroP_any d.p W (hp.upper (uB hb));have HZ : Hd (∀ W, Bl w W → Cl 173 #[.agg d.e.d.ar] W (Tells (zeroE d.e) W)) := fun W hb => isZeroE_any d.e W (ET.lies.upper (uB hb) he);obtain ⟨P, hP⟩ : ∃ P, P = BareP d := ⟨_, rfl⟩;have HP : Hd (P ↔ (d.ord = 0 ∧ zeroP d.p ∧ zeroE d.e ∧ d.v.b = [] ∧ d.tb = [])) := (show (P ↔ _) by rw [hP]; exact Iff.rfl);rw [← hP];obtain ⟨nt, hnt⟩ : ∃ nt, nt = d.tb.length := ⟨_, rfl⟩;rw [← hnt];have HT : Hd (d.tb = [] ↔ nt = 0) := (show (_ ↔ _) by rw [hnt]; exact tb_nil);clear he hv hp hP hnt;have HX : Hd (Box (w.alloc (.cells (wA d.k d.ord d.p d.e.d d.v (.slice d.ta nt d.tc) (.slice d.ka d.n d.kc)) 46)) w.heap.size (cellsT d d.k nt)) := Box.new w (wA d.k d.ord d.p d.e.d d.v (.slice d.ta nt d.tc) (.slice d.ka d.n d.kc)) 46 (0, 0);have HB : Hd (Bl w (w.alloc (.cells (wA d.k d.ord d.p d.e.d d.v (.slice d.ta nt d.tc) (.slice d.ka d.n d.kc)) 46))) := bl_a _;go_enter Tryz.func154, Tryz.ntmps154;go_upto_region 1 with fail
 generalize w.alloc _ = W1 at *;have x1 := HX.o.2 1 _ rfl;by_cases h1 : d.ord = 0;rotate_left
 · go_wp2
   go_ret;exact Tells.no (fun hp => h1 (HP.o.1 hp).1) HB.o
 have H1 : Hd (d.ord = 0) := h1;have he1 : (d.ord == 0) = true := by simp [h1]
 have lr : W1.rangeAt w.heap.size 2 d.p.cl := HX.o.range 2 _ rfl;clear h1;go_wp2_with (with_reducible refine wpq_at ?_; refine wpq_stop 39 _ rfl ?_)
 change wpList _ _ _ _ _ _;refine wpq_load ?hw 39 _ rfl w.heap.size 2 rfl d.p.cl _ lr Tryz.underlying39 rfl (by kernel_rfl) ?_
 case hw => rfl
 simp only [Act.put, sA, zA, cA];go_wp2_with fail
 refine (HZP.o _ HB.o).mono ?_;rintro e w1 ⟨q1, rfl, hq1, hb1⟩;have HX1 : Hd (Box w1 w.heap.size (cellsT d d.k nt)) := HX.o.below hb1;have HB1 : Hd (Bl w w1) := bl_trans HB.o hb1;clear hb1 HX HB lr x1 he1;cases q1
 · have HNO : Hd (¬ P) := fun hh => by have h := hq1.2 (HP.o.1 hh).2.1; cases h
   clear hq1;go_wp2;go_ret;exact Tells.no HNO.o HB1.o
 have HP1 : Hd (zeroP d.p) := hq1.1 rfl;have lr : w1.rangeAt w.heap.size 17 d.e.d.cl := HX1.o.range 17 _ rfl;clear hq1;go_wp2_with (with_reducible refine wpq_at ?_; refine wpq_stop 42 _ rfl ?_)
 change wpList _ _ _ _ _ _;refine wpq_load ?hw 42 _ rfl w.heap.size 17 rfl d.e.d.cl _ lr Tryz.underlying42 rfl (by kernel_rfl) ?_
 case hw => rfl
 simp only [Act.put, sA, zA, cA];go_wp2_with fail
 refine (HZ.o _ HB1.o).mono ?_;rintro e w2 ⟨q2, rfl, hq2, hb2⟩;have HX2 : Hd (Box w2 w.heap.size (cellsT d d.k nt)) := HX1.o.below hb2;have HB2 : Hd (Bl w w2) := bl_trans HB1.o hb2;clear hb2 HX1 HB1 lr;cases q2
 · have HNO : Hd (¬ P) := fun hh => by have h := hq2.2 (HP.o.1 hh).2.2.1; cases h
   clear hq2;go_wp2;go_ret;exact Tells.no HNO.o HB2.o
 have HE : Hd (zeroE d.e) := hq2.1 rfl;clear hq2;have x25 := HX2.o.2 25 _ rfl;have x26 := HX2.o.2 26 _ rfl;by_cases h2 : d.v.len = 0;rotate_left
 · go_wp2
   go_ret;exact Tells.no (fun hp => h2 (HL.o.1 (HP.o.1 hp).2.2.2.1)) HB2.o
 by_cases h3 : nt = 0;rotate_left
 · go_wp2
   go_ret;refine Tells.of ⟨fun h => ?_, fun hp => absurd (HT.o.1 (HP.o.1 hp).2.2.2.2) h3⟩ HB2.o;exfalso;simp at h;omega
 have HY : Hd P := HP.o.2 ⟨H1.o, HP1.o, HE.o, HL.o.2 h2, HT.o.2 h3⟩;go_wp2;go_ret;exact Tells.yes HY.o HB2.o
structure HasP (d : PN) : Prop where
 k0 : 0 ≤ d.k
 k8 : d.k ≤ 8
 o0 : 0 ≤ d.ord
 o5 : d.ord ≤ 5
 n : d.n = kidsP d.k
 p1 : d.k = 0 → ptOk d.p
 p0 : d.k ≠ 0 → zeroP d.p
 oz : d.k ≠ 0 → d.ord = 0
 t0 : d.k ≠ 7 → d.tb = []
 tn : d.tb.length ≤ 8
 e0 : ¬ hasE d.k → zeroE d.e
 v1 : hasV d.k → nameOk d.v.b = true
 v0 : ¬ hasV d.k → d.v.b = []
 tm : ∀ x ∈ d.tb, x.td.ok = true
theorem HasP.node : NodeP d ↔ HasP d ∧ (hasE d.k → eOk 120 d.e 1) :=
 ⟨fun h => ⟨⟨h.k0, h.k8, h.o0, h.o5, h.n, h.p1, h.p0, h.oz, h.t0, h.tn, h.e0, h.v1, h.v0, h.tm⟩, h.e1⟩, fun h => ⟨h.1.k0, h.1.k8, h.1.o0, h.1.o5, h.1.n, h.1.p1, h.1.p0, h.1.oz, h.1.t0, h.1.tn, h.2, h.1.e0, h.1.v1, h.1.v0, h.1.tm⟩⟩
def IB0 : IB := ⟨⟨none, 0, 0, []⟩, ⟨⟨0, none, 0, 0, 0, 0⟩, []⟩⟩
def PB0 : PB := ⟨IB0, IB0, IB0⟩
theorem IB0_lies (w : World) : IB0.lies 0 w := ⟨bs_nil w, bs_nil w, ⟨by decide, by decide, by decide, by decide⟩⟩
theorem PB0_lies (w : World) : PB0.lies 0 w := ⟨IB0_lies w, IB0_lies w, IB0_lies w⟩
theorem IB0_zero : zeroI IB0 := ⟨rfl, zeroT0⟩
theorem PB0_zero : zeroP PB0 := ⟨IB0_zero, IB0_zero, IB0_zero⟩
theorem oneE : (zEa : Array Value).all (·.oneCell') = true := all_oneCell_toArray (cs := zEl) (by simp [Value.oneCell'])
theorem oneP : (zPa : Array Value).all (·.oneCell') = true := all_oneCell_toArray (cs := zPl) (by simp [Value.oneCell'])
theorem PN.one (d : PN) : d.cells.toArray.all (·.oneCell') = true := all_oneCell_toArray (cs := d.cells) (by intro v hv; unfold PN.cells at hv; simp only [List.mem_cons, List.not_mem_nil, or_false] at hv; rcases hv with rfl | rfl | rfl | rfl | rfl | rfl | rfl | rfl | rfl | rfl | rfl | rfl | rfl | rfl | rfl | rfl | rfl | rfl | rfl | rfl | rfl | rfl | rfl | rfl | rfl | rfl | rfl | rfl <;> rfl)
theorem setL_eq : ∀ (vs L : List Value) (o : Nat), o + vs.length ≤ L.length → setL L o vs = L.take o ++ (vs ++ L.drop (o + vs.length))
 | [], L, o, _ => by simp [setL]
 | v :: r, L, o, h => by
   have hl : o + 1 + r.length ≤ L.length := by simp only [List.length_cons] at h; omega
   have ho : o < L.length := by omega
   have ih := setL_eq r (L.set o v) (o + 1) (by simpa using hl)
   show setL (L.set o v) (o + 1) r = _
   rw [ih]
   have e1 : (L.set o v).take (o + 1) = L.take o ++ [v] := by
    rw [List.set_eq_take_append_cons_drop, if_pos ho, show o + 1 = (L.take o).length + 1 by simp; omega, List.take_length_add_append]
    rfl
   have e2 : (L.set o v).drop (o + 1 + r.length) = L.drop (o + 1 + r.length) := by
    apply List.drop_set_of_lt;omega
   rw [e1, e2, show o + (v :: r).length = o + 1 + r.length by simp only [List.length_cons]; omega]
   simp
theorem OB.put {b : Nat} {L : List Value} (h : OB w b L) (vs : List Value) (o : Nat) (L' : List Value) (hl : o + vs.length ≤ L.length) (e : L.take o ++ (vs ++ L.drop (o + vs.length)) = L') : OB (w.setCells b o vs) b L' := by
 have := h.sets vs o;rwa [setL_eq vs L o hl, e] at this
end Go.Proofs.YtoloadogihbdeaaGreat
