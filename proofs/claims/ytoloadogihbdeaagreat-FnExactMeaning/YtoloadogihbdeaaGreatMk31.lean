import Derived.Test.YtoloadogihbdeaaGreatMk16
namespace Go.Proofs.YtoloadogihbdeaaGreat
open Go.RowKit Go.Deep
set_option maxHeartbeats 40000000
set_option maxRecDepth 100000
def PT.wr (B : Nat) (w : World) : PT → Prop
 | .nil => False
 | .mk d kid => d.p.own B w ∧ d.e.wr B w ∧ TxW B w d.v ∧ TsW B w d.ta d.tb ∧ RoW B w d.ka (d.n * 28) ∧ ∀ i, i < d.n → (kid i).wr B w
theorem PT.wr.upper {B : Nat} {w w' : World} {e : PT} (h : e.wr B w) (hu : Upper B w w') : e.wr B w' := by
 induction e with
 | nil => exact False.elim h
 | mk d kid ih =>
  obtain ⟨h1, h2, h3, h4, h5, h6⟩ := h
  exact ⟨h1.upper hu, h2.upper hu, h3.upper hu, h4.upper hu, h5.upper hu, fun i hi => ih i (h6 i hi)⟩
theorem PT.wr.base {B B' : Nat} {w : World} {e : PT} (h : e.wr B w) (hB : B' ≤ B) : e.wr B' w := by
 induction e with
 | nil => exact False.elim h
 | mk d kid ih =>
  obtain ⟨h1, h2, h3, h4, h5, h6⟩ := h
  exact ⟨h1.base hB, h2.base hB, h3.base hB, h4.base hB, h5.base hB, fun i hi => ih i (h6 i hi)⟩
def PT.own (B : Nat) (w : World) (e : PT) : Prop := e.lies B w ∧ e.wr B w
theorem PT.own.upper {B : Nat} {w w' : World} {e : PT} (h : e.own B w) (hu : Upper B w w') : e.own B w' := ⟨PT.lies.upper hu h.1, h.2.upper hu⟩
theorem PT.own.base {B B' : Nat} {w : World} {e : PT} (h : e.own B w) (hB : B' ≤ B) : e.own B' w := ⟨PT.lies.base hB h.1, h.2.base hB⟩
theorem run_make_toPlanSW (n : Nat) (hn : n ≤ 1048576) (w : World) :
 (Instr.makeSlice 44 (.int .i64 (n : Int)) (.int .i64 (n : Int))).run Tryz.prog w = .ok (.slice (some ⟨w.heap.size, 0, none⟩) n n) (w.alloc (.cells (madeCells zNa (n * 28)) 46)) := by
 have hi0 : (Tryz.prog.info? 46).map (fun i => (i.zero, i.size, i.bytes)) = some (some (.agg zNa), 28, 416) := by kernel_rfl
 obtain ⟨i, hi, hzz⟩ := Option.map_eq_some_iff.1 hi0
 simp only [Prod.mk.injEq] at hzz
 obtain ⟨hz, hs, hb⟩ := hzz
 have hr := run_make (P := Tryz.prog) w 44 46 i _ Tryz.underlying44 hi hz .i64 .i64 n n (by omega) (Int.le_refl _) (by rw [hb]; omega) (by omega)
 simp only [Int.toNat_natCast, hs, Value.cells] at hr
 exact hr
def CptoPlanSW (w : World) (n : Nat) (kid : Nat → PT) (e : Ending) (w' : World) : Prop := ∃ (g : Nat) (k' : Nat → PT), e = .returned (.slice (some ⟨g, 0, none⟩) n n) ∧ KRow w.heap.size w' 28 (some ⟨g, 0, none⟩) n (fun i => (k' i).d.cells) ∧ FrW w.heap.size w' g (n * 28) ∧ (∀ i, i < n → (k' i).own w.heap.size w') ∧ (∀ i, i < n → (kid i).same (k' i)) ∧ Bl w w'
theorem toPlanSW (a : Option Addr) (cap n : Nat) (kid : Nat → PT) (w : World) (hn : n ≤ 1048576) (hR : KRow 0 w 28 a n (fun i => (kid i).d.cells))
 (IH : ∀ i, i < n → ∀ (W : World), Bl w W → Calls Tryz.prog 19 #[.agg (kid i).d.ar] W fun e w' => ∃ y : PT, e = .returned (.agg y.d.ar) ∧ y.own W.heap.size w' ∧ (kid i).same y ∧ Bl W w') :
 Calls Tryz.prog 64 #[.slice a n cap] w (CptoPlanSW w n kid) := by
 try unfold PN.ar
 have hmk := run_make_toPlanSW n hn
 by_cases hn0 : n = 0
 · subst hn0
   have hmk0 : ∀ w, (Instr.makeSlice 44 (.int .i64 0) (.int .i64 0)).run Tryz.prog w = .ok (.slice (some ⟨w.heap.size, 0, none⟩) 0 0) (w.alloc (.cells (madeCells zNa 0) 46)) := fun w => by simpa using hmk w
   clear hmk hR IH hn
   go_enter Tryz.func64, Tryz.ntmps64
   go_wp2
   refine wp_loop_rounds 1 ?_
   rw [rounds_succ]
   go_wp2
   go_ret
   exact ⟨w.heap.size, kid, rfl, .inl rfl, .inl (by simp), fun i hi => absurd hi nN, fun i hi => absurd hi nN, bl_a _⟩
 obtain ⟨b, off, rfl, _, hlt, hc⟩ := hR.resolve_left hn0
 have HC : Hd (∀ i, i < n → ∀ c u, ((kid i).d.cells)[c]? = some u → w.cell? ⟨b, off + i * 28 + c, none⟩ = some u) := hc
 have HI : Hd (∀ i, i < n → ∀ (W : World), Bl w W → Cl 19 #[.agg (kid i).d.ar] W fun e w' => ∃ y : PT, e = .returned (.agg y.d.ar) ∧ y.own W.heap.size w' ∧ (kid i).same y ∧ Bl W w') := IH
 have HTH : Hd ((w.alloc (.cells (madeCells zNa (n * 28)) 46)).there w.heap.size 0 (n * 28)) := fun j hj => by
  have hs := size_madeCells zNa (n * 28)
  have h := OB.new w (madeCells zNa (n * 28)) 46
  have h2 := h.2 (0 + j) _ (List.getElem?_eq_getElem (by rw [Array.length_toList, hs]; omega))
  exact ⟨by rw [h2.1]; rfl, h2.2⟩
 clear hR hc IH
 go_enter Tryz.func64, Tryz.ntmps64
 go_wp2
 go_loopw [4] (fun i wr => ∃ (k : Nat) (f : Nat → PT), k ≤ n ∧ i = .int .i64 k ∧ Hd (wr.there w.heap.size 0 (n * 28)) ∧ Hd (∀ j, j < k → wr.rangeAt w.heap.size (j * 28) ((f j).d.cells)) ∧ Hd (∀ j, j < k → (f j).own (w.heap.size + 1) wr) ∧ Hd (∀ j, j < k → (kid j).same (f j)) ∧ Hd (Bl w wr) ∧ Hd (w.heap.size < wr.heap.size))
  (fun i _ => n - (intOf i).toNat)
 case atStart => exact ⟨0, kid, nZ, rfl, HTH, fun j hj => absurd hj nN, fun j hj => absurd hj nN, fun j hj => absurd hj nN, bl_a _, (show w.heap.size < _ by simp)⟩
 obtain ⟨k, f, hk, rfl, HX, HR, HL, HS, HB, HZ⟩ := hrel
 clear hmk HTH
 by_cases hlk : k < n
 · have hlkz : (k : Int) < (n : Int) := by omega
   have hcx : ∀ c u, ((kid k).d.cells)[c]? = some u → wr.cell? ⟨b, off + k * 28 + c, none⟩ = some u := fun c u hu => (HB.o.cell (p := ⟨b, off + k * 28 + c, none⟩) hlt).trans (HC.o k hlk c u hu)
   have Z := HI.o k hlk
   go_wp2_with (refine wpList_load_mid rfl 68 _ rfl b (off + k * 28) rfl (kid k).d.cl _ hcx Tryz.underlying68 rfl (by kernel_rfl) ?_; try simp only [Act.put, sA, zA, cA])
   refine (Z _ HB.o).mono ?_
   rintro e w2 ⟨y, rfl, hy, he, hb2⟩
   have hkz : k * 28 + 28 ≤ n * 28 := by rw [← Nat.succ_mul]; exact Nat.mul_le_mul_right _ hlk
   have hth : w2.there w.heap.size (k * 28) 28 := fun j hj => by
    have h := HX.o (k * 28 + j) (by omega)
    rw [Nat.zero_add] at h
    exact ⟨by rw [hb2.cell (p := ⟨w.heap.size, k * 28 + j, none⟩) HZ.o]; exact h.1, (hb2.frozen (p := ⟨w.heap.size, k * 28 + j, none⟩) HZ.o).trans h.2⟩
   have HN1 : Hd ((w2.setCells w.heap.size (k * 28) y.d.cl).there w.heap.size 0 (n * 28)) := World.there_setCells (fun j hj => ⟨by rw [hb2.cell (p := ⟨w.heap.size, 0 + j, none⟩) HZ.o]; exact (HX.o j hj).1, (hb2.frozen (p := ⟨w.heap.size, 0 + j, none⟩) HZ.o).trans (HX.o j hj).2⟩) _ _ _
   have hlen : (y.d.cl : List Value).length = 28 := rfl
   have HN2 : Hd (∀ j, j < k + 1 → (w2.setCells w.heap.size (k * 28) y.d.cl).rangeAt w.heap.size (j * 28) ((if j = k then y else f j).d.cells)) := fun j hj => by
    by_cases e : j = k
    · subst e
      rw [if_pos rfl]
      exact World.rangeAt_setCells_same w2 w.heap.size (j * 28) y.d.cl (by rw [hlen]; exact hth)
    rw [if_neg e]
    have hjk : j * 28 + 28 ≤ k * 28 := by rw [← Nat.succ_mul]; exact Nat.mul_le_mul_right _ (by omega)
    refine World.rangeAt_setCells_apart (fun c u hu => (hb2.cell (p := ⟨w.heap.size, j * 28 + c, none⟩) HZ.o).trans (HR.o j (by omega) c u hu)) _ _ _ (.inr (.inl ?_))
    show j * 28 + 28 ≤ _
    exact hjk
   have hu3 : Upper (w.heap.size + 1) w2 (w2.setCells w.heap.size (k * 28) y.d.cl) := upper_sets _ _ _ _
   have HN3 : Hd (∀ j, j < k + 1 → (if j = k then y else f j).own (w.heap.size + 1) (w2.setCells w.heap.size (k * 28) y.d.cl)) := fun j hj => by
    by_cases e : j = k
    · rw [if_pos e]
      exact ((hy).base HZ.o).upper hu3
    rw [if_neg e]
    exact ((HL.o j (by omega)).upper (uB hb2)).upper hu3
   have HN4 : Hd (∀ j, j < k + 1 → (kid j).same (if j = k then y else f j)) := fun j hj => by
    by_cases e : j = k
    · rw [if_pos e, e]
      exact he
    rw [if_neg e]
    exact HS.o j (by omega)
   have HN5 : Hd (Bl w (w2.setCells w.heap.size (k * 28) y.d.cl)) := below_sets _ nR _ _ _ (bl_trans HB.o hb2)
   have HN6 : Hd (w.heap.size < (w2.setCells w.heap.size (k * 28) y.d.cl).heap.size) := Nat.lt_of_lt_of_le (Nat.lt_of_lt_of_le HZ.o hb2.size) hu3.size
   have one1 : (y.d.ar : Array Value).all (·.oneCell') = true := all_oneCell_toArray (cs := y.d.cl) (by simp [Value.oneCell'])
   clear Z hcx hy he hb2 hu3 hlen hkz HX HR HL HS HB HZ
   go_upto_region 4 with (refine wpList_store_mid rfl 46 _ _ rfl w.heap.size (k * 28) y.d.ar rfl rfl hth (by kernel_rfl) one1 ?_; try simp only [Act.put])
   clear hth one1
   go_wp2
   go_roundw
   case rel => exact ⟨k + 1, fun j => if j = k then y else f j, by omega, by go_num, HN1, HN2, HN3, HN4, HN5, HN6⟩
   case measure => simp [intOf]; omega
 obtain rfl : k = n := by omega
 have hlkz : ¬ (k : Int) < (k : Int) := by omega
 go_wp2
 go_ret
 exact ⟨w.heap.size, f, rfl, .inr ⟨w.heap.size, 0, rfl, nR, HZ.o, fun i hi c u hu => by rw [Nat.zero_add]; exact HR.o i hi c u hu⟩, .inr ⟨nR, HZ.o, fun j hj => by have h := (HX.o j hj).2; rwa [Nat.zero_add] at h⟩, fun i hi => (HL.o i hi).base (Nat.le_succ _), HS.o, HB.o⟩
theorem toPlanW (e : PT) : ∀ (w : World), e.lies 0 w → Calls Tryz.prog 19 #[.agg e.d.ar] w fun r w' => ∃ y : PT, r = .returned (.agg y.d.ar) ∧ y.own w.heap.size w' ∧ e.same y ∧ Bl w w' := by
 induction e with
 | nil => exact fun _ h => False.elim h
 | mk d kid ih =>
  intro w h
  show Calls Tryz.prog 19 #[.agg d.ar] w fun r w' => ∃ y : PT, r = .returned (.agg y.d.ar) ∧ y.own w.heap.size w' ∧ (PT.mk d kid).same y ∧ Bl w w'
  obtain ⟨hp, he, hv, ht, htn, hn, hR, hk⟩ := h
  have HZ1 : Hd (∀ (W : World), Bl w W → Cl 63 #[.agg d.p.ar] W fun e w' => ∃ y : PB, e = .returned (.agg y.ar) ∧ y.own W.heap.size w' ∧ d.p.same y ∧ Bl W w') := fun W hb => toPatW d.p W (hp.upper (uB hb))
  have HZ2 : Hd (∀ (W : World), Bl w W → Cl 32 #[.agg d.e.d.ar] W fun e w' => ∃ y : ET, e = .returned (.agg y.d.ar) ∧ y.own W.heap.size w' ∧ d.e.same y ∧ Bl W w') := fun W hb => toExprW d.e W (ET.lies.upper (uB hb) he)
  have HZ3 : Hd (∀ (W : World), Bl w W → Cl 33 #[.slice d.v.a d.v.len d.v.cap] W fun e w' => ∃ y : SL, e = .returned (.slice y.a y.len y.cap) ∧ y.own W.heap.size w' ∧ d.v.same y ∧ Bl W w') := fun W hb => toByteSW d.v W (hv.upper (uB hb))
  have HZ4 : Hd (∀ (W : World), Bl w W → Cl 34 #[.slice d.ta d.tb.length d.tc] W fun e w' => ∃ (a' : Option Addr) (c' : Nat) (l' : List TB), e = .returned (.slice a' l'.length c') ∧ TRowF W.heap.size w' a' l' ∧ TsW W.heap.size w' a' l' ∧ d.tb.map TB.td = l'.map TB.td ∧ Bl W w') := fun W hb => toTermSW d.ta d.tc d.tb W htn (ht.upper (uB hb))
  have HZ5 : Hd (∀ (W : World), Bl w W → Cl 64 #[.slice d.ka d.n d.kc] W fun e w' => ∃ (g : Nat) (k' : Nat → PT), e = .returned (.slice (some ⟨g, 0, none⟩) d.n d.n) ∧ KRow W.heap.size w' 28 (some ⟨g, 0, none⟩) d.n (fun i => (k' i).d.cells) ∧ FrW W.heap.size w' g (d.n * 28) ∧ (∀ i, i < d.n → (k' i).own W.heap.size w') ∧ (∀ i, i < d.n → (kid i).same (k' i)) ∧ Bl W w') := fun W hb => toPlanSW d.ka d.kc d.n kid W hn (hR.upper (uB hb)) fun i hi W' hW => ih i W' (PT.lies.upper (uB (bl_trans hb hW)) (hk i hi))
  have HN : Hd (d.n ≤ 1048576) := hn
  have HTN : Hd (d.tb.length ≤ 1048576) := htn
  clear hp he hv ht htn hn hR hk ih
  go_enter Tryz.func19, Tryz.ntmps19
  have Z1 := HZ1.o
  go_wp2_with fail
  refine (Z1 _ (bl_alloc (bl_alloc (bl_a _) _) _)).mono ?_
  rintro e w1 ⟨y1, rfl, hy1, he1, hb1⟩
  have HT : Hd (TS w w1 d.cl zNl [.int .i64 d.k, .int .i64 d.ord, .slice none 0 0, .int .i64 0, .slice none 0 0, .int .i64 0, .int .i64 0, .slice none 0 0, .int .i64 0, .slice none 0 0, .int .i64 0, .int .i64 0, .slice none 0 0, .int .i64 0, .slice none 0 0, .int .i64 0, .int .i64 0, .int .i64 0, .int .i64 0, .slice none 0 0, .int .i64 0, .slice none 0 0, .int .i64 0, .int .i64 0, .slice none 0 0, .slice none 0 0, .slice none 0 0, .slice none 0 0]) := (TS.new w d.ar zNa #[.int .i64 d.k, .int .i64 d.ord, .slice none 0 0, .int .i64 0, .slice none 0 0, .int .i64 0, .int .i64 0, .slice none 0 0, .int .i64 0, .slice none 0 0, .int .i64 0, .int .i64 0, .slice none 0 0, .int .i64 0, .slice none 0 0, .int .i64 0, .int .i64 0, .int .i64 0, .int .i64 0, .slice none 0 0, .int .i64 0, .slice none 0 0, .int .i64 0, .int .i64 0, .slice none 0 0, .slice none 0 0, .slice none 0 0, .slice none 0 0] 68 46 46).below hb1
  have e3 : (w.heap.size + 1 + 1 + 1) ≤ (((w.alloc (.cells d.ar 68)).alloc (.cells zNa 46)).alloc (.cells #[.int .i64 d.k, .int .i64 d.ord, .slice none 0 0, .int .i64 0, .slice none 0 0, .int .i64 0, .int .i64 0, .slice none 0 0, .int .i64 0, .slice none 0 0, .int .i64 0, .int .i64 0, .slice none 0 0, .int .i64 0, .slice none 0 0, .int .i64 0, .int .i64 0, .int .i64 0, .int .i64 0, .slice none 0 0, .int .i64 0, .slice none 0 0, .int .i64 0, .int .i64 0, .slice none 0 0, .slice none 0 0, .slice none 0 0, .slice none 0 0] 46)).heap.size := by simp
  have HM1 : Hd (y1.own (w.heap.size + 1 + 1 + 1) (w1.setCells (w.heap.size + 1 + 1) 2 y1.cl)) := (hy1.base e3).upper (upper_sets (w.heap.size + 1 + 1) y1.cl 2 w1)
  have HE1 : Hd (d.p.same y1) := he1
  have HTn : Hd (TS w (w1.setCells (w.heap.size + 1 + 1) 2 y1.cl) d.cl zNl [.int .i64 d.k, .int .i64 d.ord, .slice y1.s.v.a y1.s.v.len y1.s.v.cap, .int .i64 y1.s.t.t.k, .slice y1.s.t.t.a y1.s.t.t.len y1.s.t.t.cap, .int .i64 y1.s.t.t.n, .int .i64 y1.s.t.t.s, .slice y1.p.v.a y1.p.v.len y1.p.v.cap, .int .i64 y1.p.t.t.k, .slice y1.p.t.t.a y1.p.t.t.len y1.p.t.t.cap, .int .i64 y1.p.t.t.n, .int .i64 y1.p.t.t.s, .slice y1.o.v.a y1.o.v.len y1.o.v.cap, .int .i64 y1.o.t.t.k, .slice y1.o.t.t.a y1.o.t.t.len y1.o.t.t.cap, .int .i64 y1.o.t.t.n, .int .i64 y1.o.t.t.s, .int .i64 0, .int .i64 0, .slice none 0 0, .int .i64 0, .slice none 0 0, .int .i64 0, .int .i64 0, .slice none 0 0, .slice none 0 0, .slice none 0 0, .slice none 0 0]) := HT.o.sets 2 _
  have st0 : w1.there (w.heap.size + 1 + 1) 2 15 := HT.o.ox.there 2 15 (by simp)
  have one1 : (y1.ar : Array Value).all (·.oneCell') = true := all_oneCell_toArray (cs := y1.cl) (by simp [Value.oneCell'])
  clear hy1 he1 hb1 e3 Z1 HZ1
  go_upto_region 5 with (refine wpList_store_mid rfl 39 _ _ rfl (w.heap.size + 1 + 1) 2 y1.ar rfl rfl st0 (by kernel_rfl) one1 ?_; try simp only [Act.put])
  clear st0 one1 HT
  generalize (w1.setCells (w.heap.size + 1 + 1) 2 y1.cl) = W1 at *
  have HT := HTn
  clear HTn
  have ld : W1.rangeAt w.heap.size 17 d.e.d.cl := HT.o.px.range 17 _ rfl
  have Z2 := HZ2.o
  go_wp2_with (refine ldm Tryz.underlying28 ld ?_; try simp only [Act.put, sA, zA, cA])
  refine (Z2 _ HT.o.bl).mono ?_
  rintro e w2 ⟨y2, rfl, hy2, he2, hb2⟩
  have e3 : (w.heap.size + 1 + 1 + 1) ≤ W1.heap.size := HT.o.base
  have HT : Hd (TS w w2 d.cl zNl [.int .i64 d.k, .int .i64 d.ord, .slice y1.s.v.a y1.s.v.len y1.s.v.cap, .int .i64 y1.s.t.t.k, .slice y1.s.t.t.a y1.s.t.t.len y1.s.t.t.cap, .int .i64 y1.s.t.t.n, .int .i64 y1.s.t.t.s, .slice y1.p.v.a y1.p.v.len y1.p.v.cap, .int .i64 y1.p.t.t.k, .slice y1.p.t.t.a y1.p.t.t.len y1.p.t.t.cap, .int .i64 y1.p.t.t.n, .int .i64 y1.p.t.t.s, .slice y1.o.v.a y1.o.v.len y1.o.v.cap, .int .i64 y1.o.t.t.k, .slice y1.o.t.t.a y1.o.t.t.len y1.o.t.t.cap, .int .i64 y1.o.t.t.n, .int .i64 y1.o.t.t.s, .int .i64 0, .int .i64 0, .slice none 0 0, .int .i64 0, .slice none 0 0, .int .i64 0, .int .i64 0, .slice none 0 0, .slice none 0 0, .slice none 0 0, .slice none 0 0]) := HT.o.below hb2
  have HM2 : Hd (y2.own (w.heap.size + 1 + 1 + 1) (w2.setCells (w.heap.size + 1 + 1) 17 y2.d.cl)) := (hy2.base e3).upper (upper_sets (w.heap.size + 1 + 1) y2.d.cl 17 w2)
  have HM1 : Hd (y1.own (w.heap.size + 1 + 1 + 1) (w2.setCells (w.heap.size + 1 + 1) 17 y2.d.cl)) := (HM1.o.upper (uB hb2)).upper (upper_sets (w.heap.size + 1 + 1) y2.d.cl 17 w2)
  have HE2 : Hd (d.e.same y2) := he2
  have HTn : Hd (TS w (w2.setCells (w.heap.size + 1 + 1) 17 y2.d.cl) d.cl zNl [.int .i64 d.k, .int .i64 d.ord, .slice y1.s.v.a y1.s.v.len y1.s.v.cap, .int .i64 y1.s.t.t.k, .slice y1.s.t.t.a y1.s.t.t.len y1.s.t.t.cap, .int .i64 y1.s.t.t.n, .int .i64 y1.s.t.t.s, .slice y1.p.v.a y1.p.v.len y1.p.v.cap, .int .i64 y1.p.t.t.k, .slice y1.p.t.t.a y1.p.t.t.len y1.p.t.t.cap, .int .i64 y1.p.t.t.n, .int .i64 y1.p.t.t.s, .slice y1.o.v.a y1.o.v.len y1.o.v.cap, .int .i64 y1.o.t.t.k, .slice y1.o.t.t.a y1.o.t.t.len y1.o.t.t.cap, .int .i64 y1.o.t.t.n, .int .i64 y1.o.t.t.s, .int .i64 y2.d.k, .int .i64 y2.d.op, .slice y2.d.v.a y2.d.v.len y2.d.v.cap, .int .i64 y2.d.t.t.k, .slice y2.d.t.t.a y2.d.t.t.len y2.d.t.t.cap, .int .i64 y2.d.t.t.n, .int .i64 y2.d.t.t.s, .slice y2.d.ka y2.d.n y2.d.kc, .slice none 0 0, .slice none 0 0, .slice none 0 0]) := HT.o.sets 17 _
  have st0 : w2.there (w.heap.size + 1 + 1) 17 8 := HT.o.ox.there 17 8 (by simp)
  have one1 : (y2.d.ar : Array Value).all (·.oneCell') = true := all_oneCell_toArray (cs := y2.d.cl) (by simp [Value.oneCell'])
  clear hy2 he2 hb2 e3 Z2 HZ2 ld
  go_upto_region 6 with (refine wpList_store_mid rfl 42 _ _ rfl (w.heap.size + 1 + 1) 17 y2.d.ar rfl rfl st0 (by kernel_rfl) one1 ?_; try simp only [Act.put])
  clear st0 one1 HT
  generalize (w2.setCells (w.heap.size + 1 + 1) 17 y2.d.cl) = W2 at *
  have HT := HTn
  clear HTn
  have ld := HT.o.px.2 25 _ rfl
  have Z3 := HZ3.o
  go_wp2_with fail
  refine (Z3 _ HT.o.bl).mono ?_
  rintro e w3 ⟨y3, rfl, hy3, he3, hb3⟩
  have e3 : (w.heap.size + 1 + 1 + 1) ≤ W2.heap.size := HT.o.base
  have HT : Hd (TS w w3 d.cl zNl [.int .i64 d.k, .int .i64 d.ord, .slice y1.s.v.a y1.s.v.len y1.s.v.cap, .int .i64 y1.s.t.t.k, .slice y1.s.t.t.a y1.s.t.t.len y1.s.t.t.cap, .int .i64 y1.s.t.t.n, .int .i64 y1.s.t.t.s, .slice y1.p.v.a y1.p.v.len y1.p.v.cap, .int .i64 y1.p.t.t.k, .slice y1.p.t.t.a y1.p.t.t.len y1.p.t.t.cap, .int .i64 y1.p.t.t.n, .int .i64 y1.p.t.t.s, .slice y1.o.v.a y1.o.v.len y1.o.v.cap, .int .i64 y1.o.t.t.k, .slice y1.o.t.t.a y1.o.t.t.len y1.o.t.t.cap, .int .i64 y1.o.t.t.n, .int .i64 y1.o.t.t.s, .int .i64 y2.d.k, .int .i64 y2.d.op, .slice y2.d.v.a y2.d.v.len y2.d.v.cap, .int .i64 y2.d.t.t.k, .slice y2.d.t.t.a y2.d.t.t.len y2.d.t.t.cap, .int .i64 y2.d.t.t.n, .int .i64 y2.d.t.t.s, .slice y2.d.ka y2.d.n y2.d.kc, .slice none 0 0, .slice none 0 0, .slice none 0 0]) := HT.o.below hb3
  have HM3 : Hd (y3.own (w.heap.size + 1 + 1 + 1) (w3.setCell ⟨w.heap.size + 1 + 1, 25, none⟩ (.slice y3.a y3.len y3.cap))) := (hy3.base e3).upper (upper_set (w := w3) (g := w.heap.size + 1 + 1) (i := 25) (.slice y3.a y3.len y3.cap))
  have HM2 : Hd (y2.own (w.heap.size + 1 + 1 + 1) (w3.setCell ⟨w.heap.size + 1 + 1, 25, none⟩ (.slice y3.a y3.len y3.cap))) := (HM2.o.upper (uB hb3)).upper (upper_set (w := w3) (g := w.heap.size + 1 + 1) (i := 25) (.slice y3.a y3.len y3.cap))
  have HM1 : Hd (y1.own (w.heap.size + 1 + 1 + 1) (w3.setCell ⟨w.heap.size + 1 + 1, 25, none⟩ (.slice y3.a y3.len y3.cap))) := (HM1.o.upper (uB hb3)).upper (upper_set (w := w3) (g := w.heap.size + 1 + 1) (i := 25) (.slice y3.a y3.len y3.cap))
  have HE3 : Hd (d.v.same y3) := he3
  have HTn : Hd (TS w (w3.setCell ⟨w.heap.size + 1 + 1, 25, none⟩ (.slice y3.a y3.len y3.cap)) d.cl zNl (wL d.k d.ord y1 y2.d y3 (.slice none 0 0) (.slice none 0 0))) := HT.o.set 25 _
  have st0 := (HT.o.ox.2 25 _ rfl).1
  have st1 := (HT.o.ox.2 25 _ rfl).2
  clear hy3 he3 hb3 e3 Z3 HZ3 ld
  go_upto_region 7 with fail
  clear st0 st1 HT
  generalize (w3.setCell ⟨w.heap.size + 1 + 1, 25, none⟩ (.slice y3.a y3.len y3.cap)) = W3 at *
  have HT := HTn
  clear HTn
  have ld := HT.o.px.2 26 _ rfl
  have Z4 := HZ4.o
  go_wp2_with fail
  refine (Z4 _ HT.o.bl).mono ?_
  rintro e w4 ⟨g4, c4, y4, rfl, hy4, hw4, he4, hb4⟩
  have e3 : (w.heap.size + 1 + 1 + 1) ≤ W3.heap.size := HT.o.base
  have HT : Hd (TS w w4 d.cl zNl (wL d.k d.ord y1 y2.d y3 (.slice none 0 0) (.slice none 0 0))) := HT.o.below hb4
  have HM4 : Hd (TRowF (w.heap.size + 1 + 1 + 1) (w4.setCell ⟨w.heap.size + 1 + 1, 26, none⟩ (.slice g4 y4.length c4)) g4 y4) := (hy4.base e3).upper (upper_set (w := w4) (g := w.heap.size + 1 + 1) (i := 26) (.slice g4 y4.length c4))
  have HW4 : Hd (TsW (w.heap.size + 1 + 1 + 1) (w4.setCell ⟨w.heap.size + 1 + 1, 26, none⟩ (.slice g4 y4.length c4)) g4 y4) := (hw4.base e3).upper (upper_set (w := w4) (g := w.heap.size + 1 + 1) (i := 26) (.slice g4 y4.length c4))
  have HM3 : Hd (y3.own (w.heap.size + 1 + 1 + 1) (w4.setCell ⟨w.heap.size + 1 + 1, 26, none⟩ (.slice g4 y4.length c4))) := (HM3.o.upper (uB hb4)).upper (upper_set (w := w4) (g := w.heap.size + 1 + 1) (i := 26) (.slice g4 y4.length c4))
  have HM2 : Hd (y2.own (w.heap.size + 1 + 1 + 1) (w4.setCell ⟨w.heap.size + 1 + 1, 26, none⟩ (.slice g4 y4.length c4))) := (HM2.o.upper (uB hb4)).upper (upper_set (w := w4) (g := w.heap.size + 1 + 1) (i := 26) (.slice g4 y4.length c4))
  have HM1 : Hd (y1.own (w.heap.size + 1 + 1 + 1) (w4.setCell ⟨w.heap.size + 1 + 1, 26, none⟩ (.slice g4 y4.length c4))) := (HM1.o.upper (uB hb4)).upper (upper_set (w := w4) (g := w.heap.size + 1 + 1) (i := 26) (.slice g4 y4.length c4))
  have HE4 : Hd (d.tb.map TB.td = y4.map TB.td) := he4
  have HTn : Hd (TS w (w4.setCell ⟨w.heap.size + 1 + 1, 26, none⟩ (.slice g4 y4.length c4)) d.cl zNl (wL d.k d.ord y1 y2.d y3 (.slice g4 y4.length c4) (.slice none 0 0))) := HT.o.set 26 _
  have st0 := (HT.o.ox.2 26 _ rfl).1
  have st1 := (HT.o.ox.2 26 _ rfl).2
  clear hy4 hw4 he4 hb4 e3 Z4 HZ4 ld
  go_upto_region 8 with fail
  clear st0 st1 HT
  generalize (w4.setCell ⟨w.heap.size + 1 + 1, 26, none⟩ (.slice g4 y4.length c4)) = W4 at *
  have HT := HTn
  clear HTn
  have ld := HT.o.px.2 27 _ rfl
  have Z5 := HZ5.o
  go_wp2_with fail
  refine (Z5 _ HT.o.bl).mono ?_
  rintro e w5 ⟨g5, k5, rfl, hy5, hw5, hz5, he5, hb5⟩
  have e3 : (w.heap.size + 1 + 1 + 1) ≤ W4.heap.size := HT.o.base
  have HT : Hd (TS w w5 d.cl zNl (wL d.k d.ord y1 y2.d y3 (.slice g4 y4.length c4) (.slice none 0 0))) := HT.o.below hb5
  have HM5 : Hd (KRow (w.heap.size + 1 + 1 + 1) (w5.setCell ⟨w.heap.size + 1 + 1, 27, none⟩ (.slice (some ⟨g5, 0, none⟩) d.n d.n)) 28 (some ⟨g5, 0, none⟩) d.n (fun i => (k5 i).d.cells)) := (hy5.base e3).upper (upper_set (w := w5) (g := w.heap.size + 1 + 1) (i := 27) (.slice (some ⟨g5, 0, none⟩) d.n d.n))
  have HW5 : Hd (FrW (w.heap.size + 1 + 1 + 1) (w5.setCell ⟨w.heap.size + 1 + 1, 27, none⟩ (.slice (some ⟨g5, 0, none⟩) d.n d.n)) g5 (d.n * 28)) := (hw5.base e3).upper (upper_set (w := w5) (g := w.heap.size + 1 + 1) (i := 27) (.slice (some ⟨g5, 0, none⟩) d.n d.n))
  have HL5 : Hd (∀ i, i < d.n → (k5 i).own (w.heap.size + 1 + 1 + 1) (w5.setCell ⟨w.heap.size + 1 + 1, 27, none⟩ (.slice (some ⟨g5, 0, none⟩) d.n d.n))) := fun i hi => ((fun i hi => (hz5 i hi).base e3) i hi).upper (upper_set (w := w5) (g := w.heap.size + 1 + 1) (i := 27) (.slice (some ⟨g5, 0, none⟩) d.n d.n))
  have HM4 : Hd (TRowF (w.heap.size + 1 + 1 + 1) (w5.setCell ⟨w.heap.size + 1 + 1, 27, none⟩ (.slice (some ⟨g5, 0, none⟩) d.n d.n)) g4 y4) := (HM4.o.upper (uB hb5)).upper (upper_set (w := w5) (g := w.heap.size + 1 + 1) (i := 27) (.slice (some ⟨g5, 0, none⟩) d.n d.n))
  have HW4 : Hd (TsW (w.heap.size + 1 + 1 + 1) (w5.setCell ⟨w.heap.size + 1 + 1, 27, none⟩ (.slice (some ⟨g5, 0, none⟩) d.n d.n)) g4 y4) := (HW4.o.upper (uB hb5)).upper (upper_set (w := w5) (g := w.heap.size + 1 + 1) (i := 27) (.slice (some ⟨g5, 0, none⟩) d.n d.n))
  have HM3 : Hd (y3.own (w.heap.size + 1 + 1 + 1) (w5.setCell ⟨w.heap.size + 1 + 1, 27, none⟩ (.slice (some ⟨g5, 0, none⟩) d.n d.n))) := (HM3.o.upper (uB hb5)).upper (upper_set (w := w5) (g := w.heap.size + 1 + 1) (i := 27) (.slice (some ⟨g5, 0, none⟩) d.n d.n))
  have HM2 : Hd (y2.own (w.heap.size + 1 + 1 + 1) (w5.setCell ⟨w.heap.size + 1 + 1, 27, none⟩ (.slice (some ⟨g5, 0, none⟩) d.n d.n))) := (HM2.o.upper (uB hb5)).upper (upper_set (w := w5) (g := w.heap.size + 1 + 1) (i := 27) (.slice (some ⟨g5, 0, none⟩) d.n d.n))
  have HM1 : Hd (y1.own (w.heap.size + 1 + 1 + 1) (w5.setCell ⟨w.heap.size + 1 + 1, 27, none⟩ (.slice (some ⟨g5, 0, none⟩) d.n d.n))) := (HM1.o.upper (uB hb5)).upper (upper_set (w := w5) (g := w.heap.size + 1 + 1) (i := 27) (.slice (some ⟨g5, 0, none⟩) d.n d.n))
  have HE5 : Hd (∀ i, i < d.n → (kid i).same (k5 i)) := he5
  have HTn : Hd (TS w (w5.setCell ⟨w.heap.size + 1 + 1, 27, none⟩ (.slice (some ⟨g5, 0, none⟩) d.n d.n)) d.cl zNl (wL d.k d.ord y1 y2.d y3 (.slice g4 y4.length c4) (.slice (some ⟨g5, 0, none⟩) d.n d.n))) := HT.o.set 27 _
  have st0 := (HT.o.ox.2 27 _ rfl).1
  have st1 := (HT.o.ox.2 27 _ rfl).2
  clear hy5 hw5 hz5 he5 hb5 e3 Z5 HZ5 ld
  go_upto_region 9 with fail
  clear st0 st1 HT
  generalize (w5.setCell ⟨w.heap.size + 1 + 1, 27, none⟩ (.slice (some ⟨g5, 0, none⟩) d.n d.n)) = W5 at *
  have HT := HTn
  clear HTn
  have ld : W5.rangeAt (w.heap.size + 1 + 1) 0 (wL d.k d.ord y1 y2.d y3 (.slice g4 y4.length c4) (.slice (some ⟨g5, 0, none⟩) d.n d.n)) := HT.o.ox.box.range 0 _ rfl
  have st0 : W5.there (w.heap.size + 1) 0 28 := HT.o.rz.there 0 28 (by simp)
  have one1 : ((wA d.k d.ord y1 y2.d y3 (.slice g4 y4.length c4) (.slice (some ⟨g5, 0, none⟩) d.n d.n)) : Array Value).all (·.oneCell') = true := all_oneCell_toArray (cs := (wL d.k d.ord y1 y2.d y3 (.slice g4 y4.length c4) (.slice (some ⟨g5, 0, none⟩) d.n d.n))) (by simp [Value.oneCell'])
  go_wp2_with (first | (refine ldm Tryz.underlying46 ld ?_; try simp only [Act.put, sA, zA, cA]) | (refine wpList_store_mid rfl 46 _ _ rfl (w.heap.size + 1) 0 (wA d.k d.ord y1 y2.d y3 (.slice g4 y4.length c4) (.slice (some ⟨g5, 0, none⟩) d.n d.n)) rfl rfl st0 (by kernel_rfl) one1 ?_; try simp only [Act.put]))
  have hrd : (W5.setCells (w.heap.size + 1) 0 (wL d.k d.ord y1 y2.d y3 (.slice g4 y4.length c4) (.slice (some ⟨g5, 0, none⟩) d.n d.n))).rangeAt (w.heap.size + 1) 0 (wL d.k d.ord y1 y2.d y3 (.slice g4 y4.length c4) (.slice (some ⟨g5, 0, none⟩) d.n d.n)) := World.rangeAt_setCells_same _ _ _ _ st0
  refine bodyPost_ret (v := .agg (wA d.k d.ord y1 y2.d y3 (.slice g4 y4.length c4) (.slice (some ⟨g5, 0, none⟩) d.n d.n))) ?hr rfl ?hp
  case hr => exact results_cell rfl rfl (run_loadVar_mid (P := Tryz.prog) _ (w.heap.size + 1) 0 46 (wL d.k d.ord y1 y2.d y3 (.slice g4 y4.length c4) (.slice (some ⟨g5, 0, none⟩) d.n d.n)) _ hrd Tryz.underlying46 rfl (by kernel_rfl))
  have HM5f : KRow w.heap.size (W5.setCells (w.heap.size + 1) 0 (wL d.k d.ord y1 y2.d y3 (.slice g4 y4.length c4) (.slice (some ⟨g5, 0, none⟩) d.n d.n))) 28 (some ⟨g5, 0, none⟩) d.n (fun i => (k5 i).d.cells) := ((HM5.o.upper ((upper_sets (w.heap.size + 1) (wL d.k d.ord y1 y2.d y3 (.slice g4 y4.length c4) (.slice (some ⟨g5, 0, none⟩) d.n d.n)) 0 W5).mono (by omega))).base (by omega))
  have HW5f : FrW w.heap.size (W5.setCells (w.heap.size + 1) 0 (wL d.k d.ord y1 y2.d y3 (.slice g4 y4.length c4) (.slice (some ⟨g5, 0, none⟩) d.n d.n))) g5 (d.n * 28) := ((HW5.o.upper ((upper_sets (w.heap.size + 1) (wL d.k d.ord y1 y2.d y3 (.slice g4 y4.length c4) (.slice (some ⟨g5, 0, none⟩) d.n d.n)) 0 W5).mono (by omega))).base (by omega))
  have HL5f : ∀ i, i < d.n → (k5 i).own w.heap.size (W5.setCells (w.heap.size + 1) 0 (wL d.k d.ord y1 y2.d y3 (.slice g4 y4.length c4) (.slice (some ⟨g5, 0, none⟩) d.n d.n))) := (fun i hi => ((fun i hi => (HL5.o i hi).upper ((upper_sets (w.heap.size + 1) (wL d.k d.ord y1 y2.d y3 (.slice g4 y4.length c4) (.slice (some ⟨g5, 0, none⟩) d.n d.n)) 0 W5).mono (by omega))) i hi).base (by omega))
  have HM4f : TRowF w.heap.size (W5.setCells (w.heap.size + 1) 0 (wL d.k d.ord y1 y2.d y3 (.slice g4 y4.length c4) (.slice (some ⟨g5, 0, none⟩) d.n d.n))) g4 y4 := ((HM4.o.upper ((upper_sets (w.heap.size + 1) (wL d.k d.ord y1 y2.d y3 (.slice g4 y4.length c4) (.slice (some ⟨g5, 0, none⟩) d.n d.n)) 0 W5).mono (by omega))).base (by omega))
  have HW4f : TsW w.heap.size (W5.setCells (w.heap.size + 1) 0 (wL d.k d.ord y1 y2.d y3 (.slice g4 y4.length c4) (.slice (some ⟨g5, 0, none⟩) d.n d.n))) g4 y4 := ((HW4.o.upper ((upper_sets (w.heap.size + 1) (wL d.k d.ord y1 y2.d y3 (.slice g4 y4.length c4) (.slice (some ⟨g5, 0, none⟩) d.n d.n)) 0 W5).mono (by omega))).base (by omega))
  have HM3f : y3.own w.heap.size (W5.setCells (w.heap.size + 1) 0 (wL d.k d.ord y1 y2.d y3 (.slice g4 y4.length c4) (.slice (some ⟨g5, 0, none⟩) d.n d.n))) := ((HM3.o.upper ((upper_sets (w.heap.size + 1) (wL d.k d.ord y1 y2.d y3 (.slice g4 y4.length c4) (.slice (some ⟨g5, 0, none⟩) d.n d.n)) 0 W5).mono (by omega))).base (by omega))
  have HM2f : y2.own w.heap.size (W5.setCells (w.heap.size + 1) 0 (wL d.k d.ord y1 y2.d y3 (.slice g4 y4.length c4) (.slice (some ⟨g5, 0, none⟩) d.n d.n))) := ((HM2.o.upper ((upper_sets (w.heap.size + 1) (wL d.k d.ord y1 y2.d y3 (.slice g4 y4.length c4) (.slice (some ⟨g5, 0, none⟩) d.n d.n)) 0 W5).mono (by omega))).base (by omega))
  have HM1f : y1.own w.heap.size (W5.setCells (w.heap.size + 1) 0 (wL d.k d.ord y1 y2.d y3 (.slice g4 y4.length c4) (.slice (some ⟨g5, 0, none⟩) d.n d.n))) := ((HM1.o.upper ((upper_sets (w.heap.size + 1) (wL d.k d.ord y1 y2.d y3 (.slice g4 y4.length c4) (.slice (some ⟨g5, 0, none⟩) d.n d.n)) 0 W5).mono (by omega))).base (by omega))
  have hbf : Bl w (W5.setCells (w.heap.size + 1) 0 (wL d.k d.ord y1 y2.d y3 (.slice g4 y4.length c4) (.slice (some ⟨g5, 0, none⟩) d.n d.n))) := below_sets _ (by omega) _ _ _ HT.o.bl
  have hl4 : y4.length ≤ 1048576 := by have h := congrArg List.length HE4.o; simp at h; have := HTN.o; omega
  exact ⟨PT.mk ⟨d.k, d.ord, y1, y2, y3, g4, c4, y4, some ⟨g5, 0, none⟩, d.n, d.n⟩ k5, rfl, ⟨⟨HM1f.lies, HM2f.1, HM3f.1, HM4f, hl4, HN.o, HM5f, fun i hi => (HL5f i hi).1⟩, HM1f, HM2f.2, HM3f.2, HW4f, ⟨g5, rfl, HW5f⟩, fun i hi => (HL5f i hi).2⟩, ⟨rfl, rfl, HE1.o, HE2.o, HE3.o, HE4.o, rfl, HE5.o⟩, hbf⟩
end Go.Proofs.YtoloadogihbdeaaGreat
