/- Texts put together: TbB -/
import Derived.Test.YtganfiajhokkmaaGreatDoorMk05
/- TbB -/
namespace Go.Proofs.YtganfiajhokkmaaGreatDoor
open Go.RowKit Go.Deep
set_option maxRecDepth 100000

/-- A text that may be written, in a block from B on. -/
def TxW (B : Nat) (w : World) (x : SL) : Prop := x.len = 0 ∨ ∃ g, x.a = some ⟨g, 0, none⟩ ∧ B ≤ g ∧ g < w.heap.size ∧ ∀ i, i < x.len → w.frozen? ⟨g, i, none⟩ = false
theorem TxW.upper {B : Nat} {w w' : World} {x : SL} (h : TxW B w x) (hu : Upper B w w') : TxW B w' x := by
  rcases h with h | ⟨g, ha, hB, hlt, hf⟩
  · exact .inl h
  · exact .inr ⟨g, ha, hB, Nat.lt_of_lt_of_le hlt hu.size, fun i hi => (World.frozen?_of_block (w := w) (a := ⟨g, i, none⟩) (hu.block g hB hlt)).trans (hf i hi)⟩
theorem TxW.base {B B' : Nat} {w : World} {x : SL} (h : TxW B w x) (hB : B' ≤ B) : TxW B' w x := by
  rcases h with h | ⟨g, ha, hb, r⟩
  · exact .inl h
  · exact .inr ⟨g, ha, Nat.le_trans hB hb, r⟩
/-- A row of m cells that may be written. -/
def FrW (B : Nat) (w : World) (g m : Nat) : Prop := m = 0 ∨ B ≤ g ∧ g < w.heap.size ∧ ∀ j, j < m → w.frozen? ⟨g, j, none⟩ = false
theorem FrW.upper {B : Nat} {w w' : World} {g m : Nat} (h : FrW B w g m) (hu : Upper B w w') : FrW B w' g m := by
  rcases h with h | ⟨hB, hlt, hf⟩
  · exact .inl h
  · exact .inr ⟨hB, Nat.lt_of_lt_of_le hlt hu.size, fun j hj => (World.frozen?_of_block (w := w) (a := ⟨g, j, none⟩) (hu.block g hB hlt)).trans (hf j hj)⟩
theorem FrW.base {B B' : Nat} {w : World} {g m : Nat} (h : FrW B w g m) (hB : B' ≤ B) : FrW B' w g m := by
  rcases h with h | ⟨hb, r⟩
  · exact .inl h
  · exact .inr ⟨Nat.le_trans hB hb, r⟩
def SL.own (B : Nat) (w : World) (x : SL) : Prop := BsF B w x ∧ TxW B w x
def CB.own (B : Nat) (w : World) (x : CB) : Prop := x.lies B w ∧ TxW B w x.t.sl
def SO.own (B : Nat) (w : World) (x : SO) : Prop := x.lies B w ∧ (∀ i, i < x.n → TxW B w (x.cel i).t.sl) ∧ ∃ g, x.a = some ⟨g, 0, none⟩ ∧ FrW B w g (x.n * 5)
def TL.own (B : Nat) (w : World) (x : TL) : Prop := x.lies B w ∧ (∀ i, i < x.vn → (x.var i).own B w) ∧ (∀ i, i < x.rn → (x.row i).own B w) ∧ (∃ g, x.va = some ⟨g, 0, none⟩) ∧ ∃ g, x.ra = some ⟨g, 0, none⟩
theorem SL.own.upper {B : Nat} {w w' : World} {x : SL} (h : x.own B w) (hu : Upper B w w') : x.own B w' := ⟨h.1.upper hu, h.2.upper hu⟩
theorem SL.own.base {B B' : Nat} {w : World} {x : SL} (h : x.own B w) (hB : B' ≤ B) : x.own B' w := ⟨h.1.base hB, h.2.base hB⟩
theorem CB.own.upper {B : Nat} {w w' : World} {x : CB} (h : x.own B w) (hu : Upper B w w') : x.own B w' := ⟨h.1.upper hu, h.2.upper hu⟩
theorem CB.own.base {B B' : Nat} {w : World} {x : CB} (h : x.own B w) (hB : B' ≤ B) : x.own B' w := ⟨h.1.base hB, h.2.base hB⟩
theorem SO.own.upper {B : Nat} {w w' : World} {x : SO} (h : x.own B w) (hu : Upper B w w') : x.own B w' := ⟨h.1.upper hu, fun i hi => (h.2.1 i hi).upper hu, h.2.2.imp fun _ hg => ⟨hg.1, hg.2.upper hu⟩⟩
theorem SO.own.base {B B' : Nat} {w : World} {x : SO} (h : x.own B w) (hB : B' ≤ B) : x.own B' w := ⟨h.1.base hB, fun i hi => (h.2.1 i hi).base hB, h.2.2.imp fun _ hg => ⟨hg.1, hg.2.base hB⟩⟩
theorem toByteSW (x : SL) (w : World) (h : BsF 0 w x) : Calls Tryz.prog 39 #[.slice x.a x.len x.cap] w fun e w' => ∃ y : SL, e = .returned (.slice y.a y.len y.cap) ∧ y.own w.heap.size w' ∧ x.same y ∧ Below w.heap.size w w' := by
  refine (toByteS_any x.a x.len x.cap x.b w h.1).mono ?_
  rintro e w' ⟨rfl, rfl⟩
  obtain ⟨h1, h2, h3, _⟩ := h.1
  exact ⟨⟨some ⟨w.heap.size, 0, none⟩, x.len, x.len, x.b⟩, rfl, ⟨⟨Bs.made w x.b x.len h1 h2 h3, .inr fun p hp => by cases hp; exact Nat.le_refl _⟩, .inr ⟨w.heap.size, rfl, Nat.le_refl _, by simp, fun i _ => by simp [go_sem]⟩⟩, rfl, bl_a _⟩
theorem toTermW (x : TB) (w : World) (h : BsF 0 w x.sl) (hf : x.t.fits) : Calls Tryz.prog 85 #[.agg #[.int .i64 x.t.k, .slice x.t.a x.t.len x.t.cap, .int .i64 x.t.n, .int .i64 x.t.s]] w fun e w' => ∃ y : TB, e = .returned (.agg #[.int .i64 y.t.k, .slice y.t.a y.t.len y.t.cap, .int .i64 y.t.n, .int .i64 y.t.s]) ∧ BsF w.heap.size w' y.sl ∧ TxW w.heap.size w' y.sl ∧ y.t.fits ∧ x.td = y.td ∧ Below w.heap.size w w' := by
  refine (toTerm_new x.t.k x.t.n x.t.s x.t.a x.t.len x.t.cap x.b w h.1).mono ?_
  rintro e w' ⟨g, rfl, hO, hg, hb⟩
  exact ⟨⟨⟨x.t.k, some ⟨g, 0, none⟩, x.t.len, x.t.len, x.t.n, x.t.s⟩, x.b⟩, rfl, ⟨hO.1, .inr fun p hp => by cases hp; exact hg⟩, .inr ⟨g, rfl, hg, hO.2.1, hO.2.2.2⟩, hf, rfl, hb⟩
theorem toCell_to (x : CB) (w : World) (h : x.lies 0 w) : Calls Tryz.prog 73 #[.agg #[.bool x.has, .int .i64 x.t.t.k, .slice x.t.t.a x.t.t.len x.t.t.cap, .int .i64 x.t.t.n, .int .i64 x.t.t.s]] w fun e w' => ∃ y : CB, e = .returned (.agg #[.bool y.has, .int .i64 y.t.t.k, .slice y.t.t.a y.t.t.len y.t.t.cap, .int .i64 y.t.t.n, .int .i64 y.t.t.s]) ∧ y.own w.heap.size w' ∧ x.same y ∧ Below w.heap.size w w' := by
  have HZ1 : Hid (∀ (W : World), Below w.heap.size w W → Calls Tryz.prog 85 #[.agg #[.int .i64 x.t.t.k, .slice x.t.t.a x.t.t.len x.t.t.cap, .int .i64 x.t.t.n, .int .i64 x.t.t.s]] W fun e w' => ∃ y : TB, e = .returned (.agg #[.int .i64 y.t.k, .slice y.t.a y.t.len y.t.cap, .int .i64 y.t.n, .int .i64 y.t.s]) ∧ BsF W.heap.size w' y.sl ∧ TxW W.heap.size w' y.sl ∧ y.t.fits ∧ x.t.td = y.td ∧ Below W.heap.size W w') := fun W hb => toTermW x.t W (h.1.upper (Upper.of_below hb)) h.2
  clear h
  go_enter Tryz.func73, Tryz.ntmps73
  have Z1 := HZ1.out
  go_wp2_with fail
  refine (Z1 _ (bl_alloc (bl_alloc (bl_a _) _) _)).mono ?_
  rintro e w1 ⟨y1, rfl, hy1, hw1, hf1, he1, hb1⟩
  have HT : Hid (TS w w1 [.bool x.has, .int .i64 x.t.t.k, .slice x.t.t.a x.t.t.len x.t.t.cap, .int .i64 x.t.t.n, .int .i64 x.t.t.s] [.bool false, .int .i64 0, .slice none 0 0, .int .i64 0, .int .i64 0] [.bool x.has, .int .i64 0, .slice none 0 0, .int .i64 0, .int .i64 0]) := (TS.new w #[.bool x.has, .int .i64 x.t.t.k, .slice x.t.t.a x.t.t.len x.t.t.cap, .int .i64 x.t.t.n, .int .i64 x.t.t.s] #[.bool false, .int .i64 0, .slice none 0 0, .int .i64 0, .int .i64 0] #[.bool x.has, .int .i64 0, .slice none 0 0, .int .i64 0, .int .i64 0] 97 54 54).below hb1
  have e3 : (w.heap.size + 1 + 1 + 1) ≤ (((w.alloc (.cells #[.bool x.has, .int .i64 x.t.t.k, .slice x.t.t.a x.t.t.len x.t.t.cap, .int .i64 x.t.t.n, .int .i64 x.t.t.s] 97)).alloc (.cells #[.bool false, .int .i64 0, .slice none 0 0, .int .i64 0, .int .i64 0] 54)).alloc (.cells #[.bool x.has, .int .i64 0, .slice none 0 0, .int .i64 0, .int .i64 0] 54)).heap.size := by simp
  have HM1 : Hid (BsF (w.heap.size + 1 + 1 + 1) (w1.setCells (w.heap.size + 1 + 1) 1 [.int .i64 y1.t.k, .slice y1.t.a y1.t.len y1.t.cap, .int .i64 y1.t.n, .int .i64 y1.t.s]) y1.sl) := (hy1.base e3).upper (upper_sets (w.heap.size + 1 + 1) [.int .i64 y1.t.k, .slice y1.t.a y1.t.len y1.t.cap, .int .i64 y1.t.n, .int .i64 y1.t.s] 1 w1)
  have HW1 : Hid (TxW (w.heap.size + 1 + 1 + 1) (w1.setCells (w.heap.size + 1 + 1) 1 [.int .i64 y1.t.k, .slice y1.t.a y1.t.len y1.t.cap, .int .i64 y1.t.n, .int .i64 y1.t.s]) y1.sl) := (hw1.base e3).upper (upper_sets (w.heap.size + 1 + 1) [.int .i64 y1.t.k, .slice y1.t.a y1.t.len y1.t.cap, .int .i64 y1.t.n, .int .i64 y1.t.s] 1 w1)
  have HE1 : Hid (x.t.td = y1.td) := he1
  have HF1 : Hid (y1.t.fits) := hf1
  have HTn : Hid (TS w (w1.setCells (w.heap.size + 1 + 1) 1 [.int .i64 y1.t.k, .slice y1.t.a y1.t.len y1.t.cap, .int .i64 y1.t.n, .int .i64 y1.t.s]) [.bool x.has, .int .i64 x.t.t.k, .slice x.t.t.a x.t.t.len x.t.t.cap, .int .i64 x.t.t.n, .int .i64 x.t.t.s] [.bool false, .int .i64 0, .slice none 0 0, .int .i64 0, .int .i64 0] [.bool x.has, .int .i64 y1.t.k, .slice y1.t.a y1.t.len y1.t.cap, .int .i64 y1.t.n, .int .i64 y1.t.s]) := HT.out.sets 1 _
  have st0 : w1.there (w.heap.size + 1 + 1) 1 4 := HT.out.ox.there 1 4 (by simp)
  have one1 : (#[.int .i64 y1.t.k, .slice y1.t.a y1.t.len y1.t.cap, .int .i64 y1.t.n, .int .i64 y1.t.s] : Array Value).all (·.oneCell') = true := all_oneCell_toArray (cs := [.int .i64 y1.t.k, .slice y1.t.a y1.t.len y1.t.cap, .int .i64 y1.t.n, .int .i64 y1.t.s]) (by simp [Value.oneCell'])
  clear hy1 hw1 he1 hf1 hb1 e3 Z1 HZ1
  go_upto_region 4 with (refine wpList_store_mid rfl 52 _ _ rfl (w.heap.size + 1 + 1) 1 #[.int .i64 y1.t.k, .slice y1.t.a y1.t.len y1.t.cap, .int .i64 y1.t.n, .int .i64 y1.t.s] rfl rfl st0 (by kernel_rfl) one1 ?_; try simp only [Act.put])
  clear st0 one1 HT
  generalize (w1.setCells (w.heap.size + 1 + 1) 1 [.int .i64 y1.t.k, .slice y1.t.a y1.t.len y1.t.cap, .int .i64 y1.t.n, .int .i64 y1.t.s]) = W1 at *
  have HT := HTn
  clear HTn
  have ld : W1.rangeAt (w.heap.size + 1 + 1) 0 [.bool x.has, .int .i64 y1.t.k, .slice y1.t.a y1.t.len y1.t.cap, .int .i64 y1.t.n, .int .i64 y1.t.s] := HT.out.ox.box.range 0 _ rfl
  have st0 : W1.there (w.heap.size + 1) 0 5 := HT.out.rz.there 0 5 (by simp)
  have one1 : (#[.bool x.has, .int .i64 y1.t.k, .slice y1.t.a y1.t.len y1.t.cap, .int .i64 y1.t.n, .int .i64 y1.t.s] : Array Value).all (·.oneCell') = true := all_oneCell_toArray (cs := [.bool x.has, .int .i64 y1.t.k, .slice y1.t.a y1.t.len y1.t.cap, .int .i64 y1.t.n, .int .i64 y1.t.s]) (by simp [Value.oneCell'])
  go_wp2_with (first | (refine wpList_load_mid rfl 54 _ rfl (w.heap.size + 1 + 1) 0 rfl [.bool x.has, .int .i64 y1.t.k, .slice y1.t.a y1.t.len y1.t.cap, .int .i64 y1.t.n, .int .i64 y1.t.s] _ ld Tryz.underlying54 rfl (by kernel_rfl) ?_; try simp only [Act.put, List.setIfInBounds_toArray, List.set_cons_zero, List.set_cons_succ]) | (refine wpList_store_mid rfl 54 _ _ rfl (w.heap.size + 1) 0 #[.bool x.has, .int .i64 y1.t.k, .slice y1.t.a y1.t.len y1.t.cap, .int .i64 y1.t.n, .int .i64 y1.t.s] rfl rfl st0 (by kernel_rfl) one1 ?_; try simp only [Act.put]))
  have hrd : (W1.setCells (w.heap.size + 1) 0 [.bool x.has, .int .i64 y1.t.k, .slice y1.t.a y1.t.len y1.t.cap, .int .i64 y1.t.n, .int .i64 y1.t.s]).rangeAt (w.heap.size + 1) 0 [.bool x.has, .int .i64 y1.t.k, .slice y1.t.a y1.t.len y1.t.cap, .int .i64 y1.t.n, .int .i64 y1.t.s] := World.rangeAt_setCells_same _ _ _ _ st0
  refine bodyPost_ret (v := .agg #[.bool x.has, .int .i64 y1.t.k, .slice y1.t.a y1.t.len y1.t.cap, .int .i64 y1.t.n, .int .i64 y1.t.s]) ?hr rfl ?hp
  case hr => exact results_cell rfl rfl (run_loadVar_mid (P := Tryz.prog) _ (w.heap.size + 1) 0 54 [.bool x.has, .int .i64 y1.t.k, .slice y1.t.a y1.t.len y1.t.cap, .int .i64 y1.t.n, .int .i64 y1.t.s] _ hrd Tryz.underlying54 rfl (by kernel_rfl))
  have HM1f : BsF w.heap.size (W1.setCells (w.heap.size + 1) 0 [.bool x.has, .int .i64 y1.t.k, .slice y1.t.a y1.t.len y1.t.cap, .int .i64 y1.t.n, .int .i64 y1.t.s]) y1.sl := ((HM1.out.upper ((upper_sets (w.heap.size + 1) [.bool x.has, .int .i64 y1.t.k, .slice y1.t.a y1.t.len y1.t.cap, .int .i64 y1.t.n, .int .i64 y1.t.s] 0 W1).mono (by omega))).base (by omega))
  have HW1f : TxW w.heap.size (W1.setCells (w.heap.size + 1) 0 [.bool x.has, .int .i64 y1.t.k, .slice y1.t.a y1.t.len y1.t.cap, .int .i64 y1.t.n, .int .i64 y1.t.s]) y1.sl := ((HW1.out.upper ((upper_sets (w.heap.size + 1) [.bool x.has, .int .i64 y1.t.k, .slice y1.t.a y1.t.len y1.t.cap, .int .i64 y1.t.n, .int .i64 y1.t.s] 0 W1).mono (by omega))).base (by omega))
  have hbf : Below w.heap.size w (W1.setCells (w.heap.size + 1) 0 [.bool x.has, .int .i64 y1.t.k, .slice y1.t.a y1.t.len y1.t.cap, .int .i64 y1.t.n, .int .i64 y1.t.s]) := below_sets _ (by omega) _ _ _ HT.out.bl
  exact ⟨⟨x.has, y1⟩, rfl, ⟨⟨HM1f, HF1.out⟩, HW1f⟩, ⟨rfl, HE1.out⟩, hbf⟩
theorem run_make_toCellS_of (n : Nat) (hn : n ≤ 1048576) (w : World) :
    (Instr.makeSlice 42 (.int .i64 (n : Int)) (.int .i64 (n : Int))).run Tryz.prog w = .ok (.slice (some ⟨w.heap.size, 0, none⟩) n n) (w.alloc (.cells (madeCells #[.bool false, .int .i64 0, .slice none 0 0, .int .i64 0, .int .i64 0] (n * 5)) 54)) := by
  have hi0 : (Tryz.prog.info? 54).map (fun i => (i.zero, i.size, i.bytes)) = some (some (.agg #[.bool false, .int .i64 0, .slice none 0 0, .int .i64 0, .int .i64 0]), 5, 56) := by kernel_rfl
  obtain ⟨i, hi, hzz⟩ := Option.map_eq_some_iff.1 hi0
  simp only [Prod.mk.injEq] at hzz
  obtain ⟨hz, hs, hb⟩ := hzz
  have hr := run_make (P := Tryz.prog) w 42 54 i _ Tryz.underlying42 hi hz .i64 .i64 n n (by omega) (Int.le_refl _) (by rw [hb]; omega) (by omega)
  simp only [Int.toNat_natCast, hs, Value.cells] at hr
  exact hr
def CptoCellS_of (w : World) (n : Nat) (kid : Nat → CB) (e : Ending) (w' : World) : Prop := ∃ (g : Nat) (k' : Nat → CB), e = .returned (.slice (some ⟨g, 0, none⟩) n n) ∧ KRow w.heap.size w' 5 (some ⟨g, 0, none⟩) n (fun i => (k' i).cells) ∧ FrW w.heap.size w' g (n * 5) ∧ (∀ i, i < n → (k' i).own w.heap.size w') ∧ (∀ i, i < n → (kid i).same (k' i)) ∧ Below w.heap.size w w'
set_option maxHeartbeats 4000000 in
theorem toCellS_of (a : Option Addr) (cap n : Nat) (kid : Nat → CB) (w : World) (hn : n ≤ 1048576) (hR : KRow 0 w 5 a n (fun i => (kid i).cells))
    (IH : ∀ i, i < n → ∀ (W : World), Below w.heap.size w W → Calls Tryz.prog 73 #[.agg #[.bool (kid i).has, .int .i64 (kid i).t.t.k, .slice (kid i).t.t.a (kid i).t.t.len (kid i).t.t.cap, .int .i64 (kid i).t.t.n, .int .i64 (kid i).t.t.s]] W fun e w' => ∃ y : CB, e = .returned (.agg #[.bool y.has, .int .i64 y.t.t.k, .slice y.t.t.a y.t.t.len y.t.t.cap, .int .i64 y.t.t.n, .int .i64 y.t.t.s]) ∧ y.own W.heap.size w' ∧ (kid i).same y ∧ Below W.heap.size W w') :
    Calls Tryz.prog 54 #[.slice a n cap] w (CptoCellS_of w n kid) := by
  have hmk := run_make_toCellS_of n hn
  by_cases hn0 : n = 0
  · subst hn0
    have hmk0 : ∀ w, (Instr.makeSlice 42 (.int .i64 0) (.int .i64 0)).run Tryz.prog w = .ok (.slice (some ⟨w.heap.size, 0, none⟩) 0 0) (w.alloc (.cells (madeCells #[.bool false, .int .i64 0, .slice none 0 0, .int .i64 0, .int .i64 0] 0) 54)) := fun w => by simpa using hmk w
    clear hmk hR IH hn
    go_enter Tryz.func54, Tryz.ntmps54
    go_wp2
    refine wp_loop_rounds 1 ?_
    rw [rounds_succ]
    go_wp2
    go_ret
    exact ⟨w.heap.size, kid, rfl, .inl rfl, .inl (by simp), fun i hi => absurd hi (Nat.not_lt_zero _), fun i hi => absurd hi (Nat.not_lt_zero _), bl_a _⟩
  obtain ⟨b, off, rfl, _, hlt, hc⟩ := hR.resolve_left hn0
  have HC : Hid (∀ i, i < n → ∀ c u, ((kid i).cells)[c]? = some u → w.cell? ⟨b, off + i * 5 + c, none⟩ = some u) := hc
  have HI : Hid (∀ i, i < n → ∀ (W : World), Below w.heap.size w W → Calls Tryz.prog 73 #[.agg #[.bool (kid i).has, .int .i64 (kid i).t.t.k, .slice (kid i).t.t.a (kid i).t.t.len (kid i).t.t.cap, .int .i64 (kid i).t.t.n, .int .i64 (kid i).t.t.s]] W fun e w' => ∃ y : CB, e = .returned (.agg #[.bool y.has, .int .i64 y.t.t.k, .slice y.t.t.a y.t.t.len y.t.t.cap, .int .i64 y.t.t.n, .int .i64 y.t.t.s]) ∧ y.own W.heap.size w' ∧ (kid i).same y ∧ Below W.heap.size W w') := IH
  have HTH : Hid ((w.alloc (.cells (madeCells #[.bool false, .int .i64 0, .slice none 0 0, .int .i64 0, .int .i64 0] (n * 5)) 54)).there w.heap.size 0 (n * 5)) := fun j hj => by
    have hs := size_madeCells #[.bool false, .int .i64 0, .slice none 0 0, .int .i64 0, .int .i64 0] (n * 5)
    have h := OB.new w (madeCells #[.bool false, .int .i64 0, .slice none 0 0, .int .i64 0, .int .i64 0] (n * 5)) 54
    have h2 := h.2 (0 + j) _ (List.getElem?_eq_getElem (by rw [Array.length_toList, hs]; omega))
    exact ⟨by rw [h2.1]; rfl, h2.2⟩
  clear hR hc IH
  go_enter Tryz.func54, Tryz.ntmps54
  go_wp2
  go_loopw [4] (fun i wr => ∃ (k : Nat) (f : Nat → CB), k ≤ n ∧ i = .int .i64 k ∧ Hid (wr.there w.heap.size 0 (n * 5)) ∧ Hid (∀ j, j < k → wr.rangeAt w.heap.size (j * 5) ((f j).cells)) ∧ Hid (∀ j, j < k → (f j).own (w.heap.size + 1) wr) ∧ Hid (∀ j, j < k → (kid j).same (f j)) ∧ Hid (Below w.heap.size w wr) ∧ Hid (w.heap.size < wr.heap.size))
    (fun i _ => n - (intOf i).toNat)
  case atStart => exact ⟨0, kid, Nat.zero_le _, rfl, HTH, fun j hj => absurd hj (Nat.not_lt_zero _), fun j hj => absurd hj (Nat.not_lt_zero _), fun j hj => absurd hj (Nat.not_lt_zero _), bl_a _, (show w.heap.size < _ by simp)⟩
  case round =>
    obtain ⟨k, f, hk, rfl, HX, HR, HL, HS, HB, HZ⟩ := hrel
    clear hmk HTH
    by_cases hlk : k < n
    · have hlkz : (k : Int) < (n : Int) := by omega
      have hcx : ∀ c u, ((kid k).cells)[c]? = some u → wr.cell? ⟨b, off + k * 5 + c, none⟩ = some u := fun c u hu => (HB.out.cell (p := ⟨b, off + k * 5 + c, none⟩) hlt).trans (HC.out k hlk c u hu)
      have Z := HI.out k hlk
      go_wp2_with (refine wpList_load_mid rfl 97 _ rfl b (off + k * 5) rfl [.bool (kid k).has, .int .i64 (kid k).t.t.k, .slice (kid k).t.t.a (kid k).t.t.len (kid k).t.t.cap, .int .i64 (kid k).t.t.n, .int .i64 (kid k).t.t.s] _ hcx Tryz.underlying97 rfl (by kernel_rfl) ?_; try simp only [Act.put, List.setIfInBounds_toArray, List.set_cons_zero, List.set_cons_succ])
      refine (Z _ HB.out).mono ?_
      rintro e w2 ⟨y, rfl, hy, he, hb2⟩
      have hkz : k * 5 + 5 ≤ n * 5 := by rw [← Nat.succ_mul]; exact Nat.mul_le_mul_right _ hlk
      have hth : w2.there w.heap.size (k * 5) 5 := fun j hj => by
        have h := HX.out (k * 5 + j) (by omega)
        rw [Nat.zero_add] at h
        exact ⟨by rw [hb2.cell (p := ⟨w.heap.size, k * 5 + j, none⟩) HZ.out]; exact h.1, (hb2.frozen (p := ⟨w.heap.size, k * 5 + j, none⟩) HZ.out).trans h.2⟩
      have HN1 : Hid ((w2.setCells w.heap.size (k * 5) [.bool y.has, .int .i64 y.t.t.k, .slice y.t.t.a y.t.t.len y.t.t.cap, .int .i64 y.t.t.n, .int .i64 y.t.t.s]).there w.heap.size 0 (n * 5)) := World.there_setCells (fun j hj => ⟨by rw [hb2.cell (p := ⟨w.heap.size, 0 + j, none⟩) HZ.out]; exact (HX.out j hj).1, (hb2.frozen (p := ⟨w.heap.size, 0 + j, none⟩) HZ.out).trans (HX.out j hj).2⟩) _ _ _
      have hlen : ([.bool y.has, .int .i64 y.t.t.k, .slice y.t.t.a y.t.t.len y.t.t.cap, .int .i64 y.t.t.n, .int .i64 y.t.t.s] : List Value).length = 5 := rfl
      have HN2 : Hid (∀ j, j < k + 1 → (w2.setCells w.heap.size (k * 5) [.bool y.has, .int .i64 y.t.t.k, .slice y.t.t.a y.t.t.len y.t.t.cap, .int .i64 y.t.t.n, .int .i64 y.t.t.s]).rangeAt w.heap.size (j * 5) ((if j = k then y else f j).cells)) := fun j hj => by
        by_cases e : j = k
        · subst e
          rw [if_pos rfl]
          exact World.rangeAt_setCells_same w2 w.heap.size (j * 5) [.bool y.has, .int .i64 y.t.t.k, .slice y.t.t.a y.t.t.len y.t.t.cap, .int .i64 y.t.t.n, .int .i64 y.t.t.s] (by rw [hlen]; exact hth)
        · rw [if_neg e]
          have hjk : j * 5 + 5 ≤ k * 5 := by rw [← Nat.succ_mul]; exact Nat.mul_le_mul_right _ (by omega)
          refine World.rangeAt_setCells_apart (fun c u hu => (hb2.cell (p := ⟨w.heap.size, j * 5 + c, none⟩) HZ.out).trans (HR.out j (by omega) c u hu)) _ _ _ (.inr (.inl ?_))
          show j * 5 + 5 ≤ _
          exact hjk
      have hu3 : Upper (w.heap.size + 1) w2 (w2.setCells w.heap.size (k * 5) [.bool y.has, .int .i64 y.t.t.k, .slice y.t.t.a y.t.t.len y.t.t.cap, .int .i64 y.t.t.n, .int .i64 y.t.t.s]) := upper_sets _ _ _ _
      have HN3 : Hid (∀ j, j < k + 1 → (if j = k then y else f j).own (w.heap.size + 1) (w2.setCells w.heap.size (k * 5) [.bool y.has, .int .i64 y.t.t.k, .slice y.t.t.a y.t.t.len y.t.t.cap, .int .i64 y.t.t.n, .int .i64 y.t.t.s])) := fun j hj => by
        by_cases e : j = k
        · rw [if_pos e]
          exact ((hy).base HZ.out).upper hu3
        · rw [if_neg e]
          exact ((HL.out j (by omega)).upper (Upper.of_below hb2)).upper hu3
      have HN4 : Hid (∀ j, j < k + 1 → (kid j).same (if j = k then y else f j)) := fun j hj => by
        by_cases e : j = k
        · rw [if_pos e, e]
          exact he
        · rw [if_neg e]
          exact HS.out j (by omega)
      have HN5 : Hid (Below w.heap.size w (w2.setCells w.heap.size (k * 5) [.bool y.has, .int .i64 y.t.t.k, .slice y.t.t.a y.t.t.len y.t.t.cap, .int .i64 y.t.t.n, .int .i64 y.t.t.s])) := below_sets _ (Nat.le_refl _) _ _ _ (bl_trans HB.out hb2)
      have HN6 : Hid (w.heap.size < (w2.setCells w.heap.size (k * 5) [.bool y.has, .int .i64 y.t.t.k, .slice y.t.t.a y.t.t.len y.t.t.cap, .int .i64 y.t.t.n, .int .i64 y.t.t.s]).heap.size) := Nat.lt_of_lt_of_le (Nat.lt_of_lt_of_le HZ.out hb2.size) hu3.size
      have one1 : (#[.bool y.has, .int .i64 y.t.t.k, .slice y.t.t.a y.t.t.len y.t.t.cap, .int .i64 y.t.t.n, .int .i64 y.t.t.s] : Array Value).all (·.oneCell') = true := all_oneCell_toArray (cs := [.bool y.has, .int .i64 y.t.t.k, .slice y.t.t.a y.t.t.len y.t.t.cap, .int .i64 y.t.t.n, .int .i64 y.t.t.s]) (by simp [Value.oneCell'])
      clear Z hcx hy he hb2 hu3 hlen hkz HX HR HL HS HB HZ
      go_upto_region 4 with (refine wpList_store_mid rfl 54 _ _ rfl w.heap.size (k * 5) #[.bool y.has, .int .i64 y.t.t.k, .slice y.t.t.a y.t.t.len y.t.t.cap, .int .i64 y.t.t.n, .int .i64 y.t.t.s] rfl rfl hth (by kernel_rfl) one1 ?_; try simp only [Act.put])
      clear hth one1
      go_wp2_with fail
      go_roundw
      case rel => exact ⟨k + 1, fun j => if j = k then y else f j, by omega, by go_num, HN1, HN2, HN3, HN4, HN5, HN6⟩
      case measure => simp [intOf]; omega
    · obtain rfl : k = n := by omega
      have hlkz : ¬ (k : Int) < (k : Int) := by omega
      go_wp2
      go_ret
      exact ⟨w.heap.size, f, rfl, .inr ⟨w.heap.size, 0, rfl, Nat.le_refl _, HZ.out, fun i hi c u hu => by rw [Nat.zero_add]; exact HR.out i hi c u hu⟩, .inr ⟨Nat.le_refl _, HZ.out, fun j hj => by have h := (HX.out j hj).2; rwa [Nat.zero_add] at h⟩, fun i hi => (HL.out i hi).base (Nat.le_succ _), HS.out, HB.out⟩
theorem toSol_to (x : SO) (w : World) (h : x.lies 0 w) : Calls Tryz.prog 40 #[.agg #[.slice x.a x.n x.cap]] w fun e w' => ∃ y : SO, e = .returned (.agg #[.slice y.a y.n y.cap]) ∧ y.own w.heap.size w' ∧ x.same y ∧ Below w.heap.size w w' := by
  have HZ1 : Hid (∀ (W : World), Below w.heap.size w W → Calls Tryz.prog 54 #[.slice x.a x.n x.cap] W fun e w' => ∃ (g : Nat) (k' : Nat → CB), e = .returned (.slice (some ⟨g, 0, none⟩) x.n x.n) ∧ KRow W.heap.size w' 5 (some ⟨g, 0, none⟩) x.n (fun i => (k' i).cells) ∧ FrW W.heap.size w' g (x.n * 5) ∧ (∀ i, i < x.n → (k' i).own W.heap.size w') ∧ (∀ i, i < x.n → (x.cel i).same (k' i)) ∧ Below W.heap.size W w') := fun W hb => toCellS_of x.a x.cap x.n x.cel W h.2.2 (h.1.upper (Upper.of_below hb)) fun i hi W' hW => toCell_to (x.cel i) W' ((h.2.1 i hi).upper (Upper.of_below (bl_trans hb hW)))
  have HN : Hid (x.n ≤ 1048576) := h.2.2
  clear h
  go_enter Tryz.func40, Tryz.ntmps40
  have Z1 := HZ1.out
  go_wp2_with fail
  refine (Z1 _ (bl_alloc (bl_alloc (bl_a _) _) _)).mono ?_
  rintro e w1 ⟨g1, k1, rfl, hy1, hw1, hz1, he1, hb1⟩
  have HT : Hid (TS w w1 [.slice x.a x.n x.cap] [.slice none 0 0] [.slice none 0 0]) := (TS.new w #[.slice x.a x.n x.cap] #[.slice none 0 0] #[.slice none 0 0] 63 44 44).below hb1
  have e3 : (w.heap.size + 1 + 1 + 1) ≤ (((w.alloc (.cells #[.slice x.a x.n x.cap] 63)).alloc (.cells #[.slice none 0 0] 44)).alloc (.cells #[.slice none 0 0] 44)).heap.size := by simp
  have HM1 : Hid (KRow (w.heap.size + 1 + 1 + 1) (w1.setCell ⟨w.heap.size + 1 + 1, 0, none⟩ (.slice (some ⟨g1, 0, none⟩) x.n x.n)) 5 (some ⟨g1, 0, none⟩) x.n (fun i => (k1 i).cells)) := (hy1.base e3).upper (upper_set (w := w1) (g := w.heap.size + 1 + 1) (i := 0) (.slice (some ⟨g1, 0, none⟩) x.n x.n))
  have HW1 : Hid (FrW (w.heap.size + 1 + 1 + 1) (w1.setCell ⟨w.heap.size + 1 + 1, 0, none⟩ (.slice (some ⟨g1, 0, none⟩) x.n x.n)) g1 (x.n * 5)) := (hw1.base e3).upper (upper_set (w := w1) (g := w.heap.size + 1 + 1) (i := 0) (.slice (some ⟨g1, 0, none⟩) x.n x.n))
  have HL1 : Hid (∀ i, i < x.n → (k1 i).own (w.heap.size + 1 + 1 + 1) (w1.setCell ⟨w.heap.size + 1 + 1, 0, none⟩ (.slice (some ⟨g1, 0, none⟩) x.n x.n))) := fun i hi => ((fun i hi => (hz1 i hi).base e3) i hi).upper (upper_set (w := w1) (g := w.heap.size + 1 + 1) (i := 0) (.slice (some ⟨g1, 0, none⟩) x.n x.n))
  have HE1 : Hid (∀ i, i < x.n → (x.cel i).same (k1 i)) := he1
  have HTn : Hid (TS w (w1.setCell ⟨w.heap.size + 1 + 1, 0, none⟩ (.slice (some ⟨g1, 0, none⟩) x.n x.n)) [.slice x.a x.n x.cap] [.slice none 0 0] [.slice (some ⟨g1, 0, none⟩) x.n x.n]) := HT.out.set 0 _
  have st0 := (HT.out.ox.2 0 _ rfl).1
  have st1 := (HT.out.ox.2 0 _ rfl).2
  clear hy1 hw1 hz1 he1 hb1 e3 Z1 HZ1
  go_upto_region 3 with fail
  clear st0 st1 HT
  generalize (w1.setCell ⟨w.heap.size + 1 + 1, 0, none⟩ (.slice (some ⟨g1, 0, none⟩) x.n x.n)) = W1 at *
  have HT := HTn
  clear HTn
  have ld : W1.rangeAt (w.heap.size + 1 + 1) 0 [.slice (some ⟨g1, 0, none⟩) x.n x.n] := HT.out.ox.box.range 0 _ rfl
  have st0 : W1.there (w.heap.size + 1) 0 1 := HT.out.rz.there 0 1 (by simp)
  have one1 : (#[.slice (some ⟨g1, 0, none⟩) x.n x.n] : Array Value).all (·.oneCell') = true := all_oneCell_toArray (cs := [.slice (some ⟨g1, 0, none⟩) x.n x.n]) (by simp [Value.oneCell'])
  go_wp2_with (first | (refine wpList_load_mid rfl 44 _ rfl (w.heap.size + 1 + 1) 0 rfl [.slice (some ⟨g1, 0, none⟩) x.n x.n] _ ld Tryz.underlying44 rfl (by kernel_rfl) ?_; try simp only [Act.put, List.setIfInBounds_toArray, List.set_cons_zero, List.set_cons_succ]) | (refine wpList_store_mid rfl 44 _ _ rfl (w.heap.size + 1) 0 #[.slice (some ⟨g1, 0, none⟩) x.n x.n] rfl rfl st0 (by kernel_rfl) one1 ?_; try simp only [Act.put]))
  have hrd : (W1.setCells (w.heap.size + 1) 0 [.slice (some ⟨g1, 0, none⟩) x.n x.n]).rangeAt (w.heap.size + 1) 0 [.slice (some ⟨g1, 0, none⟩) x.n x.n] := World.rangeAt_setCells_same _ _ _ _ st0
  refine bodyPost_ret (v := .agg #[.slice (some ⟨g1, 0, none⟩) x.n x.n]) ?hr rfl ?hp
  case hr => exact results_cell rfl rfl (run_loadVar_mid (P := Tryz.prog) _ (w.heap.size + 1) 0 44 [.slice (some ⟨g1, 0, none⟩) x.n x.n] _ hrd Tryz.underlying44 rfl (by kernel_rfl))
  have HM1f : KRow w.heap.size (W1.setCells (w.heap.size + 1) 0 [.slice (some ⟨g1, 0, none⟩) x.n x.n]) 5 (some ⟨g1, 0, none⟩) x.n (fun i => (k1 i).cells) := ((HM1.out.upper ((upper_sets (w.heap.size + 1) [.slice (some ⟨g1, 0, none⟩) x.n x.n] 0 W1).mono (by omega))).base (by omega))
  have HW1f : FrW w.heap.size (W1.setCells (w.heap.size + 1) 0 [.slice (some ⟨g1, 0, none⟩) x.n x.n]) g1 (x.n * 5) := ((HW1.out.upper ((upper_sets (w.heap.size + 1) [.slice (some ⟨g1, 0, none⟩) x.n x.n] 0 W1).mono (by omega))).base (by omega))
  have HL1f : ∀ i, i < x.n → (k1 i).own w.heap.size (W1.setCells (w.heap.size + 1) 0 [.slice (some ⟨g1, 0, none⟩) x.n x.n]) := (fun i hi => ((fun i hi => (HL1.out i hi).upper ((upper_sets (w.heap.size + 1) [.slice (some ⟨g1, 0, none⟩) x.n x.n] 0 W1).mono (by omega))) i hi).base (by omega))
  have hbf : Below w.heap.size w (W1.setCells (w.heap.size + 1) 0 [.slice (some ⟨g1, 0, none⟩) x.n x.n]) := below_sets _ (by omega) _ _ _ HT.out.bl
  exact ⟨⟨some ⟨g1, 0, none⟩, x.n, x.n, k1⟩, rfl, ⟨⟨HM1f, fun i hi => (HL1f i hi).1, HN.out⟩, fun i hi => (HL1f i hi).2, g1, rfl, HW1f⟩, ⟨rfl, HE1.out⟩, hbf⟩
theorem run_make_toSolS_of (n : Nat) (hn : n ≤ 1048576) (w : World) :
    (Instr.makeSlice 29 (.int .i64 (n : Int)) (.int .i64 (n : Int))).run Tryz.prog w = .ok (.slice (some ⟨w.heap.size, 0, none⟩) n n) (w.alloc (.cells (madeCells #[.slice none 0 0] (n)) 44)) := by
  have hi0 : (Tryz.prog.info? 44).map (fun i => (i.zero, i.size, i.bytes)) = some (some (.agg #[.slice none 0 0]), 1, 24) := by kernel_rfl
  obtain ⟨i, hi, hzz⟩ := Option.map_eq_some_iff.1 hi0
  simp only [Prod.mk.injEq] at hzz
  obtain ⟨hz, hs, hb⟩ := hzz
  have hr := run_make (P := Tryz.prog) w 29 44 i _ Tryz.underlying29 hi hz .i64 .i64 n n (by omega) (Int.le_refl _) (by rw [hb]; omega) (by omega)
  simp only [Int.toNat_natCast, hs, Value.cells, Nat.mul_one] at hr
  exact hr
def CptoSolS_of (w : World) (n : Nat) (kid : Nat → SO) (e : Ending) (w' : World) : Prop := ∃ (g : Nat) (k' : Nat → SO), e = .returned (.slice (some ⟨g, 0, none⟩) n n) ∧ KRow w.heap.size w' 1 (some ⟨g, 0, none⟩) n (fun i => (k' i).cells) ∧ FrW w.heap.size w' g (n) ∧ (∀ i, i < n → (k' i).own w.heap.size w') ∧ (∀ i, i < n → (kid i).same (k' i)) ∧ Below w.heap.size w w'
set_option maxHeartbeats 4000000 in
theorem toSolS_of (a : Option Addr) (cap n : Nat) (kid : Nat → SO) (w : World) (hn : n ≤ 1048576) (hR : KRow 0 w 1 a n (fun i => (kid i).cells))
    (IH : ∀ i, i < n → ∀ (W : World), Below w.heap.size w W → Calls Tryz.prog 40 #[.agg #[.slice (kid i).a (kid i).n (kid i).cap]] W fun e w' => ∃ y : SO, e = .returned (.agg #[.slice y.a y.n y.cap]) ∧ y.own W.heap.size w' ∧ (kid i).same y ∧ Below W.heap.size W w') :
    Calls Tryz.prog 19 #[.slice a n cap] w (CptoSolS_of w n kid) := by
  have hmk := run_make_toSolS_of n hn
  by_cases hn0 : n = 0
  · subst hn0
    have hmk0 : ∀ w, (Instr.makeSlice 29 (.int .i64 0) (.int .i64 0)).run Tryz.prog w = .ok (.slice (some ⟨w.heap.size, 0, none⟩) 0 0) (w.alloc (.cells (madeCells #[.slice none 0 0] 0) 44)) := fun w => by simpa using hmk w
    clear hmk hR IH hn
    go_enter Tryz.func19, Tryz.ntmps19
    go_wp2
    refine wp_loop_rounds 1 ?_
    rw [rounds_succ]
    go_wp2
    go_ret
    exact ⟨w.heap.size, kid, rfl, .inl rfl, .inl (by simp), fun i hi => absurd hi (Nat.not_lt_zero _), fun i hi => absurd hi (Nat.not_lt_zero _), bl_a _⟩
  obtain ⟨b, off, rfl, _, hlt, hc⟩ := hR.resolve_left hn0
  have HC : Hid (∀ i, i < n → ∀ c u, ((kid i).cells)[c]? = some u → w.cell? ⟨b, off + i + c, none⟩ = some u) := fun i hi c u hu => (by have h := hc i hi c u hu; rwa [Nat.mul_one] at h)
  have HI : Hid (∀ i, i < n → ∀ (W : World), Below w.heap.size w W → Calls Tryz.prog 40 #[.agg #[.slice (kid i).a (kid i).n (kid i).cap]] W fun e w' => ∃ y : SO, e = .returned (.agg #[.slice y.a y.n y.cap]) ∧ y.own W.heap.size w' ∧ (kid i).same y ∧ Below W.heap.size W w') := IH
  have HTH : Hid ((w.alloc (.cells (madeCells #[.slice none 0 0] (n)) 44)).there w.heap.size 0 (n)) := fun j hj => by
    have hs := size_madeCells #[.slice none 0 0] (n)
    have h := OB.new w (madeCells #[.slice none 0 0] (n)) 44
    have h2 := h.2 (0 + j) _ (List.getElem?_eq_getElem (by rw [Array.length_toList, hs]; omega))
    exact ⟨by rw [h2.1]; rfl, h2.2⟩
  clear hR hc IH
  go_enter Tryz.func19, Tryz.ntmps19
  go_wp2
  go_loopw [4] (fun i wr => ∃ (k : Nat) (f : Nat → SO), k ≤ n ∧ i = .int .i64 k ∧ Hid (wr.there w.heap.size 0 (n)) ∧ Hid (∀ j, j < k → wr.rangeAt w.heap.size (j) ((f j).cells)) ∧ Hid (∀ j, j < k → (f j).own (w.heap.size + 1) wr) ∧ Hid (∀ j, j < k → (kid j).same (f j)) ∧ Hid (Below w.heap.size w wr) ∧ Hid (w.heap.size < wr.heap.size))
    (fun i _ => n - (intOf i).toNat)
  case atStart => exact ⟨0, kid, Nat.zero_le _, rfl, HTH, fun j hj => absurd hj (Nat.not_lt_zero _), fun j hj => absurd hj (Nat.not_lt_zero _), fun j hj => absurd hj (Nat.not_lt_zero _), bl_a _, (show w.heap.size < _ by simp)⟩
  case round =>
    obtain ⟨k, f, hk, rfl, HX, HR, HL, HS, HB, HZ⟩ := hrel
    clear hmk HTH
    by_cases hlk : k < n
    · have hlkz : (k : Int) < (n : Int) := by omega
      have hcx : ∀ c u, ((kid k).cells)[c]? = some u → wr.cell? ⟨b, off + k + c, none⟩ = some u := fun c u hu => (HB.out.cell (p := ⟨b, off + k + c, none⟩) hlt).trans (HC.out k hlk c u hu)
      have Z := HI.out k hlk
      go_wp2_with (refine wpList_load_mid rfl 63 _ rfl b (off + k) rfl [.slice (kid k).a (kid k).n (kid k).cap] _ hcx Tryz.underlying63 rfl (by kernel_rfl) ?_; try simp only [Act.put, List.setIfInBounds_toArray, List.set_cons_zero, List.set_cons_succ])
      refine (Z _ HB.out).mono ?_
      rintro e w2 ⟨y, rfl, hy, he, hb2⟩
      have hkz : k + 1 ≤ n := by omega
      have hth : w2.there w.heap.size (k) 1 := fun j hj => by
        have h := HX.out (k + j) (by omega)
        rw [Nat.zero_add] at h
        exact ⟨by rw [hb2.cell (p := ⟨w.heap.size, k + j, none⟩) HZ.out]; exact h.1, (hb2.frozen (p := ⟨w.heap.size, k + j, none⟩) HZ.out).trans h.2⟩
      have HN1 : Hid ((w2.setCells w.heap.size (k) [.slice y.a y.n y.cap]).there w.heap.size 0 (n)) := World.there_setCells (fun j hj => ⟨by rw [hb2.cell (p := ⟨w.heap.size, 0 + j, none⟩) HZ.out]; exact (HX.out j hj).1, (hb2.frozen (p := ⟨w.heap.size, 0 + j, none⟩) HZ.out).trans (HX.out j hj).2⟩) _ _ _
      have hlen : ([.slice y.a y.n y.cap] : List Value).length = 1 := rfl
      have HN2 : Hid (∀ j, j < k + 1 → (w2.setCells w.heap.size (k) [.slice y.a y.n y.cap]).rangeAt w.heap.size (j) ((if j = k then y else f j).cells)) := fun j hj => by
        by_cases e : j = k
        · subst e
          rw [if_pos rfl]
          exact World.rangeAt_setCells_same w2 w.heap.size (j) [.slice y.a y.n y.cap] (by rw [hlen]; exact hth)
        · rw [if_neg e]
          have hjk : j + 1 ≤ k := by omega
          refine World.rangeAt_setCells_apart (fun c u hu => (hb2.cell (p := ⟨w.heap.size, j + c, none⟩) HZ.out).trans (HR.out j (by omega) c u hu)) _ _ _ (.inr (.inl ?_))
          show j + 1 ≤ _
          exact hjk
      have hu3 : Upper (w.heap.size + 1) w2 (w2.setCells w.heap.size (k) [.slice y.a y.n y.cap]) := upper_sets _ _ _ _
      have HN3 : Hid (∀ j, j < k + 1 → (if j = k then y else f j).own (w.heap.size + 1) (w2.setCells w.heap.size (k) [.slice y.a y.n y.cap])) := fun j hj => by
        by_cases e : j = k
        · rw [if_pos e]
          exact ((hy).base HZ.out).upper hu3
        · rw [if_neg e]
          exact ((HL.out j (by omega)).upper (Upper.of_below hb2)).upper hu3
      have HN4 : Hid (∀ j, j < k + 1 → (kid j).same (if j = k then y else f j)) := fun j hj => by
        by_cases e : j = k
        · rw [if_pos e, e]
          exact he
        · rw [if_neg e]
          exact HS.out j (by omega)
      have HN5 : Hid (Below w.heap.size w (w2.setCells w.heap.size (k) [.slice y.a y.n y.cap])) := below_sets _ (Nat.le_refl _) _ _ _ (bl_trans HB.out hb2)
      have HN6 : Hid (w.heap.size < (w2.setCells w.heap.size (k) [.slice y.a y.n y.cap]).heap.size) := Nat.lt_of_lt_of_le (Nat.lt_of_lt_of_le HZ.out hb2.size) hu3.size
      have one1 : (#[.slice y.a y.n y.cap] : Array Value).all (·.oneCell') = true := all_oneCell_toArray (cs := [.slice y.a y.n y.cap]) (by simp [Value.oneCell'])
      clear Z hcx hy he hb2 hu3 hlen hkz HX HR HL HS HB HZ
      go_upto_region 4 with (refine wpList_store_mid rfl 44 _ _ rfl w.heap.size (k) #[.slice y.a y.n y.cap] rfl rfl hth (by kernel_rfl) one1 ?_; try simp only [Act.put])
      clear hth one1
      go_wp2_with fail
      go_roundw
      case rel => exact ⟨k + 1, fun j => if j = k then y else f j, by omega, by go_num, HN1, HN2, HN3, HN4, HN5, HN6⟩
      case measure => simp [intOf]; omega
    · obtain rfl : k = n := by omega
      have hlkz : ¬ (k : Int) < (k : Int) := by omega
      go_wp2
      go_ret
      exact ⟨w.heap.size, f, rfl, .inr ⟨w.heap.size, 0, rfl, Nat.le_refl _, HZ.out, fun i hi c u hu => by rw [Nat.zero_add, Nat.mul_one]; exact HR.out i hi c u hu⟩, .inr ⟨Nat.le_refl _, HZ.out, fun j hj => by have h := (HX.out j hj).2; rwa [Nat.zero_add] at h⟩, fun i hi => (HL.out i hi).base (Nat.le_succ _), HS.out, HB.out⟩
theorem run_make_toByteSS_of (n : Nat) (hn : n ≤ 1048576) (w : World) :
    (Instr.makeSlice 22 (.int .i64 (n : Int)) (.int .i64 (n : Int))).run Tryz.prog w = .ok (.slice (some ⟨w.heap.size, 0, none⟩) n n) (w.alloc (.cells (madeCells #[.slice none 0 0] (n)) 27)) := by
  have hi0 : (Tryz.prog.info? 27).map (fun i => (i.zero, i.size, i.bytes)) = some (some (.slice none 0 0), 1, 24) := by kernel_rfl
  obtain ⟨i, hi, hzz⟩ := Option.map_eq_some_iff.1 hi0
  simp only [Prod.mk.injEq] at hzz
  obtain ⟨hz, hs, hb⟩ := hzz
  have hr := run_make (P := Tryz.prog) w 22 27 i _ Tryz.underlying22 hi hz .i64 .i64 n n (by omega) (Int.le_refl _) (by rw [hb]; omega) (by omega)
  simp only [Int.toNat_natCast, hs, Value.cells, Nat.mul_one] at hr
  exact hr
def CptoByteSS_of (w : World) (n : Nat) (kid : Nat → SL) (e : Ending) (w' : World) : Prop := ∃ (g : Nat) (k' : Nat → SL), e = .returned (.slice (some ⟨g, 0, none⟩) n n) ∧ KRow w.heap.size w' 1 (some ⟨g, 0, none⟩) n (fun i => (k' i).cells) ∧ FrW w.heap.size w' g (n) ∧ (∀ i, i < n → (k' i).own w.heap.size w') ∧ (∀ i, i < n → (kid i).same (k' i)) ∧ Below w.heap.size w w'
set_option maxHeartbeats 4000000 in
theorem toByteSS_of (a : Option Addr) (cap n : Nat) (kid : Nat → SL) (w : World) (hn : n ≤ 1048576) (hR : KRow 0 w 1 a n (fun i => (kid i).cells))
    (IH : ∀ i, i < n → ∀ (W : World), Below w.heap.size w W → Calls Tryz.prog 39 #[.slice (kid i).a (kid i).len (kid i).cap] W fun e w' => ∃ y : SL, e = .returned (.slice y.a y.len y.cap) ∧ y.own W.heap.size w' ∧ (kid i).same y ∧ Below W.heap.size W w') :
    Calls Tryz.prog 18 #[.slice a n cap] w (CptoByteSS_of w n kid) := by
  have hmk := run_make_toByteSS_of n hn
  by_cases hn0 : n = 0
  · subst hn0
    have hmk0 : ∀ w, (Instr.makeSlice 22 (.int .i64 0) (.int .i64 0)).run Tryz.prog w = .ok (.slice (some ⟨w.heap.size, 0, none⟩) 0 0) (w.alloc (.cells (madeCells #[.slice none 0 0] 0) 27)) := fun w => by simpa using hmk w
    clear hmk hR IH hn
    go_enter Tryz.func18, Tryz.ntmps18
    go_wp2
    refine wp_loop_rounds 1 ?_
    rw [rounds_succ]
    go_wp2
    go_ret
    exact ⟨w.heap.size, kid, rfl, .inl rfl, .inl (by simp), fun i hi => absurd hi (Nat.not_lt_zero _), fun i hi => absurd hi (Nat.not_lt_zero _), bl_a _⟩
  obtain ⟨b, off, rfl, _, hlt, hc⟩ := hR.resolve_left hn0
  have HC : Hid (∀ i, i < n → ∀ c u, ((kid i).cells)[c]? = some u → w.cell? ⟨b, off + i + c, none⟩ = some u) := fun i hi c u hu => (by have h := hc i hi c u hu; rwa [Nat.mul_one] at h)
  have HI : Hid (∀ i, i < n → ∀ (W : World), Below w.heap.size w W → Calls Tryz.prog 39 #[.slice (kid i).a (kid i).len (kid i).cap] W fun e w' => ∃ y : SL, e = .returned (.slice y.a y.len y.cap) ∧ y.own W.heap.size w' ∧ (kid i).same y ∧ Below W.heap.size W w') := IH
  have HTH : Hid ((w.alloc (.cells (madeCells #[.slice none 0 0] (n)) 27)).there w.heap.size 0 (n)) := fun j hj => by
    have hs := size_madeCells #[.slice none 0 0] (n)
    have h := OB.new w (madeCells #[.slice none 0 0] (n)) 27
    have h2 := h.2 (0 + j) _ (List.getElem?_eq_getElem (by rw [Array.length_toList, hs]; omega))
    exact ⟨by rw [h2.1]; rfl, h2.2⟩
  clear hR hc IH
  go_enter Tryz.func18, Tryz.ntmps18
  go_wp2
  go_loopw [4] (fun i wr => ∃ (k : Nat) (f : Nat → SL), k ≤ n ∧ i = .int .i64 k ∧ Hid (wr.there w.heap.size 0 (n)) ∧ Hid (∀ j, j < k → wr.rangeAt w.heap.size (j) ((f j).cells)) ∧ Hid (∀ j, j < k → (f j).own (w.heap.size + 1) wr) ∧ Hid (∀ j, j < k → (kid j).same (f j)) ∧ Hid (Below w.heap.size w wr) ∧ Hid (w.heap.size < wr.heap.size))
    (fun i _ => n - (intOf i).toNat)
  case atStart => exact ⟨0, kid, Nat.zero_le _, rfl, HTH, fun j hj => absurd hj (Nat.not_lt_zero _), fun j hj => absurd hj (Nat.not_lt_zero _), fun j hj => absurd hj (Nat.not_lt_zero _), bl_a _, (show w.heap.size < _ by simp)⟩
  case round =>
    obtain ⟨k, f, hk, rfl, HX, HR, HL, HS, HB, HZ⟩ := hrel
    clear hmk HTH
    by_cases hlk : k < n
    · have hlkz : (k : Int) < (n : Int) := by omega
      have hcx : ∀ c u, ((kid k).cells)[c]? = some u → wr.cell? ⟨b, off + k + c, none⟩ = some u := fun c u hu => (HB.out.cell (p := ⟨b, off + k + c, none⟩) hlt).trans (HC.out k hlk c u hu)
      have Z := HI.out k hlk
      have hc0 : wr.cell? ⟨b, off + k, none⟩ = some (.slice (kid k).a (kid k).len (kid k).cap) := by have h := hcx 0 _ rfl; simpa using h
      go_wp2_with fail
      refine (Z _ HB.out).mono ?_
      rintro e w2 ⟨y, rfl, hy, he, hb2⟩
      have hkz : k + 1 ≤ n := by omega
      have hth : w2.there w.heap.size (k) 1 := fun j hj => by
        have h := HX.out (k + j) (by omega)
        rw [Nat.zero_add] at h
        exact ⟨by rw [hb2.cell (p := ⟨w.heap.size, k + j, none⟩) HZ.out]; exact h.1, (hb2.frozen (p := ⟨w.heap.size, k + j, none⟩) HZ.out).trans h.2⟩
      have HN1 : Hid ((w2.setCells w.heap.size (k) [.slice y.a y.len y.cap]).there w.heap.size 0 (n)) := World.there_setCells (fun j hj => ⟨by rw [hb2.cell (p := ⟨w.heap.size, 0 + j, none⟩) HZ.out]; exact (HX.out j hj).1, (hb2.frozen (p := ⟨w.heap.size, 0 + j, none⟩) HZ.out).trans (HX.out j hj).2⟩) _ _ _
      have hlen : ([.slice y.a y.len y.cap] : List Value).length = 1 := rfl
      have HN2 : Hid (∀ j, j < k + 1 → (w2.setCells w.heap.size (k) [.slice y.a y.len y.cap]).rangeAt w.heap.size (j) ((if j = k then y else f j).cells)) := fun j hj => by
        by_cases e : j = k
        · subst e
          rw [if_pos rfl]
          exact World.rangeAt_setCells_same w2 w.heap.size (j) [.slice y.a y.len y.cap] (by rw [hlen]; exact hth)
        · rw [if_neg e]
          have hjk : j + 1 ≤ k := by omega
          refine World.rangeAt_setCells_apart (fun c u hu => (hb2.cell (p := ⟨w.heap.size, j + c, none⟩) HZ.out).trans (HR.out j (by omega) c u hu)) _ _ _ (.inr (.inl ?_))
          show j + 1 ≤ _
          exact hjk
      have hu3 : Upper (w.heap.size + 1) w2 (w2.setCells w.heap.size (k) [.slice y.a y.len y.cap]) := upper_sets _ _ _ _
      have HN3 : Hid (∀ j, j < k + 1 → (if j = k then y else f j).own (w.heap.size + 1) (w2.setCells w.heap.size (k) [.slice y.a y.len y.cap])) := fun j hj => by
        by_cases e : j = k
        · rw [if_pos e]
          exact ((hy).base HZ.out).upper hu3
        · rw [if_neg e]
          exact ((HL.out j (by omega)).upper (Upper.of_below hb2)).upper hu3
      have HN4 : Hid (∀ j, j < k + 1 → (kid j).same (if j = k then y else f j)) := fun j hj => by
        by_cases e : j = k
        · rw [if_pos e, e]
          exact he
        · rw [if_neg e]
          exact HS.out j (by omega)
      have HN5 : Hid (Below w.heap.size w (w2.setCells w.heap.size (k) [.slice y.a y.len y.cap])) := below_sets _ (Nat.le_refl _) _ _ _ (bl_trans HB.out hb2)
      have HN6 : Hid (w.heap.size < (w2.setCells w.heap.size (k) [.slice y.a y.len y.cap]).heap.size) := Nat.lt_of_lt_of_le (Nat.lt_of_lt_of_le HZ.out hb2.size) hu3.size
      have one1 : (#[.slice y.a y.len y.cap] : Array Value).all (·.oneCell') = true := all_oneCell_toArray (cs := [.slice y.a y.len y.cap]) (by simp [Value.oneCell'])
      clear Z hcx hy he hb2 hu3 hlen hkz HX HR HL HS HB HZ
      obtain ⟨u0, st0⟩ := Option.isSome_iff_exists.1 (hth 0 (by omega)).1
      have st1 := (hth 0 (by omega)).2
      simp only [Nat.add_zero] at st0 st1
      go_upto_region 4 with fail
      clear hth one1
      go_wp2_with fail
      go_roundw
      case rel => exact ⟨k + 1, fun j => if j = k then y else f j, by omega, by go_num, HN1, HN2, HN3, HN4, HN5, HN6⟩
      case measure => simp [intOf]; omega
    · obtain rfl : k = n := by omega
      have hlkz : ¬ (k : Int) < (k : Int) := by omega
      go_wp2
      go_ret
      exact ⟨w.heap.size, f, rfl, .inr ⟨w.heap.size, 0, rfl, Nat.le_refl _, HZ.out, fun i hi c u hu => by rw [Nat.zero_add, Nat.mul_one]; exact HR.out i hi c u hu⟩, .inr ⟨Nat.le_refl _, HZ.out, fun j hj => by have h := (HX.out j hj).2; rwa [Nat.zero_add] at h⟩, fun i hi => (HL.out i hi).base (Nat.le_succ _), HS.out, HB.out⟩
theorem toTable_to (x : TL) (w : World) (h : x.lies 0 w) : Calls Tryz.prog 6 #[.agg #[.slice x.va x.vn x.vc, .slice x.ra x.rn x.rc]] w fun e w' => ∃ y : TL, e = .returned (.agg #[.slice y.va y.vn y.vc, .slice y.ra y.rn y.rc]) ∧ y.own w.heap.size w' ∧ y.vn ≤ y.vc ∧ x.same y ∧ Below w.heap.size w w' := by
  have HZ1 : Hid (∀ (W : World), Below w.heap.size w W → Calls Tryz.prog 18 #[.slice x.va x.vn x.vc] W fun e w' => ∃ (g : Nat) (k' : Nat → SL), e = .returned (.slice (some ⟨g, 0, none⟩) x.vn x.vn) ∧ KRow W.heap.size w' 1 (some ⟨g, 0, none⟩) x.vn (fun i => (k' i).cells) ∧ FrW W.heap.size w' g (x.vn) ∧ (∀ i, i < x.vn → (k' i).own W.heap.size w') ∧ (∀ i, i < x.vn → (x.var i).same (k' i)) ∧ Below W.heap.size W w') := fun W hb => toByteSS_of x.va x.vc x.vn x.var W h.2.2.1 (h.1.upper (Upper.of_below hb)) fun i hi W' hW => toByteSW (x.var i) W' (BsF.upper (h.2.1 i hi) (Upper.of_below (bl_trans hb hW)))
  have HZ2 : Hid (∀ (W : World), Below w.heap.size w W → Calls Tryz.prog 19 #[.slice x.ra x.rn x.rc] W fun e w' => ∃ (g : Nat) (k' : Nat → SO), e = .returned (.slice (some ⟨g, 0, none⟩) x.rn x.rn) ∧ KRow W.heap.size w' 1 (some ⟨g, 0, none⟩) x.rn (fun i => (k' i).cells) ∧ FrW W.heap.size w' g (x.rn) ∧ (∀ i, i < x.rn → (k' i).own W.heap.size w') ∧ (∀ i, i < x.rn → (x.row i).same (k' i)) ∧ Below W.heap.size W w') := fun W hb => toSolS_of x.ra x.rc x.rn x.row W h.2.2.2.2.2 (h.2.2.2.1.upper (Upper.of_below hb)) fun i hi W' hW => toSol_to (x.row i) W' ((h.2.2.2.2.1 i hi).upper (Upper.of_below (bl_trans hb hW)))
  have HN : Hid (x.vn ≤ 1048576) := h.2.2.1
  have HM : Hid (x.rn ≤ 1048576) := h.2.2.2.2.2
  clear h
  go_enter Tryz.func6, Tryz.ntmps6
  have Z1 := HZ1.out
  go_wp2_with fail
  refine (Z1 _ (bl_alloc (bl_alloc (bl_a _) _) _)).mono ?_
  rintro e w1 ⟨g1, k1, rfl, hy1, hw1, hz1, he1, hb1⟩
  have HT : Hid (TS w w1 [.slice x.va x.vn x.vc, .slice x.ra x.rn x.rc] [.slice none 0 0, .slice none 0 0] [.slice none 0 0, .slice none 0 0]) := (TS.new w #[.slice x.va x.vn x.vc, .slice x.ra x.rn x.rc] #[.slice none 0 0, .slice none 0 0] #[.slice none 0 0, .slice none 0 0] 25 31 31).below hb1
  have e3 : (w.heap.size + 1 + 1 + 1) ≤ (((w.alloc (.cells #[.slice x.va x.vn x.vc, .slice x.ra x.rn x.rc] 25)).alloc (.cells #[.slice none 0 0, .slice none 0 0] 31)).alloc (.cells #[.slice none 0 0, .slice none 0 0] 31)).heap.size := by simp
  have HM1 : Hid (KRow (w.heap.size + 1 + 1 + 1) (w1.setCell ⟨w.heap.size + 1 + 1, 0, none⟩ (.slice (some ⟨g1, 0, none⟩) x.vn x.vn)) 1 (some ⟨g1, 0, none⟩) x.vn (fun i => (k1 i).cells)) := (hy1.base e3).upper (upper_set (w := w1) (g := w.heap.size + 1 + 1) (i := 0) (.slice (some ⟨g1, 0, none⟩) x.vn x.vn))
  have HW1 : Hid (FrW (w.heap.size + 1 + 1 + 1) (w1.setCell ⟨w.heap.size + 1 + 1, 0, none⟩ (.slice (some ⟨g1, 0, none⟩) x.vn x.vn)) g1 x.vn) := (hw1.base e3).upper (upper_set (w := w1) (g := w.heap.size + 1 + 1) (i := 0) (.slice (some ⟨g1, 0, none⟩) x.vn x.vn))
  have HL1 : Hid (∀ i, i < x.vn → (k1 i).own (w.heap.size + 1 + 1 + 1) (w1.setCell ⟨w.heap.size + 1 + 1, 0, none⟩ (.slice (some ⟨g1, 0, none⟩) x.vn x.vn))) := fun i hi => ((fun i hi => (hz1 i hi).base e3) i hi).upper (upper_set (w := w1) (g := w.heap.size + 1 + 1) (i := 0) (.slice (some ⟨g1, 0, none⟩) x.vn x.vn))
  have HE1 : Hid (∀ i, i < x.vn → (x.var i).same (k1 i)) := he1
  have HTn : Hid (TS w (w1.setCell ⟨w.heap.size + 1 + 1, 0, none⟩ (.slice (some ⟨g1, 0, none⟩) x.vn x.vn)) [.slice x.va x.vn x.vc, .slice x.ra x.rn x.rc] [.slice none 0 0, .slice none 0 0] [.slice (some ⟨g1, 0, none⟩) x.vn x.vn, .slice none 0 0]) := HT.out.set 0 _
  have st0 := (HT.out.ox.2 0 _ rfl).1
  have st1 := (HT.out.ox.2 0 _ rfl).2
  clear hy1 hw1 hz1 he1 hb1 e3 Z1 HZ1
  go_upto_region 3 with fail
  clear st0 st1 HT
  generalize (w1.setCell ⟨w.heap.size + 1 + 1, 0, none⟩ (.slice (some ⟨g1, 0, none⟩) x.vn x.vn)) = W1 at *
  have HT := HTn
  clear HTn
  have ld := HT.out.px.2 1 _ rfl
  have Z2 := HZ2.out
  go_wp2_with fail
  refine (Z2 _ HT.out.bl).mono ?_
  rintro e w2 ⟨g2, k2, rfl, hy2, hw2, hz2, he2, hb2⟩
  have e3 : (w.heap.size + 1 + 1 + 1) ≤ W1.heap.size := HT.out.base
  have HT : Hid (TS w w2 [.slice x.va x.vn x.vc, .slice x.ra x.rn x.rc] [.slice none 0 0, .slice none 0 0] [.slice (some ⟨g1, 0, none⟩) x.vn x.vn, .slice none 0 0]) := HT.out.below hb2
  have HM2 : Hid (KRow (w.heap.size + 1 + 1 + 1) (w2.setCell ⟨w.heap.size + 1 + 1, 1, none⟩ (.slice (some ⟨g2, 0, none⟩) x.rn x.rn)) 1 (some ⟨g2, 0, none⟩) x.rn (fun i => (k2 i).cells)) := (hy2.base e3).upper (upper_set (w := w2) (g := w.heap.size + 1 + 1) (i := 1) (.slice (some ⟨g2, 0, none⟩) x.rn x.rn))
  have HW2 : Hid (FrW (w.heap.size + 1 + 1 + 1) (w2.setCell ⟨w.heap.size + 1 + 1, 1, none⟩ (.slice (some ⟨g2, 0, none⟩) x.rn x.rn)) g2 x.rn) := (hw2.base e3).upper (upper_set (w := w2) (g := w.heap.size + 1 + 1) (i := 1) (.slice (some ⟨g2, 0, none⟩) x.rn x.rn))
  have HL2 : Hid (∀ i, i < x.rn → (k2 i).own (w.heap.size + 1 + 1 + 1) (w2.setCell ⟨w.heap.size + 1 + 1, 1, none⟩ (.slice (some ⟨g2, 0, none⟩) x.rn x.rn))) := fun i hi => ((fun i hi => (hz2 i hi).base e3) i hi).upper (upper_set (w := w2) (g := w.heap.size + 1 + 1) (i := 1) (.slice (some ⟨g2, 0, none⟩) x.rn x.rn))
  have HM1 : Hid (KRow (w.heap.size + 1 + 1 + 1) (w2.setCell ⟨w.heap.size + 1 + 1, 1, none⟩ (.slice (some ⟨g2, 0, none⟩) x.rn x.rn)) 1 (some ⟨g1, 0, none⟩) x.vn (fun i => (k1 i).cells)) := (HM1.out.upper (Upper.of_below hb2)).upper (upper_set (w := w2) (g := w.heap.size + 1 + 1) (i := 1) (.slice (some ⟨g2, 0, none⟩) x.rn x.rn))
  have HW1 : Hid (FrW (w.heap.size + 1 + 1 + 1) (w2.setCell ⟨w.heap.size + 1 + 1, 1, none⟩ (.slice (some ⟨g2, 0, none⟩) x.rn x.rn)) g1 x.vn) := (HW1.out.upper (Upper.of_below hb2)).upper (upper_set (w := w2) (g := w.heap.size + 1 + 1) (i := 1) (.slice (some ⟨g2, 0, none⟩) x.rn x.rn))
  have HL1 : Hid (∀ i, i < x.vn → (k1 i).own (w.heap.size + 1 + 1 + 1) (w2.setCell ⟨w.heap.size + 1 + 1, 1, none⟩ (.slice (some ⟨g2, 0, none⟩) x.rn x.rn))) := fun i hi => ((fun i hi => (HL1.out i hi).upper (Upper.of_below hb2)) i hi).upper (upper_set (w := w2) (g := w.heap.size + 1 + 1) (i := 1) (.slice (some ⟨g2, 0, none⟩) x.rn x.rn))
  have HE2 : Hid (∀ i, i < x.rn → (x.row i).same (k2 i)) := he2
  have HTn : Hid (TS w (w2.setCell ⟨w.heap.size + 1 + 1, 1, none⟩ (.slice (some ⟨g2, 0, none⟩) x.rn x.rn)) [.slice x.va x.vn x.vc, .slice x.ra x.rn x.rc] [.slice none 0 0, .slice none 0 0] [.slice (some ⟨g1, 0, none⟩) x.vn x.vn, .slice (some ⟨g2, 0, none⟩) x.rn x.rn]) := HT.out.set 1 _
  have st0 := (HT.out.ox.2 1 _ rfl).1
  have st1 := (HT.out.ox.2 1 _ rfl).2
  clear hy2 hw2 hz2 he2 hb2 e3 Z2 HZ2 ld
  go_upto_region 4 with fail
  clear st0 st1 HT
  generalize (w2.setCell ⟨w.heap.size + 1 + 1, 1, none⟩ (.slice (some ⟨g2, 0, none⟩) x.rn x.rn)) = W2 at *
  have HT := HTn
  clear HTn
  have ld : W2.rangeAt (w.heap.size + 1 + 1) 0 [.slice (some ⟨g1, 0, none⟩) x.vn x.vn, .slice (some ⟨g2, 0, none⟩) x.rn x.rn] := HT.out.ox.box.range 0 _ rfl
  have st0 : W2.there (w.heap.size + 1) 0 2 := HT.out.rz.there 0 2 (by simp)
  have one1 : (#[.slice (some ⟨g1, 0, none⟩) x.vn x.vn, .slice (some ⟨g2, 0, none⟩) x.rn x.rn] : Array Value).all (·.oneCell') = true := all_oneCell_toArray (cs := [.slice (some ⟨g1, 0, none⟩) x.vn x.vn, .slice (some ⟨g2, 0, none⟩) x.rn x.rn]) (by simp [Value.oneCell'])
  go_wp2_with (first | (refine wpList_load_mid rfl 31 _ rfl (w.heap.size + 1 + 1) 0 rfl [.slice (some ⟨g1, 0, none⟩) x.vn x.vn, .slice (some ⟨g2, 0, none⟩) x.rn x.rn] _ ld Tryz.underlying31 rfl (by kernel_rfl) ?_; try simp only [Act.put, List.setIfInBounds_toArray, List.set_cons_zero, List.set_cons_succ]) | (refine wpList_store_mid rfl 31 _ _ rfl (w.heap.size + 1) 0 #[.slice (some ⟨g1, 0, none⟩) x.vn x.vn, .slice (some ⟨g2, 0, none⟩) x.rn x.rn] rfl rfl st0 (by kernel_rfl) one1 ?_; try simp only [Act.put]))
  have hrd : (W2.setCells (w.heap.size + 1) 0 [.slice (some ⟨g1, 0, none⟩) x.vn x.vn, .slice (some ⟨g2, 0, none⟩) x.rn x.rn]).rangeAt (w.heap.size + 1) 0 [.slice (some ⟨g1, 0, none⟩) x.vn x.vn, .slice (some ⟨g2, 0, none⟩) x.rn x.rn] := World.rangeAt_setCells_same _ _ _ _ st0
  refine bodyPost_ret (v := .agg #[.slice (some ⟨g1, 0, none⟩) x.vn x.vn, .slice (some ⟨g2, 0, none⟩) x.rn x.rn]) ?hr rfl ?hp
  case hr => exact results_cell rfl rfl (run_loadVar_mid (P := Tryz.prog) _ (w.heap.size + 1) 0 31 [.slice (some ⟨g1, 0, none⟩) x.vn x.vn, .slice (some ⟨g2, 0, none⟩) x.rn x.rn] _ hrd Tryz.underlying31 rfl (by kernel_rfl))
  have HM2f : KRow w.heap.size (W2.setCells (w.heap.size + 1) 0 [.slice (some ⟨g1, 0, none⟩) x.vn x.vn, .slice (some ⟨g2, 0, none⟩) x.rn x.rn]) 1 (some ⟨g2, 0, none⟩) x.rn (fun i => (k2 i).cells) := ((HM2.out.upper ((upper_sets (w.heap.size + 1) [.slice (some ⟨g1, 0, none⟩) x.vn x.vn, .slice (some ⟨g2, 0, none⟩) x.rn x.rn] 0 W2).mono (by omega))).base (by omega))
  have HW2f : FrW w.heap.size (W2.setCells (w.heap.size + 1) 0 [.slice (some ⟨g1, 0, none⟩) x.vn x.vn, .slice (some ⟨g2, 0, none⟩) x.rn x.rn]) g2 x.rn := ((HW2.out.upper ((upper_sets (w.heap.size + 1) [.slice (some ⟨g1, 0, none⟩) x.vn x.vn, .slice (some ⟨g2, 0, none⟩) x.rn x.rn] 0 W2).mono (by omega))).base (by omega))
  have HL2f : ∀ i, i < x.rn → (k2 i).own w.heap.size (W2.setCells (w.heap.size + 1) 0 [.slice (some ⟨g1, 0, none⟩) x.vn x.vn, .slice (some ⟨g2, 0, none⟩) x.rn x.rn]) := (fun i hi => ((fun i hi => (HL2.out i hi).upper ((upper_sets (w.heap.size + 1) [.slice (some ⟨g1, 0, none⟩) x.vn x.vn, .slice (some ⟨g2, 0, none⟩) x.rn x.rn] 0 W2).mono (by omega))) i hi).base (by omega))
  have HM1f : KRow w.heap.size (W2.setCells (w.heap.size + 1) 0 [.slice (some ⟨g1, 0, none⟩) x.vn x.vn, .slice (some ⟨g2, 0, none⟩) x.rn x.rn]) 1 (some ⟨g1, 0, none⟩) x.vn (fun i => (k1 i).cells) := ((HM1.out.upper ((upper_sets (w.heap.size + 1) [.slice (some ⟨g1, 0, none⟩) x.vn x.vn, .slice (some ⟨g2, 0, none⟩) x.rn x.rn] 0 W2).mono (by omega))).base (by omega))
  have HW1f : FrW w.heap.size (W2.setCells (w.heap.size + 1) 0 [.slice (some ⟨g1, 0, none⟩) x.vn x.vn, .slice (some ⟨g2, 0, none⟩) x.rn x.rn]) g1 x.vn := ((HW1.out.upper ((upper_sets (w.heap.size + 1) [.slice (some ⟨g1, 0, none⟩) x.vn x.vn, .slice (some ⟨g2, 0, none⟩) x.rn x.rn] 0 W2).mono (by omega))).base (by omega))
  have HL1f : ∀ i, i < x.vn → (k1 i).own w.heap.size (W2.setCells (w.heap.size + 1) 0 [.slice (some ⟨g1, 0, none⟩) x.vn x.vn, .slice (some ⟨g2, 0, none⟩) x.rn x.rn]) := (fun i hi => ((fun i hi => (HL1.out i hi).upper ((upper_sets (w.heap.size + 1) [.slice (some ⟨g1, 0, none⟩) x.vn x.vn, .slice (some ⟨g2, 0, none⟩) x.rn x.rn] 0 W2).mono (by omega))) i hi).base (by omega))
  have hbf : Below w.heap.size w (W2.setCells (w.heap.size + 1) 0 [.slice (some ⟨g1, 0, none⟩) x.vn x.vn, .slice (some ⟨g2, 0, none⟩) x.rn x.rn]) := below_sets _ (by omega) _ _ _ HT.out.bl
  exact ⟨⟨some ⟨g1, 0, none⟩, x.vn, x.vn, k1, some ⟨g2, 0, none⟩, x.rn, x.rn, k2⟩, rfl, ⟨⟨HM1f, fun i hi => (HL1f i hi).1, HN.out, HM2f, fun i hi => (HL2f i hi).1, HM.out⟩, HL1f, HL2f, ⟨g1, rfl⟩, g2, rfl⟩, Nat.le_refl _, ⟨rfl, HE1.out, rfl, HE2.out⟩, hbf⟩
end Go.Proofs.YtganfiajhokkmaaGreatDoor
