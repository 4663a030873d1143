/- Texts put together: StvB StvC -/
import Derived.Test.YtdcaicoomldmgaaGreatDoorMk43
import Derived.Test.YtdcaicoomldmgaaGreatDoorMk05
import Derived.Test.YtdcaicoomldmgaaGreatDoorMk11
/- StvB -/
namespace Go.Proofs.YtdcaicoomldmgaaGreatDoor
open Go.RowKit Go.Deep
set_option maxRecDepth 100000

/-- The cells of a row that is made: one value's, again and again. -/
theorem made_list {α : Type} (enc : α → List Value) (k : Nat) (hk : ∀ x, (enc x).length = k) (z : α) (zs : Array Value) (hz : zs.toList = enc z) (n : Nat) (h0 : 0 < k) : (madeCells zs (n * k)).toList = (List.replicate n z).flatMap enc := by
  have hsz : zs.size = k := by rw [← Array.length_toList, hz, hk]
  apply List.ext_getElem?
  intro j
  by_cases hj : j < n * k
  · have hi : j / k < (List.replicate n z).length := by rw [List.length_replicate, Nat.div_lt_iff_lt_mul h0]; exact hj
    have hc := Nat.mod_lt j h0
    have h2 := flatMap_get enc k hk (List.replicate n z) (j / k) (j % k) hi hc
    rw [Nat.mul_comm, Nat.div_add_mod] at h2
    rw [h2, List.getElem_replicate, ← hz, Array.getElem?_toList, Array.getElem?_toList]
    simp [madeCells, hj, hsz, getElem!_pos, hc]
  · rw [List.getElem?_eq_none (by simp [madeCells]; omega), List.getElem?_eq_none (by rw [flatMap_len enc k hk, List.length_replicate]; omega)]

theorem run_make_terms (n : Nat) (hn : n ≤ 1048576) (w : World) :
    (Instr.makeSlice 26 (.int .i64 (n : Int)) (.int .i64 (n : Int))).run Tryz.prog w = .ok (.slice (some ⟨w.heap.size, 0, none⟩) n n) (w.alloc (.cells (madeCells #[.int .i64 0, .slice none 0 0, .int .i64 0, .int .i64 0] (n * 4)) 52)) := by
  obtain ⟨i, hi, hzz⟩ := Option.map_eq_some_iff.1 Tryz.info52
  simp only [Prod.mk.injEq] at hzz
  obtain ⟨hz, hs, hb⟩ := hzz
  have hr := run_make (P := Tryz.prog) w 26 52 i _ Tryz.underlying26 hi hz .i64 .i64 n n (by omega) (Int.le_refl _) (by rw [hb]; omega) (by omega)
  simp only [Int.toNat_natCast, hs, Value.cells] at hr
  exact hr
theorem run_make_rows (n : Nat) (hn : n ≤ 1048576) (w : World) :
    (Instr.makeSlice 57 (.int .i64 (n : Int)) (.int .i64 (n : Int))).run Tryz.prog w = .ok (.slice (some ⟨w.heap.size, 0, none⟩) n n) (w.alloc (.cells (madeCells #[.int .i64 0, .int .i64 0, .int .i64 0] (n * 3)) 99)) := by
  obtain ⟨i, hi, hzz⟩ := Option.map_eq_some_iff.1 Tryz.info99
  simp only [Prod.mk.injEq] at hzz
  obtain ⟨hz, hs, hb⟩ := hzz
  have hr := run_make (P := Tryz.prog) w 57 99 i _ Tryz.underlying57 hi hz .i64 .i64 n n (by omega) (Int.le_refl _) (by rw [hb]; omega) (by omega)
  simp only [Int.toNat_natCast, hs, Value.cells] at hr
  exact hr
theorem run_make_rowss (n : Nat) (hn : n ≤ 1048576) (w : World) :
    (Instr.makeSlice 27 (.int .i64 (n : Int)) (.int .i64 (n : Int))).run Tryz.prog w = .ok (.slice (some ⟨w.heap.size, 0, none⟩) n n) (w.alloc (.cells (madeCells #[.slice none 0 0] n) 57)) := by
  obtain ⟨i, hi, hzz⟩ := Option.map_eq_some_iff.1 Tryz.info57
  simp only [Prod.mk.injEq] at hzz
  obtain ⟨hz, hs, hb⟩ := hzz
  have hr := run_make (P := Tryz.prog) w 27 57 i _ Tryz.underlying27 hi hz .i64 .i64 n n (by omega) (Int.le_refl _) (by rw [hb]; omega) (by omega)
  simp only [Int.toNat_natCast, hs, Value.cells, Nat.mul_one] at hr
  exact hr
theorem enc4_len (x : TB) : (enc4 x.t).length = 4 := rfl
theorem made_terms (w : World) (n : Nat) (hn : n ≤ 1048576) : OwnTR (w.alloc (.cells (madeCells #[.int .i64 0, .slice none 0 0, .int .i64 0, .int .i64 0] (n * 4)) 52)) w.heap.size (.slice (some ⟨w.heap.size, 0, none⟩) n n) (List.replicate n ⟨Tm0, []⟩) := by
  refine ownT_mk (heap_new _ _ _ rfl) (Nat.le_refl _) (by unfold maxLen; omega) (by rw [size_madeCells]) ?_ (by simp) (Nat.le_refl _) (by simp)
  rw [List.take_of_length_le (by simp [size_madeCells])]
  exact made_list (fun x : TB => enc4 x.t) 4 enc4_len ⟨Tm0, []⟩ _ rfl n (by omega)
theorem made_rows (w : World) (n : Nat) (hn : n ≤ 1048576) : OwnRR (w.alloc (.cells (madeCells #[.int .i64 0, .int .i64 0, .int .i64 0] (n * 3)) 99)) w.heap.size (.slice (some ⟨w.heap.size, 0, none⟩) n n) (List.replicate n (0, 0, 0)) := by
  refine ownR_mk (heap_new _ _ _ rfl) (Nat.le_refl _) (by unfold maxLen; omega) (by rw [size_madeCells]) ?_ (by simp) (Nat.le_refl _) (by simp)
  rw [List.take_of_length_le (by simp [size_madeCells])]
  exact made_list encR 3 encR_len (0, 0, 0) _ rfl n (by omega)
/-- A row that is filled from the front. -/
theorem fill_step {α : Type} {l : List α} {z x : α} {n k : Nat} (hl : l.length = n) (hx : l[k]? = some x) : (l.take k ++ List.replicate (n - k) z).set k x = l.take (k + 1) ++ List.replicate (n - (k + 1)) z := by
  obtain ⟨hk, rfl⟩ := List.getElem?_eq_some_iff.1 hx
  rw [List.set_append_right _ _ (by simp; omega)]
  have e : k - (l.take k).length = 0 := by simp; omega
  rw [e, show n - k = (n - (k + 1)) + 1 by omega, List.replicate_succ, List.set_cons_zero, List.take_succ_eq_append_getElem hk, List.append_assoc]
  rfl
theorem fill_at {α : Type} {l : List α} {z : α} {n k : Nat} (hl : l.length = n) (hk : k < n) : (l.take k ++ List.replicate (n - k) z)[k]? = some z := by
  rw [List.getElem?_append_right (by simp; omega)]
  have e : k - (l.take k).length = 0 := by simp; omega
  rw [e, List.getElem?_replicate, if_pos (by omega)]

/-- What copying terms answers. -/
def CopyT (w : World) (tb : List TB) (e : Ending) (w' : World) : Prop :=
  ∃ L, e = .returned (.slice (some ⟨w.heap.size, 0, none⟩) tb.length tb.length) ∧ OwnTR w' w.heap.size (.slice (some ⟨w.heap.size, 0, none⟩) tb.length tb.length) L ∧ L.map TB.td = tb.map TB.td ∧ (∀ x ∈ L, ∃ g, x.t.a = some ⟨g, 0, none⟩ ∧ x.t.cap = x.t.len ∧ w.heap.size < g ∧ OwnT w' g x.t.len x.b) ∧ Below w.heap.size w w'

set_option maxHeartbeats 4000000 in
theorem toTermS_any (a : Option Addr) (cap : Nat) (tb : List TB) (w : World) (hn : tb.length ≤ 1048576) (hR : TRow w a tb) (hT : TTxt w tb) :
    Calls Tryz.prog 55 #[.slice a tb.length cap] w (CopyT w tb) := by
  obtain ⟨n, hnn⟩ : ∃ n, n = tb.length := ⟨_, rfl⟩
  have HN : Hid (n = tb.length) := hnn
  rw [← hnn] at hn ⊢
  have hmk := run_make_terms n hn
  have HMD : Hid (OwnTR (w.alloc (.cells (madeCells #[.int .i64 0, .slice none 0 0, .int .i64 0, .int .i64 0] (n * 4)) 52)) w.heap.size (.slice (some ⟨w.heap.size, 0, none⟩) n n) (List.replicate n ⟨Tm0, []⟩)) := made_terms w n hn
  by_cases hn0 : n = 0
  · have ht : tb = [] := List.eq_nil_of_length_eq_zero (by omega)
    subst hn0 ht
    have hmk0 : ∀ w, (Instr.makeSlice 26 (.int .i64 0) (.int .i64 0)).run Tryz.prog w = .ok (.slice (some ⟨w.heap.size, 0, none⟩) 0 0) (w.alloc (.cells (madeCells #[.int .i64 0, .slice none 0 0, .int .i64 0, .int .i64 0] 0) 52)) := fun w => by simpa using hmk w
    clear hmk hR hT hnn HN hn
    go_enter Tryz.func55, Tryz.ntmps55
    go_wp2
    refine wp_loop_rounds 1 ?_
    rw [rounds_succ]
    go_wp2
    go_ret
    refine ⟨[], rfl, ?_, rfl, fun x hx => (by cases hx), bl_a _⟩
    have := HMD.out
    simpa using this
  · have ht0 : tb ≠ [] := by
      intro e
      rw [e] at hnn
      exact hn0 (by simpa using hnn)
    obtain ⟨b, off, rfl, hlt, hc⟩ := hR.resolve_left ht0
    have HC : Hid (∀ j u, (flat4 tb)[j]? = some u → w.cell? ⟨b, off + j, none⟩ = some u) := hc
    have HT : Hid (TTxt w tb) := hT
    clear hR hT hc hnn ht0
    go_enter Tryz.func55, Tryz.ntmps55
    go_wp2
    go_loopw [4] (fun i wr => ∃ (k : Nat) (L : List TB), k ≤ n ∧ i = .int .i64 k ∧ Hid (OwnTR wr w.heap.size (.slice (some ⟨w.heap.size, 0, none⟩) n n) L) ∧ Hid (∀ j x y, j < k → L[j]? = some x → tb[j]? = some y → x.td = y.td ∧ ∃ g, x.t.a = some ⟨g, 0, none⟩ ∧ x.t.cap = x.t.len ∧ w.heap.size < g ∧ OwnT wr g x.t.len x.b) ∧ Hid (Below w.heap.size w wr))
      (fun i _ => n - (intOf i).toNat)
    case atStart => exact ⟨0, _, Nat.zero_le _, rfl, HMD, fun j x y hj => (by omega), bl_a _⟩
    case round =>
      obtain ⟨k, L, hk, rfl, HO, HE, HB⟩ := hrel
      have HLL : Hid (L.length = n) := by
        obtain ⟨_, _, _, _, _, _, h, _⟩ := ownT_cells HO.out
        exact h.symm
      by_cases hlk : k < n
      · have hlkz : (k : Int) < (n : Int) := by omega
        have hkl : k < tb.length := by rw [← HN.out]; exact hlk
        obtain ⟨y, hy⟩ : ∃ y, y = tb[k] := ⟨_, rfl⟩
        have HY : Hid (tb[k]? = some y) := (show tb[k]? = some y by rw [hy]; exact List.getElem?_eq_getElem hkl)
        have hcx := TRow.at (l := tb) (b := b) (off := off) (w := wr) (fun j u hu => (HB.out.cell (p := ⟨b, off + j, none⟩) hlt).trans (HC.out j u hu)) k hkl
        rw [← hy] at hcx
        obtain ⟨x0, x1, x2, x3⟩ := hcx
        have To := toTerm_new y.t.k y.t.n y.t.s y.t.a y.t.len y.t.cap y.b wr ((HT.out y (List.mem_of_getElem? HY.out)).below HB.out)
        have hsw : w.heap.size < wr.heap.size := (HO.out.2 w.heap.size rfl).2
        clear hmk hy
        go_wp2_with fail
        refine To.mono ?_
        rintro e w2 ⟨g, rfl, hOT, hg, hb2⟩
        have HB2 : Hid (Below wr.heap.size wr w2) := hb2
        have HG : Hid (OwnT w2 g y.t.len y.b ∧ wr.heap.size ≤ g) := ⟨hOT, hg⟩
        have HO2 : Hid (OwnTR w2 w.heap.size (.slice (some ⟨w.heap.size, 0, none⟩) n n) L) := HO.out.below hb2
        obtain ⟨z, hz⟩ : ∃ z, L[k]? = some z := ⟨_, List.getElem?_eq_getElem (by rw [HLL.out]; exact hlk)⟩
        obtain ⟨m0, m1, m2, m3⟩ := ownT_at HO2.out k z hz
        have f0 := ownT_fr HO2.out (k * 4)
        have f1 := ownT_fr HO2.out (k * 4 + 1)
        have f2 := ownT_fr HO2.out (k * 4 + 2)
        have f3 := ownT_fr HO2.out (k * 4 + 3)
        have hbut : But w.heap.size w2 ((((w2.setCell ⟨w.heap.size, k * 4, none⟩ (.int .i64 y.t.k)).setCell ⟨w.heap.size, k * 4 + 1, none⟩ (.slice (some ⟨g, 0, none⟩) y.t.len y.t.len)).setCell ⟨w.heap.size, k * 4 + 2, none⟩ (.int .i64 y.t.n)).setCell ⟨w.heap.size, k * 4 + 3, none⟩ (.int .i64 y.t.s)) := ((((But.refl _ _).set _ _).set _ _).set _ _).set _ _
        have HN1 : Hid (OwnTR ((((w2.setCell ⟨w.heap.size, k * 4, none⟩ (.int .i64 y.t.k)).setCell ⟨w.heap.size, k * 4 + 1, none⟩ (.slice (some ⟨g, 0, none⟩) y.t.len y.t.len)).setCell ⟨w.heap.size, k * 4 + 2, none⟩ (.int .i64 y.t.n)).setCell ⟨w.heap.size, k * 4 + 3, none⟩ (.int .i64 y.t.s)) w.heap.size (.slice (some ⟨w.heap.size, 0, none⟩) n n) (L.set k ⟨y.t.own g, y.b⟩)) := ownT_set HO2.out k (by rw [HLL.out]; exact hlk) ⟨y.t.own g, y.b⟩
        have HN2 : Hid (∀ j x y', j < k + 1 → (L.set k ⟨y.t.own g, y.b⟩)[j]? = some x → tb[j]? = some y' → x.td = y'.td ∧ ∃ g', x.t.a = some ⟨g', 0, none⟩ ∧ x.t.cap = x.t.len ∧ w.heap.size < g' ∧ OwnT ((((w2.setCell ⟨w.heap.size, k * 4, none⟩ (.int .i64 y.t.k)).setCell ⟨w.heap.size, k * 4 + 1, none⟩ (.slice (some ⟨g, 0, none⟩) y.t.len y.t.len)).setCell ⟨w.heap.size, k * 4 + 2, none⟩ (.int .i64 y.t.n)).setCell ⟨w.heap.size, k * 4 + 3, none⟩ (.int .i64 y.t.s)) g' x.t.len x.b) := by
          intro j x y' hj hx hy'
          by_cases e : k = j
          · subst e
            rw [List.getElem?_set, if_pos rfl, if_pos (by rw [HLL.out]; exact hlk)] at hx
            cases hx
            rw [HY.out] at hy'
            cases hy'
            exact ⟨rfl, g, rfl, rfl, by omega, HG.out.1.but hbut (by have := HG.out.2; omega)⟩
          · rw [List.getElem?_set, if_neg e] at hx
            obtain ⟨q1, g', q2, q5, q3, q4⟩ := HE.out j x y' (by omega) hx hy'
            exact ⟨q1, g', q2, q5, q3, (q4.below hb2).but hbut (by omega)⟩
        have HN3 : Hid (Below w.heap.size w ((((w2.setCell ⟨w.heap.size, k * 4, none⟩ (.int .i64 y.t.k)).setCell ⟨w.heap.size, k * 4 + 1, none⟩ (.slice (some ⟨g, 0, none⟩) y.t.len y.t.len)).setCell ⟨w.heap.size, k * 4 + 2, none⟩ (.int .i64 y.t.n)).setCell ⟨w.heap.size, k * 4 + 3, none⟩ (.int .i64 y.t.s))) := (HB.out.trans (hb2.mono (by omega))).trans (hbut.below (Nat.le_refl _))
        clear x0 x1 x2 x3 To hOT hg hb2 hbut hz HE
        go_wp2_with fail
        go_roundw
        case rel => first | exact ⟨k + 1, _, by omega, by go_num, HN1, HN2, HN3⟩ | exact ⟨k + 1, by omega, by go_num, _, HN1, HN2⟩
        case measure => simp [intOf]; omega
      · obtain rfl : n = k := by omega
        have hlkz : ¬ (n : Int) < (n : Int) := by omega
        clear hmk
        go_wp2
        go_ret
        have hLt : L.length = tb.length := by rw [HLL.out, HN.out]
        refine ⟨L, by rw [HN.out]; rfl, by rw [← HN.out]; exact HO.out, ?_, fun x hx => ?_, HB.out⟩
        · refine lists_eq_of (by rw [List.length_map, List.length_map]; exact hLt) fun i x y hx hy => ?_
          rw [List.getElem?_map] at hx hy
          obtain ⟨x', hx', rfl⟩ := Option.map_eq_some_iff.1 hx
          obtain ⟨y', hy', rfl⟩ := Option.map_eq_some_iff.1 hy
          exact (HE.out i x' y' (by have := (List.getElem?_eq_some_iff.1 hx').1; rw [← HLL.out]; exact this) hx' hy').1
        · obtain ⟨i, hi, rfl⟩ := List.mem_iff_getElem.1 hx
          exact (HE.out i _ _ (by rw [← HLL.out]; exact hi) (List.getElem?_eq_getElem hi) (List.getElem?_eq_getElem (by rw [← hLt]; exact hi))).2
end Go.Proofs.YtdcaicoomldmgaaGreatDoor

/- StvC -/
namespace Go.Proofs.YtdcaicoomldmgaaGreatDoor
open Go.RowKit Go.Deep
set_option maxRecDepth 100000

/-- Rows of numbers behind an address, or none. -/
def RRowW (w : World) (a : Option Addr) (l : List (Int × Int × Int)) : Prop := l = [] ∨ ∃ b off, a = some ⟨b, off, none⟩ ∧ b < w.heap.size ∧ ∀ j u, (flat3 l)[j]? = some u → w.cell? ⟨b, off + j, none⟩ = some u
theorem RRowW.below {w w' : World} {a : Option Addr} {l : List (Int × Int × Int)} (h : RRowW w a l) (hb : Below w.heap.size w w') : RRowW w' a l := by
  rcases h with h | ⟨b, off, ha, hl, hc⟩
  · exact .inl h
  · exact .inr ⟨b, off, ha, Nat.lt_of_lt_of_le hl hb.size, fun j u hu => (hb.cell (p := ⟨b, off + j, none⟩) hl).trans (hc j u hu)⟩
def SHoldW (w : World) (l : List RB) : Prop := ∀ x ∈ l, RRowW w x.a x.l ∧ x.l.length ≤ 1048576

theorem toRow_any (x : Int × Int × Int) (w : World) :
    Calls Tryz.prog 121 #[.agg #[.int .i64 x.1, .int .i64 x.2.1, .int .i64 x.2.2]] w fun e w' => e = .returned (.agg #[.int .i64 x.1, .int .i64 x.2.1, .int .i64 x.2.2]) ∧ Below w.heap.size w w' := by
  obtain ⟨a, b, c⟩ := x
  dsimp only
  go_enter Tryz.func121, Tryz.ntmps121
  go_wp2
  refine bodyPost_ret (v := .agg #[.int .i64 a, .int .i64 b, .int .i64 c]) (by simp [results, Tryz.results121, go_sem]) rfl ⟨rfl, ?_⟩
  exact bl_alloc (bl_alloc (bl_a _) _) _

set_option maxHeartbeats 4000000 in
theorem toRowS_any (a : Option Addr) (cap : Nat) (l : List (Int × Int × Int)) (w : World) (hn : l.length ≤ 1048576) (hR : RRowW w a l) :
    Calls Tryz.prog 93 #[.slice a l.length cap] w fun e w' => e = .returned (.slice (some ⟨w.heap.size, 0, none⟩) l.length l.length) ∧ OwnRR w' w.heap.size (.slice (some ⟨w.heap.size, 0, none⟩) l.length l.length) l ∧ Below w.heap.size w w' := by
  obtain ⟨n, hnn⟩ : ∃ n, n = l.length := ⟨_, rfl⟩
  have HN : Hid (n = l.length) := hnn
  rw [← hnn] at hn ⊢
  have hmk := run_make_rows n hn
  have HMD : Hid (OwnRR (w.alloc (.cells (madeCells #[.int .i64 0, .int .i64 0, .int .i64 0] (n * 3)) 99)) w.heap.size (.slice (some ⟨w.heap.size, 0, none⟩) n n) (List.replicate n (0, 0, 0))) := made_rows w n hn
  by_cases hn0 : n = 0
  · have ht : l = [] := List.eq_nil_of_length_eq_zero (by omega)
    subst hn0 ht
    have hmk0 : ∀ w, (Instr.makeSlice 57 (.int .i64 0) (.int .i64 0)).run Tryz.prog w = .ok (.slice (some ⟨w.heap.size, 0, none⟩) 0 0) (w.alloc (.cells (madeCells #[.int .i64 0, .int .i64 0, .int .i64 0] 0) 99)) := fun w => by simpa using hmk w
    clear hmk hR hnn HN hn
    go_enter Tryz.func93, Tryz.ntmps93
    go_wp2
    refine wp_loop_rounds 1 ?_
    rw [rounds_succ]
    go_wp2
    go_ret
    refine ⟨rfl, ?_, bl_a _⟩
    have := HMD.out
    simpa using this
  · obtain ⟨b, off, rfl, hlt, hc⟩ : ∃ b off, a = some ⟨b, off, none⟩ ∧ b < w.heap.size ∧ ∀ j u, (flat3 l)[j]? = some u → w.cell? ⟨b, off + j, none⟩ = some u := by
      rcases hR with h | h
      · rw [h] at hnn
        exact absurd (by simpa using hnn) hn0
      · exact h
    have HC : Hid (∀ j u, (flat3 l)[j]? = some u → w.cell? ⟨b, off + j, none⟩ = some u) := hc
    clear hR hc hnn
    go_enter Tryz.func93, Tryz.ntmps93
    go_wp2
    go_loopw [4] (fun i wr => ∃ (k : Nat), k ≤ n ∧ i = .int .i64 k ∧ Hid (OwnRR wr w.heap.size (.slice (some ⟨w.heap.size, 0, none⟩) n n) (l.take k ++ List.replicate (n - k) (0, 0, 0))) ∧ Hid (Below w.heap.size w wr))
      (fun i _ => n - (intOf i).toNat)
    case atStart => exact ⟨0, Nat.zero_le _, rfl, HMD, bl_a _⟩
    case round =>
      obtain ⟨k, hk, rfl, HO, HB⟩ := hrel
      by_cases hlk : k < n
      · have hlkz : (k : Int) < (n : Int) := by omega
        obtain ⟨x, hx⟩ : ∃ x, l[k]? = some x := ⟨_, List.getElem?_eq_getElem (by rw [← HN.out]; exact hlk)⟩
        have HX : Hid (l[k]? = some x) := hx
        obtain ⟨x0, x1, x2⟩ := RRow.at (l := l) (b := b) (off := off) (w := wr) (fun j u hu => (HB.out.cell (p := ⟨b, off + j, none⟩) hlt).trans (HC.out j u hu)) k x hx
        have To := toRow_any x wr
        have hsw : w.heap.size < wr.heap.size := (HO.out.2 w.heap.size rfl).2
        clear hmk hx
        go_wp2_with fail
        refine To.mono ?_
        rintro e w2 ⟨rfl, hb2⟩
        have HO2 : Hid (OwnRR w2 w.heap.size (.slice (some ⟨w.heap.size, 0, none⟩) n n) (l.take k ++ List.replicate (n - k) (0, 0, 0))) := HO.out.below hb2
        obtain ⟨m0, m1, m2⟩ := ownR_at HO2.out k (0, 0, 0) (fill_at HN.out.symm hlk)
        have f0 := ownR_fr HO2.out (k * 3)
        have f1 := ownR_fr HO2.out (k * 3 + 1)
        have f2 := ownR_fr HO2.out (k * 3 + 2)
        have HN1 : Hid (OwnRR (((w2.setCell ⟨w.heap.size, k * 3, none⟩ (.int .i64 x.1)).setCell ⟨w.heap.size, k * 3 + 1, none⟩ (.int .i64 x.2.1)).setCell ⟨w.heap.size, k * 3 + 2, none⟩ (.int .i64 x.2.2)) w.heap.size (.slice (some ⟨w.heap.size, 0, none⟩) n n) (l.take (k + 1) ++ List.replicate (n - (k + 1)) (0, 0, 0))) := by
          have h := ownR_set HO2.out k (by simp; have := HN.out; omega) x
          rw [fill_step HN.out.symm HX.out] at h
          exact h
        have HN3 : Hid (Below w.heap.size w (((w2.setCell ⟨w.heap.size, k * 3, none⟩ (.int .i64 x.1)).setCell ⟨w.heap.size, k * 3 + 1, none⟩ (.int .i64 x.2.1)).setCell ⟨w.heap.size, k * 3 + 2, none⟩ (.int .i64 x.2.2))) := (HB.out.trans (hb2.mono (by omega))).trans (but3.below (Nat.le_refl _))
        clear x0 x1 x2 To hb2
        go_wp2_with fail
        go_roundw
        case rel => exact ⟨k + 1, by omega, by go_num, HN1, HN3⟩
        case measure => simp [intOf]; omega
      · obtain rfl : n = k := by omega
        have hlkz : ¬ (n : Int) < (n : Int) := by omega
        clear hmk
        go_wp2
        go_ret
        refine ⟨rfl, ?_, HB.out⟩
        have h := HO.out
        rw [List.take_of_length_le (by rw [← HN.out]; exact Nat.le_refl _), Nat.sub_self, List.replicate_zero, List.append_nil] at h
        exact h

/-- What copying lists of rows answers. -/
def CopyR (w : World) (rbs : List RB) (e : Ending) (w' : World) : Prop :=
  ∃ L : List RB, e = .returned (.slice (some ⟨w.heap.size, 0, none⟩) rbs.length rbs.length) ∧ L.map RB.l = rbs.map RB.l ∧ w.heap.size < w'.heap.size ∧ (∀ j, j < rbs.length → w'.frozen? ⟨w.heap.size, j, none⟩ = false) ∧
    (∀ i x, L[i]? = some x → w'.cell? ⟨w.heap.size, i, none⟩ = some (.slice x.a x.l.length x.cap) ∧ ∃ g, x.a = some ⟨g, 0, none⟩ ∧ w.heap.size < g ∧ OwnRR w' w.heap.size (.slice x.a x.l.length x.cap) x.l) ∧ Below w.heap.size w w'

theorem OwnRR.row {w : World} {B g n cap : Nat} {l : List (Int × Int × Int)} (h : OwnRR w B (.slice (some ⟨g, 0, none⟩) n cap) l) : RRow w (some ⟨g, 0, none⟩) l := by
  obtain ⟨a, c, hv, hr, _⟩ := h.form
  simp only [Value.slice.injEq] at hv
  rw [hv.1]
  exact hr

set_option maxHeartbeats 4000000 in
theorem toRowSS_any (a : Option Addr) (cap : Nat) (rbs : List RB) (w : World) (hn : rbs.length ≤ 1048576) (hR : SRow w a rbs) (hH : SHoldW w rbs) :
    Calls Tryz.prog 56 #[.slice a rbs.length cap] w (CopyR w rbs) := by
  obtain ⟨n, hnn⟩ : ∃ n, n = rbs.length := ⟨_, rfl⟩
  have HN : Hid (n = rbs.length) := hnn
  rw [← hnn] at hn ⊢
  have hmk := run_make_rowss n hn
  by_cases hn0 : n = 0
  · have ht : rbs = [] := List.eq_nil_of_length_eq_zero (by omega)
    subst hn0 ht
    have hmk0 : ∀ w, (Instr.makeSlice 27 (.int .i64 0) (.int .i64 0)).run Tryz.prog w = .ok (.slice (some ⟨w.heap.size, 0, none⟩) 0 0) (w.alloc (.cells (madeCells #[.slice none 0 0] 0) 57)) := fun w => by simpa using hmk w
    clear hmk hR hH hnn HN hn
    go_enter Tryz.func56, Tryz.ntmps56
    go_wp2
    refine wp_loop_rounds 1 ?_
    rw [rounds_succ]
    go_wp2
    go_ret
    exact ⟨[], rfl, rfl, by simp, fun j hj => (by simp at hj), fun i x hx => (by simp at hx), bl_a _⟩
  · have ht0 : rbs ≠ [] := by
      intro e
      rw [e] at hnn
      exact hn0 (by simpa using hnn)
    obtain ⟨b, off, rfl, hlt, hc⟩ := hR.resolve_left ht0
    have HC : Hid (∀ i x, rbs[i]? = some x → w.cell? ⟨b, off + i, none⟩ = some (.slice x.a x.l.length x.cap)) := hc
    have HH : Hid (SHoldW w rbs) := hH
    clear hR hH hc hnn ht0
    go_enter Tryz.func56, Tryz.ntmps56
    go_wp2
    go_loopw [4] (fun i wr => ∃ (k : Nat) (L : List RB), k ≤ n ∧ i = .int .i64 k ∧ Hid (L.map RB.l = (rbs.take k).map RB.l ∧ w.heap.size < wr.heap.size ∧ (∀ j, j < n → wr.frozen? ⟨w.heap.size, j, none⟩ = false) ∧ (∀ j, j < n → ∃ v, wr.cell? ⟨w.heap.size, j, none⟩ = some v)) ∧ Hid (∀ i x, L[i]? = some x → wr.cell? ⟨w.heap.size, i, none⟩ = some (.slice x.a x.l.length x.cap) ∧ ∃ g, x.a = some ⟨g, 0, none⟩ ∧ w.heap.size < g ∧ OwnRR wr w.heap.size (.slice x.a x.l.length x.cap) x.l) ∧ Hid (Below w.heap.size w wr))
      (fun i _ => n - (intOf i).toNat)
    case atStart =>
      refine ⟨0, [], Nat.zero_le _, rfl, ⟨rfl, by simp, fun j hj => by simp [go_sem], fun j hj => ?_⟩, fun i x hx => (by simp at hx), bl_a _⟩
      obtain ⟨v, hv⟩ : ∃ v, (madeCells #[Value.slice none 0 0] n)[j]? = some v := ⟨_, Array.getElem?_eq_getElem (by rw [size_madeCells]; exact hj)⟩
      exact ⟨v, by simp [go_sem, hv]⟩
    case round =>
      obtain ⟨k, L, hk, rfl, HI, HE, HB⟩ := hrel
      have HLL : Hid (L.length = k) := by
        have := congrArg List.length HI.out.1
        rw [List.length_map, List.length_map, List.length_take, ← HN.out] at this
        show L.length = k
        omega
      by_cases hlk : k < n
      · have hlkz : (k : Int) < (n : Int) := by omega
        obtain ⟨y, hy⟩ : ∃ y, rbs[k]? = some y := ⟨_, List.getElem?_eq_getElem (by rw [← HN.out]; exact hlk)⟩
        have HY : Hid (rbs[k]? = some y) := hy
        have x0 := (HB.out.cell (p := ⟨b, off + k, none⟩) hlt).trans (HC.out k y hy)
        have To := toRowS_any y.a y.cap y.l wr (HH.out y (List.mem_of_getElem? hy)).2 ((HH.out y (List.mem_of_getElem? hy)).1.below HB.out)
        obtain ⟨m, hm⟩ : ∃ m, m = y.l.length := ⟨_, rfl⟩
        have HM : Hid (m = y.l.length) := hm
        rw [← hm] at x0 To
        have hsw : w.heap.size < wr.heap.size := HI.out.2.1
        clear hmk hy hm
        go_wp2_with fail
        refine To.mono ?_
        rintro e w2 ⟨rfl, hO2, hb2⟩
        have HB2 : Hid (Below wr.heap.size wr w2) := hb2
        obtain ⟨v0, m0⟩ := HI.out.2.2.2 k hlk
        have m1 : w2.cell? ⟨w.heap.size, k, none⟩ = some v0 := (hb2.cell (p := ⟨w.heap.size, k, none⟩) hsw).trans m0
        have f1 : w2.frozen? ⟨w.heap.size, k, none⟩ = false := (hb2.frozen (p := ⟨w.heap.size, k, none⟩) hsw).trans (HI.out.2.2.1 k hlk)
        have hbut : But w.heap.size w2 (w2.setCell ⟨w.heap.size, k, none⟩ (.slice (some ⟨wr.heap.size, 0, none⟩) m m)) := (But.refl _ _).set _ _
        have HN1 : Hid ((L ++ [RB.mk (some ⟨wr.heap.size, 0, none⟩) m y.l]).map RB.l = (rbs.take (k + 1)).map RB.l ∧ w.heap.size < (w2.setCell ⟨w.heap.size, k, none⟩ (.slice (some ⟨wr.heap.size, 0, none⟩) m m)).heap.size ∧ (∀ j, j < n → (w2.setCell ⟨w.heap.size, k, none⟩ (.slice (some ⟨wr.heap.size, 0, none⟩) m m)).frozen? ⟨w.heap.size, j, none⟩ = false) ∧ (∀ j, j < n → ∃ v, (w2.setCell ⟨w.heap.size, k, none⟩ (.slice (some ⟨wr.heap.size, 0, none⟩) m m)).cell? ⟨w.heap.size, j, none⟩ = some v)) := by
          refine ⟨?_, ?_, fun j hj => ?_, fun j hj => ?_⟩
          · rw [List.map_append, HI.out.1, List.take_add_one, HY.out, List.map_append]
            rfl
          · rw [hbut.size]
            have := hb2.size
            omega
          · rw [World.frozen?_setCell]
            exact (hb2.frozen (p := ⟨w.heap.size, j, none⟩) hsw).trans (HI.out.2.2.1 j hj)
          · by_cases e : j = k
            · subst e
              exact ⟨_, set_same m1⟩
            · obtain ⟨v, hv⟩ := HI.out.2.2.2 j hj
              exact ⟨v, (set_other e).trans ((hb2.cell (p := ⟨w.heap.size, j, none⟩) hsw).trans hv)⟩
        have HN2 : Hid (∀ i x, (L ++ [RB.mk (some ⟨wr.heap.size, 0, none⟩) m y.l])[i]? = some x → (w2.setCell ⟨w.heap.size, k, none⟩ (.slice (some ⟨wr.heap.size, 0, none⟩) m m)).cell? ⟨w.heap.size, i, none⟩ = some (.slice x.a x.l.length x.cap) ∧ ∃ g, x.a = some ⟨g, 0, none⟩ ∧ w.heap.size < g ∧ OwnRR (w2.setCell ⟨w.heap.size, k, none⟩ (.slice (some ⟨wr.heap.size, 0, none⟩) m m)) w.heap.size (.slice x.a x.l.length x.cap) x.l) := by
          intro i x hx
          by_cases hi : i < L.length
          · rw [List.getElem?_append_left hi] at hx
            obtain ⟨q1, g, q2, q3, q4⟩ := HE.out i x hx
            refine ⟨(set_other (by have := HLL.out; omega)).trans ((hb2.cell (p := ⟨w.heap.size, i, none⟩) hsw).trans q1), g, q2, q3, (q4.below hb2).but hbut (fun g' hg' => ?_)⟩
            rw [q2] at hg'
            have : g = g' := by simpa [Value.ownBlock] using hg'
            omega
          · rw [List.getElem?_append_right (by omega)] at hx
            have hi0 : i - L.length = 0 := by
              have := (List.getElem?_eq_some_iff.1 hx).1
              simp at this
              omega
            rw [hi0] at hx
            simp at hx
            subst hx
            have hik : i = k := by have := HLL.out; omega
            subst hik
            dsimp only
            rw [← HM.out]
            refine ⟨set_same m1, wr.heap.size, rfl, hsw, (hO2.base (Nat.le_of_lt hsw)).but hbut (fun g' hg' => ?_)⟩
            have : wr.heap.size = g' := by simpa [Value.ownBlock] using hg'
            omega
        have HN3 : Hid (Below w.heap.size w (w2.setCell ⟨w.heap.size, k, none⟩ (.slice (some ⟨wr.heap.size, 0, none⟩) m m))) := (HB.out.trans (hb2.mono (by omega))).trans (hbut.below (Nat.le_refl _))
        clear x0 To hO2 hb2 hbut HE HI m0
        go_wp2_with fail
        generalize w2.setCell ⟨w.heap.size, k, none⟩ (.slice (some ⟨wr.heap.size, 0, none⟩) m m) = wz at *
        go_roundw
        case rel => first | exact ⟨k + 1, _, by omega, by go_num, HN1, HN2, HN3⟩ | exact ⟨k + 1, by omega, by go_num, _, HN1, HN2⟩
        case measure => simp [intOf]; omega
      · obtain rfl : n = k := by omega
        have hlkz : ¬ (n : Int) < (n : Int) := by omega
        clear hmk
        go_wp2
        go_ret
        refine ⟨L, by rw [HN.out]; rfl, ?_, HI.out.2.1, fun j hj => HI.out.2.2.1 j (by rw [HN.out]; exact hj), HE.out, HB.out⟩
        rw [HI.out.1, List.take_of_length_le (by rw [← HN.out]; exact Nat.le_refl _)]
end Go.Proofs.YtdcaicoomldmgaaGreatDoor
