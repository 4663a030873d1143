/- Texts put together: TbL TbN ShwK -/
import Derived.Test.YtganfiajhokkmaaGreatDoorMk20
import Derived.Test.YtganfiajhokkmaaGreatDoorMk19
import Derived.Test.YtganfiajhokkmaaGreatDoorMk16
import Derived.Deep.RegionHeld3
/- TbL -/
namespace Go.Proofs.YtganfiajhokkmaaGreatDoor
open Go.RowKit Go.Deep
set_option maxRecDepth 100000

theorem upTo_next (t : TL) (k : Nat) : upTo t (k + 1) = upTo t k ++ (lineC (t.row k).cel (t.row k).n ++ [10]) := by
  simp [upTo, rowsTx, List.append_assoc]
set_option maxHeartbeats 8000000 in
theorem implTableText_any (t : TL) (w : World) (h : t.lies 0 w) (ht : Tab w) : Calls Tryz.prog 7 #[.agg #[.slice t.va t.vn t.vc, .slice t.ra t.rn t.rc]] w (TabAns t w) := by
  have HV : Hid (∀ W, Below w.heap.size w W → Calls Tryz.prog 20 #[.slice t.va t.vn t.vc] W (Tells (varsOkL t.vn t.var) W)) := fun W hb => varsOkP_any t.va t.vn t.vc t.var W (h.1.upper (Upper.of_below hb)) (fun i hi => (h.2.1 i hi).upper (Upper.of_below hb)) h.2.2.1
  have HR : Hid (∀ W, Below w.heap.size w W → Calls Tryz.prog 21 #[.slice t.ra t.rn t.rc, .slice t.va t.vn t.vc] W (Tells (t.rn ≤ 300 ∧ ∀ i, i < t.rn → solOk (t.row i) t.vn) W)) := fun W hb => rowsOk_any t.ra t.rn t.rc t.row t.vn t.vc t.va W h.2.2.2.2.2 (h.2.2.2.1.upper (Upper.of_below hb)) (fun i hi => (h.2.2.2.2.1 i hi).upper (Upper.of_below hb))
  have HLV : Hid (tabOk t → ∀ W, Below w.heap.size w W → Calls Tryz.prog 22 #[.slice t.va t.vn t.vc, .func (.func 23) #[] #[]] W fun e w' => DigRes W (lineV t.var t.vn ++ [10]) e w') := fun hok W hb => lineVars_any t.va t.vn t.vc t.var W (h.1.upper (Upper.of_below hb)) (fun i hi => (h.2.1 i hi).upper (Upper.of_below hb)) hok.1.1 hok.1.2
  have HLC : Hid (tabOk t → ∀ k, k < t.rn → ∀ W, Below w.heap.size w W → Calls Tryz.prog 24 #[.slice (t.row k).a (t.row k).n (t.row k).cap, .func (.func 25) #[] #[]] W fun e w' => DigRes W (lineC (t.row k).cel (t.row k).n ++ [10]) e w') := fun hok k hk W hb => lineCells_any (t.row k).a (t.row k).n (t.row k).cap (t.row k).cel W ((h.2.2.2.2.1 k hk).1.upper (Upper.of_below hb)) (fun i hi => ((h.2.2.2.2.1 k hk).2.1 i hi).upper (Upper.of_below hb)) (by rw [(hok.2.2 k hk).1]; exact hok.1.1) (fun i hi => (hok.2.2 k hk).2 i hi) (ht.below hb)
  have HLL : Hid (tabOk t → ∀ k, k < t.rn → (lineC (t.row k).cel (t.row k).n ++ [10]).length ≤ 521) := fun hok k hk => by
    have h1 := lineC_len (t.row k).n (fun i hi => (hok.2.2 k hk).2 i hi)
    have h2 : (t.row k).n ≤ 8 := by rw [(hok.2.2 k hk).1]; exact hok.1.1
    simp only [List.length_append, List.length_cons, List.length_nil]
    omega
  have HBY : Hid (Byt (tabTx t)) := tabTx_byt h
  have HRR : Hid (KRow 0 w 1 t.ra t.rn (fun i => (t.row i).cells)) := h.2.2.2.1
  have HXW : Hid (Box (w.alloc (.cells #[.slice t.va t.vn t.vc, .slice t.ra t.rn t.rc] 31)) w.heap.size [.slice t.va t.vn t.vc, .slice t.ra t.rn t.rc]) := Box.new w #[.slice t.va t.vn t.vc, .slice t.ra t.rn t.rc] 31 (0, 0)
  clear h ht
  go_enter Tryz.func7, Tryz.ntmps7
  go_wp2_with fail
  refine (HV.out _ (bl_a _)).mono ?_
  rintro e w1 ⟨q1, rfl, hq1, hb1⟩
  have HB1 : Hid (Below w.heap.size w w1) := bl_trans (bl_a _) hb1
  have HX1 : Hid (Box w1 w.heap.size [.slice t.va t.vn t.vc, .slice t.ra t.rn t.rc]) := HXW.out.below hb1
  clear hb1 HV HXW
  cases q1 with
  | false =>
    have HNO : Hid (¬ tabOk t) := fun hh => by have h := hq1.2 hh.1; cases h
    clear hq1
    go_wp2_with fail
    go_ret
    exact TabAns.no HNO.out HB1.out
  | true =>
  have HVO : Hid (varsOkL t.vn t.var) := hq1.1 rfl
  have x0 := HX1.out.2 0 _ rfl
  have x1 := HX1.out.2 1 _ rfl
  clear hq1
  go_wp2_with fail
  refine (HR.out _ HB1.out).mono ?_
  rintro e w2 ⟨q2, rfl, hq2, hb2⟩
  have HB2 : Hid (Below w.heap.size w w2) := bl_trans HB1.out hb2
  have HX2 : Hid (Box w2 w.heap.size [.slice t.va t.vn t.vc, .slice t.ra t.rn t.rc]) := HX1.out.below hb2
  clear hb2 HR HX1 HB1 x0 x1
  cases q2 with
  | false =>
    have HNO : Hid (¬ tabOk t) := fun hh => by have h := hq2.2 hh.2; cases h
    clear hq2
    go_wp2_with fail
    go_ret
    exact TabAns.no HNO.out HB2.out
  | true =>
  have HOK : Hid (tabOk t) := ⟨HVO.out, hq2.1 rfl⟩
  have x0 := HX2.out.2 0 _ rfl
  clear hq2 HVO
  go_wp2_with fail
  refine (HLV.out HOK.out _ HB2.out).mono ?_
  rintro e w3 ⟨g3, c3, rfl, hr3, hb3⟩
  have HB3 : Hid (Below w.heap.size w w3) := bl_trans HB2.out hb3
  have HX3 : Hid (Box w3 w.heap.size [.slice t.va t.vn t.vc, .slice t.ra t.rn t.rc]) := HX2.out.below hb3
  have HL3 : Hid (∀ k, k ≤ t.rn → (upTo t k).length ≤ 113 + k * 521) := fun k hk => upTo_len HOK.out k hk
  have HO3 : Hid (Own8 w3 (w.heap.size + 1) (.slice (some ⟨g3, 0, none⟩) (lineV t.var t.vn ++ [10]).length c3) (lineV t.var t.vn ++ [10]).length (upTo t 0)) := (show Own8 _ _ _ _ _ by have h := (hr3.mono (B' := (w.heap.size + 1)) (HX2.out.1)).own8; simpa [upTo, rowsTx] using h)
  obtain ⟨N3, hN3⟩ : ∃ N3, N3 = (lineV t.var t.vn ++ [10]).length := ⟨_, rfl⟩
  rw [← hN3] at HO3 ⊢
  have hr300 := HOK.out.2.1
  clear hb3 HLV HX2 HB2 x0 hr3 hN3
  have x1 : w3.cell? ⟨w.heap.size, 1, none⟩ = some (.slice t.ra t.rn t.rc) := HX3.out.2 1 _ rfl
  have hfin : ∀ (v : Value) (N : Nat) (W : World), Own8 W (w.heap.size + 1) v N (upTo t t.rn) → Below w.heap.size w W → TabAns t w (.returned v) W := fun v N W hO hb => by
    have hlen := hO.len
    have hle := HL3.out t.rn (Nat.le_refl _)
    obtain ⟨a', cp, rfl, hnw⟩ := hO.nw HBY.out (by omega)
    refine ⟨_, .inl ⟨HOK.out, rfl⟩, a', cp, ?_, ?_, hb⟩
    · show _ = Ending.returned (.slice a' (upTo t t.rn).length cp)
      rw [hlen]
    · show Nw W w.heap.size a' (upTo t t.rn).length (upTo t t.rn)
      rw [hlen]
      exact hnw.mono (Nat.le_succ _)
  have HFIN := hidQ hfin
  clear hfin
  by_cases hr0 : t.rn = 0
  · rw [hr0] at x1 HFIN
    clear hr0 hr300 HLC HLL HRR
    go_wp2_with fail
    go_loopw [3, 24] (fun x i wr => x = .slice (some ⟨g3, 0, none⟩) N3 c3 ∧ i = .int .i64 0 ∧ wr = w3) (fun _ _ _ => 0)
    case atStart => exact ⟨rfl, rfl, rfl⟩
    case round =>
      obtain ⟨rfl, rfl, hw⟩ := hrel
      subst hw
      go_wp2_with fail
      go_ret
      exact HFIN.out _ _ _ HO3.out HB3.out
  obtain ⟨b, off, ea, _, hlt, hc⟩ := HRR.out.resolve_left hr0
  have HC : Hid (∀ i, i < t.rn → w.cell? ⟨b, off + i, none⟩ = some (.slice (t.row i).a (t.row i).n (t.row i).cap)) := fun i hi => (by have h := hc i hi 0 _ rfl; rwa [Nat.mul_one] at h)
  rw [ea] at x1
  clear hc ea HRR
  go_wp2_with fail
  clear x1
  go_loopw [3, 24] (fun x i wr => ∃ (k N : Nat) (v : Value), k ≤ t.rn ∧ i = .int .i64 k ∧ v = x ∧ Hid (Own8 wr (w.heap.size + 1) v N (upTo t k)) ∧ Hid (Below w.heap.size w wr) ∧ (w.heap.size + 1) ≤ wr.heap.size) (fun _ i _ => t.rn - (intOf i).toNat)
  case atStart => exact ⟨0, N3, _, Nat.zero_le _, rfl, rfl, HO3, HB3, HX3.out.1⟩
  case round =>
    clear HO3 HB3 HX3
    obtain ⟨k, N, v, hk, rfl, rfl, HO, HB, hsz⟩ := hrel
    have hN : N ≤ 157000 := by
      have e1 := HO.out.len
      have e2 := HL3.out k hk
      omega
    by_cases hlk : k < t.rn
    rotate_left
    · obtain rfl : k = t.rn := by omega
      have hlkz : ¬ (t.rn : Int) < (t.rn : Int) := by omega
      go_wp2_with fail
      go_ret
      exact HFIN.out _ _ _ HO.out HB.out
    have hlkz : (k : Int) < (t.rn : Int) := by omega
    have y0 : wr.cell? ⟨b, off + k, none⟩ = some (.slice (t.row k).a (t.row k).n (t.row k).cap) := (HB.out.cell (p := ⟨b, off + k, none⟩) hlt).trans (HC.out k hlk)
    have Z := fun o => HLC.out HOK.out k hlk (wr.alloc o) (bl_trans HB.out (bl_a o))
    have hll := HLL.out HOK.out k hlk
    have HNK := hidQ (upTo_next t k)
    have hl1 : 0 < (lineC (t.row k).cel (t.row k).n ++ [10]).length := by simp
    have HBo : Hid (∀ o, Below w.heap.size w (wr.alloc o)) := fun o => bl_trans HB.out (bl_a o)
    have HOo : Hid (∀ o, Own8 (wr.alloc o) (w.heap.size + 1) v N (upTo t k)) := fun o => HO.out.below (bl_a o)
    generalize (lineC (t.row k).cel (t.row k).n ++ [10]) = L1 at *
    go_wp2_with fail
    refine (Z _).mono ?_
    rintro e w4 ⟨g4, c4, rfl, hr4, hb4⟩
    have HB4 : Hid (Below w.heap.size w w4) := bl_trans (HBo.out _) hb4
    have HO4 := hidQ (((HOo.out _).below hb4).1)
    have HN4 : Hid (∀ j u, (L1.map (Value.int .u8))[j]? = some u → w4.cell? ((⟨g4, 0, none⟩ : Addr).add j) = some u) := hr4.news
    have hs4 : (w.heap.size + 1) ≤ w4.heap.size := Nat.le_trans hsz (Nat.le_trans (by simp) hb4.size)
    clear Z hr4 hb4 HBo HOo y0 HO HB
    go_wp2_with (refine app8 rfl (.tmp 28) (.tmp 31) rfl (w.heap.size + 1) v N (upTo t k) rfl HO4 ⟨g4, 0, none⟩ L1.length _ L1 rfl rfl HN4 (by omega) (N + L1.length) rfl (upTo t k ++ L1) rfl (by omega) hs4 ?_; intro g5 c5 w5 HR5 _ _ HB5x; have HB5 : Hid (Below w.heap.size w w5) := HB4.out.trans (HB5x.out.mono (Nat.le_succ _)); have hs5 : (w.heap.size + 1) ≤ w5.heap.size := Nat.le_trans hs4 HB5x.out.size; clear HB5x HO4 HN4 hs4 HB4)
    have HO5 : Hid (Own8 w5 (w.heap.size + 1) (.slice (some ⟨g5, 0, none⟩) (N + L1.length) c5) (N + L1.length) (upTo t (k + 1))) := (show Own8 _ _ _ _ _ by rw [HNK.out]; exact HR5.out.own8)
    go_roundw
    case rel => exact ⟨k + 1, N + L1.length, _, by omega, by go_num, rfl, HO5, HB5, hs5⟩
    case measure => simp [intOf]; omega
end Go.Proofs.YtganfiajhokkmaaGreatDoor

/- TbN -/
namespace Go.Proofs.YtganfiajhokkmaaGreatDoor
open Go.RowKit Go.Deep
set_option maxRecDepth 100000

theorem CB.same.symm {x y : CB} (h : x.same y) : y.same x := ⟨h.1.symm, h.2.symm⟩
theorem CB.same.trans {x y z : CB} (h : x.same y) (k : y.same z) : x.same z := ⟨h.1.trans k.1, h.2.trans k.2⟩
theorem SO.same.symm {x y : SO} (h : x.same y) : y.same x := ⟨h.1.symm, fun i hi => (h.2 i (by rw [h.1]; exact hi)).symm⟩
theorem SO.same.trans {x y z : SO} (h : x.same y) (k : y.same z) : x.same z := ⟨h.1.trans k.1, fun i hi => (h.2 i hi).trans (k.2 i (by rw [← h.1]; exact hi))⟩
theorem TL.same.symm {x y : TL} (h : x.same y) : y.same x := ⟨h.1.symm, fun i hi => (show _ = _ from (h.2.1 i (by rw [h.1]; exact hi)).symm), h.2.2.1.symm, fun i hi => (h.2.2.2 i (by rw [h.2.2.1]; exact hi)).symm⟩
theorem TL.same.trans {x y z : TL} (h : x.same y) (k : y.same z) : x.same z := ⟨h.1.trans k.1, fun i hi => (show _ = _ from Eq.trans (h.2.1 i hi) (k.2.1 i (by rw [← h.1]; exact hi))), h.2.2.1.trans k.2.2.1, fun i hi => (h.2.2.2 i hi).trans (k.2.2.2 i (by rw [← h.2.2.1]; exact hi))⟩
theorem cellOk_same {x y : CB} (h : x.same y) (k : cellOk x) : cellOk y := by
  unfold cellOk at *
  rw [← h.1, ← h.2]
  exact k
theorem solOk_same {x y : SO} {n : Nat} (h : x.same y) (k : solOk x n) : solOk y n := ⟨h.1.symm.trans k.1, fun i hi => cellOk_same (h.2 i (by rw [h.1]; exact hi)) (k.2 i (by rw [h.1]; exact hi))⟩
theorem tabOk_same {x y : TL} (h : x.same y) (k : tabOk x) : tabOk y := by
  obtain ⟨⟨k1, k2⟩, k3, k4⟩ := k
  obtain ⟨h1, h2, h3, h4⟩ := h
  have hb : ∀ i, i < x.vn → (x.var i).b = (y.var i).b := fun i hi => h2 i hi
  refine ⟨⟨by rw [← h1]; exact k1, fun i hi => ?_⟩, by rw [← h3]; exact k3, fun i hi => ?_⟩
  · rw [← h1] at hi
    refine ⟨by rw [← hb i hi]; exact (k2 i hi).1, fun j hj => ?_⟩
    rw [← hb i hi, ← hb j (by omega)]
    exact (k2 i hi).2 j hj
  · rw [← h3] at hi
    rw [← h1]
    exact solOk_same (h4 i hi) (k4 i hi)
theorem cellTx_same {x y : CB} (h : x.same y) : cellTx x = cellTx y := by
  have e := h.2
  simp only [TB.td, TD.mk.injEq] at e
  unfold cellTx Tm.show
  rw [h.1, e.1, e.2.1, e.2.2.1, e.2.2.2]
theorem lineV_same {v u : Nat → SL} (n : Nat) (h : ∀ i, i < n → (v i).same (u i)) : lineV v n = lineV u n := by
  induction n with
  | zero => rfl
  | succ n ih =>
    have e : (v n).b = (u n).b := h n (by omega)
    simp only [lineV]
    rw [ih (fun i hi => h i (by omega)), e]
theorem lineC_same {v u : Nat → CB} (n : Nat) (h : ∀ i, i < n → (v i).same (u i)) : lineC v n = lineC u n := by
  induction n with
  | zero => rfl
  | succ n ih =>
    simp only [lineC]
    rw [ih (fun i hi => h i (by omega)), cellTx_same (h n (by omega))]
theorem rowsTx_same {v u : Nat → SO} (n : Nat) (h : ∀ i, i < n → (v i).same (u i)) : rowsTx v n = rowsTx u n := by
  induction n with
  | zero => rfl
  | succ n ih =>
    have e := h n (by omega)
    simp only [rowsTx]
    rw [ih (fun i hi => h i (by omega)), lineC_same _ e.2, e.1]
theorem tabTx_same {x y : TL} (h : x.same y) : tabTx x = tabTx y := by
  unfold tabTx upTo
  rw [lineV_same _ h.2.1, rowsTx_same _ h.2.2.2, h.1, h.2.2.1]
/-- What a table is told as. -/
def Told (t : TL) (L : List Int) : Prop := (tabOk t ∧ L = tabTx t) ∨ (¬ tabOk t ∧ L = [])
theorem told_some (t : TL) : ∃ L, Told t L ∧ L.length ≤ 156413 := by
  by_cases h : tabOk t
  · refine ⟨_, .inl ⟨h, rfl⟩, ?_⟩
    have h1 := upTo_len h t.rn (Nat.le_refl _)
    have h2 := h.2.1
    unfold tabTx
    omega
  · exact ⟨[], .inr ⟨h, rfl⟩, by simp⟩
theorem TabAns.told {e y : TL} {L : List Int} {w w' : World} {r : Ending} (hs : e.same y) (hL : Told e L) (h : TabAns y w r w') : TxRes w L r w' := by
  obtain ⟨bs, hb, hr⟩ := h
  have hh : bs = L := by
    rcases hL with ⟨h1, rfl⟩ | ⟨h1, rfl⟩
    · rcases hb with ⟨_, rfl⟩ | ⟨h2, _⟩
      · exact (tabTx_same hs).symm
      · exact absurd (tabOk_same hs h1) h2
    · rcases hb with ⟨h2, _⟩ | ⟨_, rfl⟩
      · exact absurd (tabOk_same hs.symm h2) h1
      · rfl
  subst hh
  exact hr
end Go.Proofs.YtganfiajhokkmaaGreatDoor

/- ShwK -/
namespace Go.Proofs.YtganfiajhokkmaaGreatDoor
open Go.RowKit Go.Deep
set_option maxRecDepth 100000

/-- A text that is marked from k on. -/
def Marked (w : World) (a : Option Addr) (len : Nat) (k : Int) : Prop := len = 0 ∨ ∃ g, a = some ⟨g, 0, none⟩ ∧ g < w.heap.size ∧ ∀ i, i < len → w.cell? ⟨g, i, none⟩ = some (.int .u8 ((k + (i : Nat)) % 256))
theorem Marked.below {w w' : World} {a : Option Addr} {len : Nat} {k : Int} (h : Marked w a len k) (hb : Below w.heap.size w w') : Marked w' a len k := by
  rcases h with h | ⟨g, ha, hl, hc⟩
  · exact .inl h
  · exact .inr ⟨g, ha, Nat.lt_of_lt_of_le hl hb.size, fun i hi => (hb.cell (p := ⟨g, i, none⟩) hl).trans (hc i hi)⟩
theorem Nw.but {w w' : World} {B g len : Nat} {a : Option Addr} {bs : List Int} (h : Nw w B a len bs) (hb : But g w w') (hg : g < B) : Nw w' B a len bs := by
  rcases h with h | ⟨g', ha, hB, ho⟩
  · exact .inl h
  · exact .inr ⟨g', ha, hB, ho.but hb (by omega)⟩

theorem mark_zero (a : Option Addr) (cap : Nat) (k : Int) (w : World) : Calls Tryz.prog 11 #[.slice a 0 cap, .int .i64 k] w fun e w' => e = .returned (.int .i64 k) ∧ w' = w := by
  go_enter Tryz.func11, Tryz.ntmps11
  go_wp2
  refine wp_loop_rounds 1 ?_
  rw [rounds_succ]
  go_wp2
  go_ret
  exact ⟨rfl, rfl⟩
/-- What marking a new text leaves. -/
def MarkRes (w : World) (B : Nat) (a : Option Addr) (len : Nat) (k : Int) (e : Ending) (w' : World) : Prop := e = .returned (.int .i64 (k + len)) ∧ Marked w' a len k ∧ Below B w w' ∧ w'.heap.size = w.heap.size
theorem mark_nw (a : Option Addr) (len cap B : Nat) (bs : List Int) (k : Int) (w : World) (h : Nw w B a len bs) (hk : 0 ≤ k) (hk2 : k ≤ 4194304) (hlen : len ≤ 1048576) :
    Calls Tryz.prog 11 #[.slice a len cap, .int .i64 k] w fun e w' => MarkRes w B a len k e w' := by
  rcases h with ⟨rfl, rfl, rfl⟩ | ⟨g, rfl, hB, ho⟩
  · refine (mark_zero none cap k w).mono ?_
    rintro e w' ⟨rfl, rfl⟩
    exact ⟨by simp, .inl rfl, Below.refl _ _, rfl⟩
  · refine (markByteS_own g len cap k w hk hk2 hlen ho.2.2.1 ho.2.2.2).mono ?_
    rintro e w' ⟨rfl, hb, hc, _⟩
    exact ⟨rfl, .inr ⟨g, rfl, by rw [hb.size]; exact ho.2.1, hc⟩, hb.below hB, hb.size⟩

theorem held_any (a : Option Addr) (len cap : Nat) (k : Int) (w : World) (h : Marked w a len k) (hk : 0 ≤ k) (hk2 : k ≤ 4194304) (hlen : len ≤ 1048576) :
    Calls Tryz.prog 12 #[.slice a len cap, .int .i64 k] w fun e w' => e = .returned (.int .i64 (k + len)) ∧ w' = w := by
  rcases h with rfl | ⟨g, rfl, hl, hc⟩
  · go_enter Tryz.func12, Tryz.ntmps12
    go_wp2
    refine wp_loop_rounds 1 ?_
    rw [rounds_succ]
    go_wp2
    go_ret
    exact ⟨by simp, rfl⟩
  · go_enter Tryz.func12, Tryz.ntmps12
    go_wp2
    go_loop [1, 5] (fun q i => ∃ j : Nat, j ≤ len ∧ i = .int .i64 j ∧ q = .int .i64 (k + j)) (fun _ i => len - (intOf i).toNat)
    case atStart => exact ⟨0, Nat.zero_le _, rfl, by simp⟩
    case round =>
      obtain ⟨j, hj, rfl, rfl⟩ := hrel
      by_cases hlt : j < len
      · have hx := hc j hlt
        have hw : IntKind.u8.wrap (k + (j : Int)) = (k + (j : Int)) % 256 := by rw [IntKind.wrap_u8]
        clear hc
        go_wp2
        go_round
        case rel => exact ⟨j + 1, by omega, by go_num, by go_num⟩
        case measure => simp [intOf]; omega
      · obtain rfl : j = len := by omega
        go_wp2
        go_ret
        exact ⟨rfl, rfl⟩
theorem bl_drewN {w : World} (q : Nat) : Below w.heap.size w (w.drewN q) := below_drewN (Below.refl _ _) q
end Go.Proofs.YtganfiajhokkmaaGreatDoor
