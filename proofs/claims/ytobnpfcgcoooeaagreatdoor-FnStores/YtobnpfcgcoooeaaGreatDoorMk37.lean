/- Texts put together: StpJ -/
import Derived.Test.YtobnpfcgcoooeaaGreatDoorMk36
import Derived.Test.YtobnpfcgcoooeaaGreatDoorMk12
/- StpJ -/
namespace Go.Proofs.YtobnpfcgcoooeaaGreatDoor
open Go.RowKit Go.Deep Go.Maps
set_option maxRecDepth 100000

/-- What StoreOf answers of a graph that may be. -/
def StoreRes (w : World) (n : Nat) (T U V : Nat → Tm) (bt bu bv : Nat → List Int) (e : Ending) (w' : World) : Prop :=
  ∃ vT vR r vs B' B2, e = .returned (.tuple #[.agg #[vT, vR], .bool true]) ∧ OwnTR w' w.heap.size vT r ∧ TermsOf (allT T U V bt bu bv n) (r.map TB.td) ∧ r.length ≤ 3 * n ∧ Below w.heap.size w w' ∧
    (∀ y ∈ r, OwnY w' B' y.t.a y.t.len y.t.cap y.b) ∧ r.Pairwise (fun x y => ∀ p q, x.t.a = some p → y.t.a = some q → p.block < q.block) ∧ (∀ g, vT.ownBlock = some g → g < B') ∧ (∀ y ∈ r, ∀ p, y.t.a = some p → p.block < B2) ∧ (w.heap.size ≤ B' ∧ w.heap.size ≤ B2) ∧ (∀ g, vT.ownBlock = some g → g < B2) ∧
    Orders w' B2 vR (gRows (r.map TB.td) T U V bt bu bv n) 6 vs

set_option maxHeartbeats 4000000 in
theorem implStoreOf_no (a : Option Addr) (n cap : Nat) (T U V : Nat → Tm) (bt bu bv : Nat → List Int) (w : World) (hn : n ≤ 1048576) (hf : AllFit n T U V) (hR : Rows w a n T U V) (h1 : Texts w n T bt) (h2 : Texts w n U bu) (h3 : Texts w n V bv) (hok : graphOk n T U V bt bu bv = false) :
    Calls Tryz.prog 5 #[.agg #[.slice a n cap]] w fun e w' => e = .returned (.tuple #[.agg #[.slice none 0 0, .slice none 0 0], .bool false]) ∧ Below w.heap.size w w' := by
  have hGO := fun o1 o2 => implGraphOk_any a n cap T U V bt bu bv ((w.alloc o1).alloc o2) hn hf (hR.below (bl_alloc (bl_a o1) o2)) (h1.below (bl_alloc (bl_a o1) o2)) (h2.below (bl_alloc (bl_a o1) o2)) (h3.below (bl_alloc (bl_a o1) o2))
  rw [hok] at hGO
  clear hf hR h1 h2 h3 hok hn
  go_enter Tryz.func5, Tryz.ntmps5
  go_wp2_with fail
  refine (hGO _ _).mono ?_
  rintro e w1 ⟨rfl, HB1⟩
  have HB1 : Hid (Below (w.heap.size + 1 + 1) ((w.alloc (.cells #[.slice a n cap] 25)).alloc (.cells #[.slice none 0 0, .slice none 0 0] 30)) w1) := (show Below _ _ _ by simpa using HB1)
  have c0 : w1.cell? ⟨w.heap.size + 1, 0, none⟩ = some (.slice none 0 0) := (HB1.out.cell (p := ⟨w.heap.size + 1, 0, none⟩) (by simp)).trans (by simp [go_sem])
  have c1 : w1.cell? ⟨w.heap.size + 1, 1, none⟩ = some (.slice none 0 0) := (HB1.out.cell (p := ⟨w.heap.size + 1, 1, none⟩) (by simp)).trans (by simp [go_sem])
  have f0 : w1.frozen? ⟨w.heap.size + 1, 0, none⟩ = false := (HB1.out.frozen (p := ⟨w.heap.size + 1, 0, none⟩) (by simp)).trans (by simp [go_sem])
  have f1 : w1.frozen? ⟨w.heap.size + 1, 1, none⟩ = false := (HB1.out.frozen (p := ⟨w.heap.size + 1, 1, none⟩) (by simp)).trans (by simp [go_sem])
  have hs1 : w.heap.size + 1 + 1 ≤ w1.heap.size := by have := HB1.out.size; simpa using this
  clear hGO
  go_wp2
  refine bodyPost_ret (v := .tuple #[.agg #[.slice none 0 0, .slice none 0 0], .bool false]) (by simp [results, Tryz.results5, go_sem, *]) rfl ⟨rfl, ?_⟩
  exact ((bl_alloc (bl_a _) _).trans (HB1.out.mono (by omega))).trans ((Below.refl _ _).setCell (p := ⟨w.heap.size + 1, 0, none⟩) (Nat.le_succ _) _ |>.setCell (p := ⟨w.heap.size + 1, 1, none⟩) (Nat.le_succ _) _)

theorem one_value (w : World) (v : Value) : ∀ j u, ([v] : List Value)[j]? = some u → (w.alloc (.cells #[v] 38)).cell? ((⟨w.heap.size, 0, none⟩ : Addr).add j) = some u := by
  intro j u hj
  have h0 : j = 0 := by
    have := (List.getElem?_eq_some_iff.1 hj).1
    simpa using this
  subst h0
  simp at hj
  subst hj
  simp [Addr.add, go_sem]
theorem grown_set (w : World) (b i : Nat) (v : Value) : w.grownBy (w.setCell ⟨b, i, none⟩ v) (some b) := ⟨rfl, rfl, rfl, by simp [World.setCell], fun c _ h => Below.heap_setCell _ _ _ _ (fun e => h (by rw [e]))⟩
theorem Kept.none_of {p : Nat} {row : Option Nat} {w w1 w2 : World} (h : Kept p none w w1) (k : Kept p row w1 w2) (hr : ∀ g, row = some g → w.heap.size ≤ g) : Kept p none w w2 :=
  ⟨Nat.le_trans h.size k.size, fun b h1 h2 _ => (k.block b (Nat.lt_of_lt_of_le h1 h.size) h2 (fun e => by have := hr b e.symm; omega)).trans (h.block b h1 h2 (by simp))⟩

set_option maxHeartbeats 16000000 in
theorem implStoreOf_yes (a : Option Addr) (n cap : Nat) (T U V : Nat → Tm) (bt bu bv : Nat → List Int) (w : World) (hf : AllFit n T U V) (hR : Rows w a n T U V) (h1 : Texts w n T bt) (h2 : Texts w n U bu) (h3 : Texts w n V bv) (hok : graphOk n T U V bt bu bv = true) (ht : Tab w) :
    Calls Tryz.prog 5 #[.agg #[.slice a n cap]] w (StoreRes w n T U V bt bu bv) := by
  obtain ⟨i0, hi0, hzz⟩ := Option.map_eq_some_iff.1 Tryz.info38
  simp only [Prod.mk.injEq] at hzz
  obtain ⟨hi2, hi1, hi3⟩ := hzz
  have hgg : n ≤ 60 ∧ ∀ y, InG n T U V bt bu bv y → y.good ∧ Bs w y.t.a y.t.len y.b := graph_good hok h1 h2 h3
  have hn : n ≤ 60 := hgg.1
  have HGG : Hid (∀ y, InG n T U V bt bu bv y → y.good ∧ Bs w y.t.a y.t.len y.b) := hgg.2
  have HTab : Hid (Tab w) := ht
  have HRW : Hid (Rows w a n T U V) := hR
  have hGO := fun o1 o2 => implGraphOk_any a n cap T U V bt bu bv ((w.alloc o1).alloc o2) (by omega) hf (hR.below (bl_alloc (bl_a o1) o2)) (h1.below (bl_alloc (bl_a o1) o2)) (h2.below (bl_alloc (bl_a o1) o2)) (h3.below (bl_alloc (bl_a o1) o2))
  rw [hok] at hGO
  clear hf hR h1 h2 h3 hok hgg ht
  go_enter Tryz.func5, Tryz.ntmps5
  go_wp2_with fail
  refine (hGO _ _).mono ?_
  rintro e w1 ⟨rfl, hB1⟩
  have HB1 : Hid (Below (w.heap.size + 1 + 1) ((w.alloc (.cells #[.slice a n cap] 25)).alloc (.cells #[.slice none 0 0, .slice none 0 0] 30)) w1) := (show Below _ _ _ by simpa using hB1)
  have HBw1 : Hid (Below w.heap.size w w1) := ((bl_alloc (bl_a _) _).trans (HB1.out.mono (by omega)))
  have hs1 : w.heap.size + 1 + 1 ≤ w1.heap.size := by have := HB1.out.size; simpa using this
  have g0 : w1.cell? ⟨w.heap.size, 0, none⟩ = some (.slice a n cap) := (HB1.out.cell (p := ⟨w.heap.size, 0, none⟩) (by show w.heap.size < _; omega)).trans (by simp [go_sem])
  have hTO := termsOf_any a n cap T U V bt bu bv w1 hn (HRW.out.below HBw1.out) (fun y hy => ⟨(HGG.out y hy).1, (HGG.out y hy).2.below HBw1.out⟩)
  clear hGO hB1
  go_wp2_with fail
  refine hTO.mono ?_
  rintro e w2 ⟨vT0, r, B', rfl, hOT, hTM, hrl, hB2, hB', hvB, hOY, hPW⟩
  obtain ⟨aT, capT, rfl, hTRW⟩ : ∃ aT capT, vT0 = .slice aT r.length capT ∧ TRow w2 aT r := by
    obtain ⟨aT, capT, h1, h2, _⟩ := hOT.form
    exact ⟨aT, capT, h1, h2⟩
  have HTRW : Hid (TRow w2 aT r) := hTRW
  have HOT : Hid (OwnTR w2 w1.heap.size (Value.slice aT r.length capT) r) := hOT
  have HTM : Hid (TermsOf (allT T U V bt bu bv n) (r.map TB.td)) := hTM
  have HB2 : Hid (Below w1.heap.size w1 w2) := hB2
  have HVB : Hid (w1.heap.size ≤ B' ∧ ∀ g, (Value.slice aT r.length capT).ownBlock = some g → g < B') := ⟨hB', hvB⟩
  have HOY : Hid (∀ y ∈ r, OwnY w2 B' y.t.a y.t.len y.t.cap y.b) := hOY
  have HPW : Hid (r.Pairwise (fun x y => ∀ p q, x.t.a = some p → y.t.a = some q → p.block < q.block)) := hPW
  clear hTRW hTO hOT hTM hB2 hB' hvB hOY hPW g0
  have hs2 : w1.heap.size ≤ w2.heap.size := HB2.out.size
  have HBX : Hid (∀ w', (w2.alloc (.cells #[(Value.slice aT r.length capT), .slice none 0 0] 30)).grownBy w' none → w'.cell? ⟨w.heap.size, 0, none⟩ = some (.slice a n cap)) := fun w' hg => by
    rw [cell_grown hg (by simp; omega) (by simp)]
    exact ((bl_a _ : Below w2.heap.size w2 _).cell (p := ⟨w.heap.size, 0, none⟩) (by show w.heap.size < _; omega)).trans ((HB2.out.cell (p := ⟨w.heap.size, 0, none⟩) (by show w.heap.size < _; omega)).trans ((HB1.out.cell (p := ⟨w.heap.size, 0, none⟩) (by show w.heap.size < _; omega)).trans (by simp [go_sem])))
  have HSX : Hid (∀ w', (w2.alloc (.cells #[(Value.slice aT r.length capT), .slice none 0 0] 30)).grownBy w' none → w'.cell? ⟨w2.heap.size, 0, none⟩ = some (Value.slice aT r.length capT)) := fun w' hg => by
    rw [cell_grown hg (by simp) (by simp)]
    simp [go_sem]
  have HBW3 : Hid (Below w.heap.size w (w2.alloc (.cells #[(Value.slice aT r.length capT), .slice none 0 0] 30)).drew) := Below.drew ((HBw1.out.trans (HB2.out.mono HBw1.out.size)).trans ((bl_a _).mono (by omega)))
  have HGD3 : Hid (∀ y ∈ r, y.good) := fun y hy => by
    have := (HTM.out.mem y.td).1 (List.mem_map_of_mem (f := TB.td) hy)
    exact allT_good (fun z hz => (HGG.out z hz).1) _ this
  have HNB : Hid (Calls Tryz.prog 17 #[(Value.slice aT r.length capT)] (w2.alloc (.cells #[(Value.slice aT r.length capT), .slice none 0 0] 30)).drew (NumsRes (w2.alloc (.cells #[(Value.slice aT r.length capT), .slice none 0 0] 30)).drew (r.map TB.td))) := by
    have hb : Below w2.heap.size w2 (w2.alloc (.cells #[(Value.slice aT r.length capT), .slice none 0 0] 30)).drew := Below.drew (bl_a _)
    have := numbersOf_any aT capT r (w2.alloc (.cells #[(Value.slice aT r.length capT), .slice none 0 0] 30)).drew (by omega) (HTRW.out.below hb) (fun y hy => (HOY.out y hy).2.2.below hb) HGD3.out HTM.out.asc (HTab.out.below HBW3.out)
    exact this
  have HRC : Hid (∀ w4 (D : DataW Unit), Below (w2.alloc (.cells #[(Value.slice aT r.length capT), .slice none 0 0] 30)).drew.heap.size (w2.alloc (.cells #[(Value.slice aT r.length capT), .slice none 0 0] 30)).drew w4 → w4.ownsMap Tryz.prog 9 (plainElem Tryz.prog 3) (w2.alloc (.cells #[(Value.slice aT r.length capT), .slice none 0 0] 30)).drew.heap.size (r.map TB.td).length D → NumD D (r.map TB.td) → Calls Tryz.prog 16 #[.agg #[.slice a n cap], .map (some (w2.heap.size + 1))] w4 (RowsRes w4 (r.map TB.td) n T U V bt bu bv)) := fun w4 D hb hO hD => by
    have hb4 : Below w.heap.size w w4 := HBW3.out.trans (hb.mono HBW3.out.size)
    have e9 : (w2.alloc (.cells #[(Value.slice aT r.length capT), .slice none 0 0] 30)).drew.heap.size = w2.heap.size + 1 := by simp
    rw [e9] at hO
    exact rowsOf_any a n cap T U V bt bu bv _ _ D (r.map TB.td) w4 hn (HRW.out.below hb4) (fun y hy => ⟨(HGG.out y hy).1, (HGG.out y hy).2.below hb4⟩) (HTab.out.below hb4) hO hD
  go_wp2_with fail
  refine wp_region_held_drew (S := fun w' => (w2.alloc (.cells #[(Value.slice aT r.length capT), .slice none 0 0] 30)).grownBy w' none) (by kernel_rfl) ?_ (fun hHeld => ?_)
  · exact grown_drew _ _
  refine take_at (i := 0) 14 (v := ?v1) rfl rfl (by kernel_rfl) (by kernel_rfl) (by kernel_rfl) (fun _ _ _ h => h) (Or.inl ⟨by rfl, ?y1⟩) hHeld ?r1
  case y1 => (intro w' hSw; have hb := HBX.out w' hSw; go_simp; (try with_reducible rfl))
  try simp only [Act.put, List.setIfInBounds_toArray, List.set_cons_zero, List.set_cons_succ]
  refine take_at (i := 1) 15 (v := ?v2) rfl rfl (by kernel_rfl) (by kernel_rfl) (by kernel_rfl) (fun _ _ _ h => h) (Or.inl ⟨by rfl, ?y2⟩) hHeld ?r2
  case y2 => (intro w' hSw; skip; go_simp; (try with_reducible rfl))
  try simp only [Act.put, List.setIfInBounds_toArray, List.set_cons_zero, List.set_cons_succ]
  refine take_at (i := 2) 16 (v := ?v3) rfl rfl (by kernel_rfl) (by kernel_rfl) (by kernel_rfl) (fun _ _ _ h => h) (Or.inl ⟨by rfl, ?y3⟩) hHeld ?r3
  case y3 => (intro w' hSw; have hb := HSX.out w' hSw; go_simp; (try with_reducible rfl))
  try simp only [Act.put, List.setIfInBounds_toArray, List.set_cons_zero, List.set_cons_succ]
  refine wpAnyH_ready (rs := [3]) (by kernel_rfl) (by simp) ?_
  refine AllReadyH.cons rfl (fun K hK => ?_) AllReadyH.nil
  go_simp
  refine HNB.out.mono ?_
  rintro e w4 ⟨D, rfl, HMO, HND, HB4⟩
  have HMO : Hid _ := HMO
  have HND : Hid _ := HND
  have HB4 : Hid (Below (w2.alloc (.cells #[(Value.slice aT r.length capT), .slice none 0 0] 30)).drew.heap.size (w2.alloc (.cells #[(Value.slice aT r.length capT), .slice none 0 0] 30)).drew w4) := HB4
  go_wp2_with fail
  refine hK.out _ _ ?_ (fun hHeld => ?_)
  · exact (grown_drew _ _).trans (grown_of_below HB4.out)
  clear hK K
  try simp only [Act.put, List.setIfInBounds_toArray, List.set_cons_zero, List.set_cons_succ]
  have HRW := HRC.out w4 D HB4.out HMO.out HND.out
  refine wpAnyH_ready (rs := [4]) (by kernel_rfl) (by simp) ?_
  refine AllReadyH.cons rfl (fun K hK => ?_) AllReadyH.nil
  go_simp
  refine HRW.mono ?_
  rintro e w5 ⟨v5, rfl, HO5, HB5⟩
  have HO5 : Hid (OwnRR w5 w4.heap.size v5 _) := HO5
  have HB5 : Hid (Below w4.heap.size w4 w5) := HB5
  clear HRW
  go_wp2_with fail
  refine hK.out _ _ ?_ (fun hHeld => ?_)
  · exact (grown_drew _ _).trans ((grown_of_below HB4.out).trans (grown_of_below HB5.out))
  clear hK K
  try simp only [Act.put, List.setIfInBounds_toArray, List.set_cons_zero, List.set_cons_succ]
  refine take_at (i := 5) 5 (v := ?v4) rfl rfl (by kernel_rfl) (by kernel_rfl) (by kernel_rfl) (fun _ _ _ h => h) (Or.inl ⟨by rfl, ?y4⟩) hHeld ?r4
  case y4 => (intro w' hSw; skip; go_simp; (try with_reducible rfl))
  try simp only [Act.put, List.setIfInBounds_toArray, List.set_cons_zero, List.set_cons_succ]
  refine wpAnyH_done (by kernel_rfl) ?_ _
  obtain ⟨rows, hrows⟩ : ∃ rows, rows = gRows (r.map TB.td) T U V bt bu bv n := ⟨_, rfl⟩
  have HRO : Hid (rows = gRows (r.map TB.td) T U V bt bu bv n) := hrows
  have hrl2 : rows.length = n := by rw [hrows, gRows_len]
  rw [← hrows] at HO5
  obtain ⟨a5, cap5, rfl, hR5, _⟩ := HO5.out.form
  have HRL2 : Hid (rows.length = n) := hrl2
  rw [hrl2]
  clear hrl2
  have HA5 : Hid (∀ p, a5 = some p → w4.heap.size ≤ p.block) := by
    intro p hp
    subst hp
    rcases HO5.out.1.2 with ⟨h, _⟩ | ⟨g, c, cur, hv, hB, _⟩
    · cases h
    · cases hv
      exact hB
  have HR5 : Hid (RRow w5 a5 rows) := hR5
  have hs4 : w2.heap.size + 1 ≤ w4.heap.size := by have := HB4.out.size; simpa using this
  have hs5 : w4.heap.size ≤ w5.heap.size := HB5.out.size
  obtain ⟨B2, hB2⟩ : ∃ B2, B2 = w5.heap.size := ⟨_, rfl⟩
  have HBw5 : Hid (Below (w2.heap.size + 1) (w2.alloc (.cells #[(Value.slice aT r.length capT), .slice none 0 0] 30)).drew w5) := (show Below _ _ w4 by simpa using HB4.out).trans (HB5.out.mono (by omega))
  have HBg5 : Hid (Below w2.heap.size w2 w5) := (Below.drew (bl_a _)).trans (HBw5.out.mono (Nat.le_succ _))
  have t0 : w5.cell? ⟨w2.heap.size, 0, none⟩ = some (Value.slice aT r.length capT) := (HBw5.out.cell (p := ⟨w2.heap.size, 0, none⟩) (Nat.lt_succ_self _)).trans (by simp [go_sem])
  have t1 : w5.cell? ⟨w2.heap.size, 1, none⟩ = some (.slice none 0 0) := (HBw5.out.cell (p := ⟨w2.heap.size, 1, none⟩) (Nat.lt_succ_self _)).trans (by simp [go_sem])
  have t2 : w5.frozen? ⟨w2.heap.size, 1, none⟩ = false := (HBw5.out.frozen (p := ⟨w2.heap.size, 1, none⟩) (Nat.lt_succ_self _)).trans (by simp [go_sem])
  have HT5 : Hid (w5.cell? ⟨w2.heap.size, 0, none⟩ = some (Value.slice aT r.length capT) ∧ w5.cell? ⟨w2.heap.size, 1, none⟩ = some (.slice none 0 0) ∧ w5.frozen? ⟨w2.heap.size, 1, none⟩ = false) := ⟨t0, t1, t2⟩
  have HRES : Hid (∀ wr, Below w2.heap.size w5 wr → wr.cell? ⟨w.heap.size + 1, 0, none⟩ = some (.slice none 0 0) ∧ wr.cell? ⟨w.heap.size + 1, 1, none⟩ = some (.slice none 0 0) ∧ wr.frozen? ⟨w.heap.size + 1, 0, none⟩ = false ∧ wr.frozen? ⟨w.heap.size + 1, 1, none⟩ = false) := fun wr hb => by
    have hall : Below (w.heap.size + 1 + 1) ((w.alloc (.cells #[.slice a n cap] 25)).alloc (.cells #[.slice none 0 0, .slice none 0 0] 30)) wr := ((HB1.out.trans (HB2.out.mono (by omega))).trans (HBg5.out.mono (by omega))).trans (hb.mono (by omega))
    exact ⟨(hall.cell (p := ⟨w.heap.size + 1, 0, none⟩) (Nat.lt_succ_self _)).trans (by simp [go_sem]), (hall.cell (p := ⟨w.heap.size + 1, 1, none⟩) (Nat.lt_succ_self _)).trans (by simp [go_sem]), (hall.frozen (p := ⟨w.heap.size + 1, 0, none⟩) (Nat.lt_succ_self _)).trans (by simp [go_sem]), (hall.frozen (p := ⟨w.heap.size + 1, 1, none⟩) (Nat.lt_succ_self _)).trans (by simp [go_sem])⟩
  clear HNB HRC HBX HSX HMO HND hHeld hR5 hrows HO5 t0 t1 t2
  go_wp2
  go_loopw [19] (fun i wr => ∃ (k : Nat) (vR : Value) (vs : List Value), k ≤ 6 ∧ i = .int .i64 k ∧ Hid (wr.cell? ⟨w2.heap.size, 1, none⟩ = some vR ∧ wr.frozen? ⟨w2.heap.size, 1, none⟩ = false ∧ wr.cell? ⟨w2.heap.size, 0, none⟩ = some (Value.slice aT r.length capT)) ∧ Hid (Orders wr B2 vR rows k vs) ∧ Hid (Kept w2.heap.size none w5 wr ∧ Below w2.heap.size w5 wr))
    (fun i _ => 6 - (intOf i).toNat)
  case atStart => exact ⟨0, .slice none 0 0, [], Nat.zero_le _, rfl, ⟨HT5.out.2.1, HT5.out.2.2, HT5.out.1⟩, ⟨OwnV.nil _ _, rfl, fun i x hx => (by simp at hx), fun x hx => (by cases hx), List.Pairwise.nil⟩, Kept.refl _ _ _, Below.refl _ _⟩
  case round =>
    obtain ⟨k, vR, vs, hk, rfl, HS, HO, HK⟩ := hrel
    obtain ⟨s1, s2, s0⟩ := id HS.out
    have hsw : w5.heap.size ≤ wr.heap.size := HK.out.1.size
    by_cases hlk : k < 6
    · have hlkz : (k : Int) < 6 := by omega
      have hsbw : w2.heap.size < wr.heap.size := by omega
      have hvl6 : vs.length ≤ 6 := by have := HO.out.len; omega
      have hGl : ∀ g, vR.ownBlock = some g → B2 ≤ g ∧ g < wr.heap.size := fun g hg => HO.out.own.2 g hg
      have HRr : Hid (RRow wr a5 rows) := by
        rcases HR5.out with h | ⟨b5, off5, ha, hl, hc⟩
        · exact .inl h
        · refine .inr ⟨b5, off5, ha, by omega, fun j u hu => ?_⟩
          rw [HK.out.1.cell hl ?_ (by simp)]
          · exact hc j u hu
          · have h9 : w4.heap.size ≤ b5 := HA5.out _ ha
            show b5 ≠ w2.heap.size
            omega
      have HSR : Hid (∀ W, Below wr.heap.size wr W → Calls Tryz.prog 18 #[.int .i64 (k : Int), .slice a5 n cap5] W fun e w' => ∃ v' l', e = .returned v' ∧ l'.Perm rows ∧ l'.Pairwise (fun x y => rcmp k x y ≤ 0) ∧ OwnRR w' W.heap.size v' l' ∧ Below W.heap.size W w') := fun W hW => sorted_any k hlk a5 n cap5 rows W HRL2.out (by omega) (HRr.out.below hW)
      have FIN : Hid (∀ w7 v7 l7, l7.Perm rows → l7.Pairwise (fun x y => rcmp k x y ≤ 0) → OwnRR w7 wr.heap.size v7 l7 → Below wr.heap.size wr.drew w7 →
          (w7.alloc (.cells #[v7] 38)).ownsRow B2 38 1 vR vs.length vs ∧ (∀ j u, ([v7] : List Value)[j]? = some u → (w7.alloc (.cells #[v7] 38)).cell? ((⟨w7.heap.size, 0, none⟩ : Addr).add j) = some u) ∧ (∀ u ∈ ([v7] : List Value), u.oneCell' = true) ∧ B2 ≤ (w7.alloc (.cells #[v7] 38)).heap.size ∧
          ∀ g3 cap3 w9, w9.ownsRow B2 38 1 (.slice (some ⟨g3, 0, none⟩) (vs.length + 1) cap3) (vs.length + 1) (vs ++ [v7]) → (w7.alloc (.cells #[v7] 38)).grownBy w9 vR.ownBlock → (vR.ownBlock = some g3 ∨ g3 = (w7.alloc (.cells #[v7] 38)).heap.size) → g3 < w9.heap.size →
            w9.cell? ⟨w2.heap.size, 1, none⟩ = some vR ∧ w9.frozen? ⟨w2.heap.size, 1, none⟩ = false ∧ Hid (Hid ((w9.setCell ⟨w2.heap.size, 1, none⟩ (.slice (some ⟨g3, 0, none⟩) (vs.length + 1) cap3)).cell? ⟨w2.heap.size, 1, none⟩ = some (.slice (some ⟨g3, 0, none⟩) (vs.length + 1) cap3) ∧ (w9.setCell ⟨w2.heap.size, 1, none⟩ (.slice (some ⟨g3, 0, none⟩) (vs.length + 1) cap3)).frozen? ⟨w2.heap.size, 1, none⟩ = false ∧ (w9.setCell ⟨w2.heap.size, 1, none⟩ (.slice (some ⟨g3, 0, none⟩) (vs.length + 1) cap3)).cell? ⟨w2.heap.size, 0, none⟩ = some (Value.slice aT r.length capT)) ∧ Hid (Orders (w9.setCell ⟨w2.heap.size, 1, none⟩ (.slice (some ⟨g3, 0, none⟩) (vs.length + 1) cap3)) B2 (.slice (some ⟨g3, 0, none⟩) (vs.length + 1) cap3) rows (k + 1) (vs ++ [v7])) ∧ Hid (Kept w2.heap.size none w5 (w9.setCell ⟨w2.heap.size, 1, none⟩ (.slice (some ⟨g3, 0, none⟩) (vs.length + 1) cap3)) ∧ Below w2.heap.size w5 (w9.setCell ⟨w2.heap.size, 1, none⟩ (.slice (some ⟨g3, 0, none⟩) (vs.length + 1) cap3))))) := by
        intro w7 v7 l7 hp7 hs7 ho7 hb7
        have hone : v7.oneCell' = true := by
          obtain ⟨a7, c7, rfl, _⟩ := ho7.form
          rfl
        have hb8 : Below wr.heap.size wr (w7.alloc (.cells #[v7] 38)) := bl_alloc ((Below.drew (Below.refl _ _)).trans hb7) _
        have hs7' : wr.heap.size ≤ w7.heap.size := hb7.size
        have HOd : Orders wr.drew B2 vR rows k vs := HO.out.grown (grown_drew _ none) (fun g hg => by cases hg)
        refine ⟨?_, one_value w7 v7, fun u hu => ?_, by simp; omega, ?_⟩
        · exact (HO.out.own.grown (grown_of_below (row := none) hb8) (fun g _ => by simp) : OwnV (w7.alloc (.cells #[v7] 38)) B2 vR vs).1
        · simp only [List.mem_cons, List.not_mem_nil, or_false] at hu
          rw [hu]
          exact hone
        · intro g3 cap3 w9 hown hgr hat hlt9
          have hk9 : Kept w2.heap.size vR.ownBlock wr w9 := (((Kept.drew0 _ _ _).below hb7).alloc _).grown hgr
          have z : ∀ o, w9.cell? ⟨w2.heap.size, o, none⟩ = wr.cell? ⟨w2.heap.size, o, none⟩ := fun o => (hgr.cell_far ⟨w2.heap.size, o, none⟩ (by simp; omega) (fun e => by have := hGl w2.heap.size e.symm; omega)).trans (hb8.cell (p := ⟨w2.heap.size, o, none⟩) hsbw)
          have z1 : w9.frozen? ⟨w2.heap.size, 1, none⟩ = false := (hgr.frozen_far ⟨w2.heap.size, 1, none⟩ (by simp; omega) (fun e => by have := hGl w2.heap.size e.symm; omega)).trans ((hb8.frozen (p := ⟨w2.heap.size, 1, none⟩) hsbw).trans s2)
          have hor : Orders w9 B2 (.slice (some ⟨g3, 0, none⟩) (vs.length + 1) cap3) rows (k + 1) (vs ++ [v7]) := HOd.more ho7 hp7 hs7 hb7 (bl_a _) (by show B2 ≤ wr.heap.size; omega) hgr hown hat hlt9
          have hgs : w9.grownBy (w9.setCell ⟨w2.heap.size, 1, none⟩ (.slice (some ⟨g3, 0, none⟩) (vs.length + 1) cap3)) (some w2.heap.size) := grown_set _ _ _ _
          refine ⟨(z 1).trans s1, z1, ⟨set_same ((z 1).trans s1), by rw [World.frozen?_setCell]; exact z1, ?_⟩, hor.grown hgs (fun g hg => by cases hg; omega), ?_, ?_⟩
          · rw [set_other (by omega)]
            exact (z 0).trans s0
          · exact HK.out.1.none_of (hk9.set 1 _) (fun g hg => by have := hGl g hg; omega)
          · have h9 : Below w2.heap.size w5 w9 := (HK.out.2.trans (hb8.mono (by omega))).grown hgr (by simp; omega) (fun j hj => by have := hGl j hj; omega)
            exact h9.setCell (p := ⟨w2.heap.size, 1, none⟩) (Nat.le_refl _) _
      clear HK HO
      go_wp2_with fail
      refine wp_region_held_drew (S := (fun w' => Kept w2.heap.size vR.ownBlock wr w')) (by kernel_rfl) ?_ (fun hHeld => ?_)
      · exact Kept.drew0 _ _ _
      refine take_at (i := 0) 22 (v := ?v5) rfl rfl (by kernel_rfl) (by kernel_rfl) (by kernel_rfl) (fun _ _ _ h => h) (Or.inl ⟨by rfl, ?y5⟩) hHeld ?r5
      case y5 => (intro w' hSw; skip; go_simp; (try with_reducible rfl))
      try simp only [Act.put, List.setIfInBounds_toArray, List.set_cons_zero, List.set_cons_succ]
      refine take_at (i := 2) 24 (v := ?v6) rfl rfl (by kernel_rfl) (by kernel_rfl) (by kernel_rfl) (fun _ _ _ h => h) (Or.inl ⟨by rfl, ?y6⟩) hHeld ?r6
      case y6 => (intro w' hSw; skip; go_simp; (try with_reducible rfl))
      try simp only [Act.put, List.setIfInBounds_toArray, List.set_cons_zero, List.set_cons_succ]
      refine take_at (i := 3) 25 (v := ?v7) rfl rfl (by kernel_rfl) (by kernel_rfl) (by kernel_rfl) (fun _ _ _ h => h) (Or.inl ⟨by rfl, ?y7⟩) hHeld ?r7
      case y7 => (intro w' hSw; skip; go_simp; (try with_reducible rfl))
      try simp only [Act.put, List.setIfInBounds_toArray, List.set_cons_zero, List.set_cons_succ]
      refine wpAnyH_ready (rs := [1, 4]) (by kernel_rfl) (by simp) ?_
      refine AllReadyH.cons rfl (fun K hK => ?_) (AllReadyH.cons rfl (fun K hK => ?_) AllReadyH.nil)
      · go_simp
        refine hK.out _ _ ?_ (fun hHeld => ?_)
        · exact Kept.drew0 _ _ _
        clear hK K
        try simp only [Act.put, List.setIfInBounds_toArray, List.set_cons_zero, List.set_cons_succ]
        refine wpAnyH_ready (rs := [4]) (by kernel_rfl) (by simp) ?_
        refine AllReadyH.cons rfl (fun K hK => ?_) AllReadyH.nil
        go_simp
        refine (HSR.out _ (Below.drew (Below.refl _ _))).mono ?_
        rintro e w7 ⟨v70, l7, rfl, hp7, hs7, ho7, hb7⟩
        obtain ⟨a7, c7, rfl, _⟩ := ho7.form
        have HP7 : Hid (l7.Perm rows) := hp7
        have HS7 : Hid (l7.Pairwise (fun x y => rcmp k x y ≤ 0)) := hs7
        have HO7 : Hid (OwnRR w7 wr.heap.size (.slice a7 l7.length c7) l7) := ho7
        have HB7 : Hid (Below wr.heap.size wr.drew w7) := hb7
        have q0 : w7.cell? ⟨w2.heap.size, 1, none⟩ = some vR := (HB7.out.cell (p := ⟨w2.heap.size, 1, none⟩) hsbw).trans s1
        have q1 : ∀ o, (w7.alloc o).cell? ⟨w2.heap.size, 1, none⟩ = some vR := fun o => ((bl_a o).cell (p := ⟨w2.heap.size, 1, none⟩) (Nat.lt_of_lt_of_le hsbw HB7.out.size)).trans q0
        clear hp7 hs7 ho7 hb7
        go_wp2_with fail
        refine hK.out _ _ ?_ (fun hHeld => ?_)
        · exact (Kept.drew0 _ _ _).below HB7.out
        clear hK K
        try simp only [Act.put, List.setIfInBounds_toArray, List.set_cons_zero, List.set_cons_succ]
        refine wpAnyH_ready (rs := [5]) (by kernel_rfl) (by simp) ?_
        refine AllReadyH.cons rfl (fun K hK => ?_) AllReadyH.nil
        go_simp
        refine hK.out _ _ ?_ (fun hHeld => ?_)
        · exact ((Kept.drew0 _ _ _).below HB7.out).alloc _
        clear hK K
        try simp only [Act.put, List.setIfInBounds_toArray, List.set_cons_zero, List.set_cons_succ]
        have HF := FIN.out w7 (.slice a7 l7.length c7) l7 HP7.out HS7.out HO7.out HB7.out
        refine wpAnyH_ready (rs := [6]) (by kernel_rfl) (by simp) ?_
        refine AllReadyH.cons rfl (fun K hK => ?_) AllReadyH.nil
        refine step_append_lies _ rfl (.tmp 23) (.tmp 27) 28 rfl B2 38 i0 (.slice none 0 0) 1 24 Tryz.underlying28 hi0 hi2 hi1 hi3 rfl (by omega) vR vs.length vs rfl HF.1 ⟨w7.heap.size, 0, none⟩ 1 1 [.slice a7 l7.length c7] rfl rfl HF.2.1 HF.2.2.1 (by omega) (by unfold maxLen; omega) (by omega) HF.2.2.2.1 _ rfl ?_
        intro g3 cap3 w9 hown hgr hat hlt9
        refine hK.out _ _ ?_ (fun hHeld => ?_)
        · exact (((Kept.drew0 _ _ _).below HB7.out).alloc _).grown hgr
        clear hK K
        try simp only [Act.put, List.setIfInBounds_toArray]
        refine take_at (i := 7) 29 (v := ?v8) rfl rfl (by kernel_rfl) (by kernel_rfl) (by kernel_rfl) (fun _ _ _ h => h) (Or.inl ⟨by rfl, ?y8⟩) hHeld ?r8
        case y8 => (intro w' hSw; skip; go_simp; (try with_reducible rfl))
        try simp only [Act.put]
        obtain ⟨z0, z1, HFIN⟩ := HF.2.2.2.2 g3 cap3 w9 hown hgr hat hlt9
        refine wpAnyH_ready (rs := [8]) (by kernel_rfl) (by simp) ?_
        refine AllReadyH.cons rfl (fun K hK => ?_) AllReadyH.nil
        go_simp
        refine hK.out _ _ ?_ (fun hHeld => ?_)
        · exact ((((Kept.drew0 _ _ _).below HB7.out).alloc _).grown hgr).set _ _
        clear hK K
        refine wpAnyH_done (by kernel_rfl) ?_ _
        clear hown hgr hat hHeld z0 z1 HF
        go_wp2
        go_roundw
        case rel => exact ⟨k + 1, .slice (some ⟨g3, 0, none⟩) (vs.length + 1) cap3, vs ++ [.slice a7 l7.length c7], by omega, by go_num, HFIN.out.1, HFIN.out.2.1, HFIN.out.2.2⟩
        case measure => simp [intOf]; omega
      · go_simp
        refine (HSR.out _ (Below.drew (Below.refl _ _))).mono ?_
        rintro e w7 ⟨v70, l7, rfl, hp7, hs7, ho7, hb7⟩
        obtain ⟨a7, c7, rfl, _⟩ := ho7.form
        have HP7 : Hid (l7.Perm rows) := hp7
        have HS7 : Hid (l7.Pairwise (fun x y => rcmp k x y ≤ 0)) := hs7
        have HO7 : Hid (OwnRR w7 wr.heap.size (.slice a7 l7.length c7) l7) := ho7
        have HB7 : Hid (Below wr.heap.size wr.drew w7) := hb7
        have q0 : w7.cell? ⟨w2.heap.size, 1, none⟩ = some vR := (HB7.out.cell (p := ⟨w2.heap.size, 1, none⟩) hsbw).trans s1
        have q1 : ∀ o, (w7.alloc o).cell? ⟨w2.heap.size, 1, none⟩ = some vR := fun o => ((bl_a o).cell (p := ⟨w2.heap.size, 1, none⟩) (Nat.lt_of_lt_of_le hsbw HB7.out.size)).trans q0
        clear hp7 hs7 ho7 hb7
        go_wp2_with fail
        refine hK.out _ _ ?_ (fun hHeld => ?_)
        · exact (Kept.drew0 _ _ _).below HB7.out
        clear hK K
        try simp only [Act.put, List.setIfInBounds_toArray, List.set_cons_zero, List.set_cons_succ]
        refine wpAnyH_ready (rs := [1, 5]) (by kernel_rfl) (by simp) ?_
        refine AllReadyH.cons rfl (fun K hK => ?_) (AllReadyH.cons rfl (fun K hK => ?_) AllReadyH.nil)
        · go_simp
          refine hK.out _ _ ?_ (fun hHeld => ?_)
          · exact (Kept.drew0 _ _ _).below HB7.out
          clear hK K
          try simp only [Act.put, List.setIfInBounds_toArray, List.set_cons_zero, List.set_cons_succ]
          refine wpAnyH_ready (rs := [5]) (by kernel_rfl) (by simp) ?_
          refine AllReadyH.cons rfl (fun K hK => ?_) AllReadyH.nil
          go_simp
          refine hK.out _ _ ?_ (fun hHeld => ?_)
          · exact ((Kept.drew0 _ _ _).below HB7.out).alloc _
          clear hK K
          try simp only [Act.put, List.setIfInBounds_toArray, List.set_cons_zero, List.set_cons_succ]
          have HF := FIN.out w7 (.slice a7 l7.length c7) l7 HP7.out HS7.out HO7.out HB7.out
          refine wpAnyH_ready (rs := [6]) (by kernel_rfl) (by simp) ?_
          refine AllReadyH.cons rfl (fun K hK => ?_) AllReadyH.nil
          refine step_append_lies _ rfl (.tmp 23) (.tmp 27) 28 rfl B2 38 i0 (.slice none 0 0) 1 24 Tryz.underlying28 hi0 hi2 hi1 hi3 rfl (by omega) vR vs.length vs rfl HF.1 ⟨w7.heap.size, 0, none⟩ 1 1 [.slice a7 l7.length c7] rfl rfl HF.2.1 HF.2.2.1 (by omega) (by unfold maxLen; omega) (by omega) HF.2.2.2.1 _ rfl ?_
          intro g3 cap3 w9 hown hgr hat hlt9
          refine hK.out _ _ ?_ (fun hHeld => ?_)
          · exact (((Kept.drew0 _ _ _).below HB7.out).alloc _).grown hgr
          clear hK K
          try simp only [Act.put, List.setIfInBounds_toArray]
          refine take_at (i := 7) 29 (v := ?v9) rfl rfl (by kernel_rfl) (by kernel_rfl) (by kernel_rfl) (fun _ _ _ h => h) (Or.inl ⟨by rfl, ?y9⟩) hHeld ?r9
          case y9 => (intro w' hSw; skip; go_simp; (try with_reducible rfl))
          try simp only [Act.put]
          obtain ⟨z0, z1, HFIN⟩ := HF.2.2.2.2 g3 cap3 w9 hown hgr hat hlt9
          refine wpAnyH_ready (rs := [8]) (by kernel_rfl) (by simp) ?_
          refine AllReadyH.cons rfl (fun K hK => ?_) AllReadyH.nil
          go_simp
          refine hK.out _ _ ?_ (fun hHeld => ?_)
          · exact ((((Kept.drew0 _ _ _).below HB7.out).alloc _).grown hgr).set _ _
          clear hK K
          refine wpAnyH_done (by kernel_rfl) ?_ _
          clear hown hgr hat hHeld z0 z1 HF
          go_wp2
          go_roundw
          case rel => exact ⟨k + 1, .slice (some ⟨g3, 0, none⟩) (vs.length + 1) cap3, vs ++ [.slice a7 l7.length c7], by omega, by go_num, HFIN.out.1, HFIN.out.2.1, HFIN.out.2.2⟩
          case measure => simp [intOf]; omega
        · go_simp
          refine hK.out _ _ ?_ (fun hHeld => ?_)
          · exact ((Kept.drew0 _ _ _).below HB7.out).alloc _
          clear hK K
          try simp only [Act.put, List.setIfInBounds_toArray, List.set_cons_zero, List.set_cons_succ]
          refine wpAnyH_ready (rs := [1]) (by kernel_rfl) (by simp) ?_
          refine AllReadyH.cons rfl (fun K hK => ?_) AllReadyH.nil
          go_simp
          refine hK.out _ _ ?_ (fun hHeld => ?_)
          · exact ((Kept.drew0 _ _ _).below HB7.out).alloc _
          clear hK K
          try simp only [Act.put, List.setIfInBounds_toArray, List.set_cons_zero, List.set_cons_succ]
          have HF := FIN.out w7 (.slice a7 l7.length c7) l7 HP7.out HS7.out HO7.out HB7.out
          refine wpAnyH_ready (rs := [6]) (by kernel_rfl) (by simp) ?_
          refine AllReadyH.cons rfl (fun K hK => ?_) AllReadyH.nil
          refine step_append_lies _ rfl (.tmp 23) (.tmp 27) 28 rfl B2 38 i0 (.slice none 0 0) 1 24 Tryz.underlying28 hi0 hi2 hi1 hi3 rfl (by omega) vR vs.length vs rfl HF.1 ⟨w7.heap.size, 0, none⟩ 1 1 [.slice a7 l7.length c7] rfl rfl HF.2.1 HF.2.2.1 (by omega) (by unfold maxLen; omega) (by omega) HF.2.2.2.1 _ rfl ?_
          intro g3 cap3 w9 hown hgr hat hlt9
          refine hK.out _ _ ?_ (fun hHeld => ?_)
          · exact (((Kept.drew0 _ _ _).below HB7.out).alloc _).grown hgr
          clear hK K
          try simp only [Act.put, List.setIfInBounds_toArray]
          refine take_at (i := 7) 29 (v := ?v10) rfl rfl (by kernel_rfl) (by kernel_rfl) (by kernel_rfl) (fun _ _ _ h => h) (Or.inl ⟨by rfl, ?y10⟩) hHeld ?r10
          case y10 => (intro w' hSw; skip; go_simp; (try with_reducible rfl))
          try simp only [Act.put]
          obtain ⟨z0, z1, HFIN⟩ := HF.2.2.2.2 g3 cap3 w9 hown hgr hat hlt9
          refine wpAnyH_ready (rs := [8]) (by kernel_rfl) (by simp) ?_
          refine AllReadyH.cons rfl (fun K hK => ?_) AllReadyH.nil
          go_simp
          refine hK.out _ _ ?_ (fun hHeld => ?_)
          · exact ((((Kept.drew0 _ _ _).below HB7.out).alloc _).grown hgr).set _ _
          clear hK K
          refine wpAnyH_done (by kernel_rfl) ?_ _
          clear hown hgr hat hHeld z0 z1 HF
          go_wp2
          go_roundw
          case rel => exact ⟨k + 1, .slice (some ⟨g3, 0, none⟩) (vs.length + 1) cap3, vs ++ [.slice a7 l7.length c7], by omega, by go_num, HFIN.out.1, HFIN.out.2.1, HFIN.out.2.2⟩
          case measure => simp [intOf]; omega
    · obtain rfl : k = 6 := by omega
      obtain ⟨aR, cR, rfl⟩ : ∃ aR cR, vR = .slice aR vs.length cR := by
        rcases HO.out.own.1.2 with ⟨h, h0⟩ | ⟨g, c, cur, hv, _⟩
        · exact ⟨none, 0, by rw [h, h0]⟩
        · exact ⟨_, c, hv⟩
      obtain ⟨e0, e1, e2, e3⟩ := HRES.out wr HK.out.2
      have HSZ : Hid (w.heap.size + 1 < wr.heap.size) := (show w.heap.size + 1 < wr.heap.size by omega)
      go_wp2
      refine bodyPost_ret (v := .tuple #[.agg #[(Value.slice aT r.length capT), (Value.slice aR vs.length cR)], .bool true]) (by simp [results, Tryz.results5, go_sem, *]) rfl ?_
      have hb0 : Below w2.heap.size w2 wr := HBg5.out.trans HK.out.2
      have hbut : But (w.heap.size + 1) wr ((wr.setCell ⟨w.heap.size + 1, 0, none⟩ (Value.slice aT r.length capT)).setCell ⟨w.heap.size + 1, 1, none⟩ (Value.slice aR vs.length cR)) := ((But.refl _ _).set _ _).set _ _
      have hT1 : OwnTR wr w1.heap.size (Value.slice aT r.length capT) r := HOT.out.below hb0
      have hgs := (grown_set wr (w.heap.size + 1) 0 (Value.slice aT r.length capT)).trans (grown_set (wr.setCell ⟨w.heap.size + 1, 0, none⟩ (Value.slice aT r.length capT)) (w.heap.size + 1) 1 (Value.slice aR vs.length cR))
      refine ⟨(Value.slice aT r.length capT), (Value.slice aR vs.length cR), r, vs, B', B2, rfl, (hT1.but hbut (by omega)).base (by omega), HTM.out, hrl, ?_, fun y hy => ?_, HPW.out, HVB.out.2, fun y hy p hp => ?_, ?_, ?_, ?_⟩
      · exact (((HBw1.out.trans (HB2.out.mono (by omega))).trans (hb0.mono (by omega)))).trans (hbut.below (by omega))
      · refine (HOY.out y hy).upper (fun b hb hb2 => ?_) ?_
        · have := HVB.out.1
          rw [hbut.block b (by omega)]
          exact hb0.block b hb2
        · rw [hbut.size]
          exact hb0.size
      · have := ((HOY.out y hy).2.1 p hp).2
        omega
      · have := HVB.out.1
        exact ⟨by omega, by omega⟩
      · intro g hg
        have := (HOT.out.2 g hg).2
        omega
      · rw [← HRO.out]
        exact HO.out.grown hgs (fun g hg => by cases hg; omega)
end Go.Proofs.YtobnpfcgcoooeaaGreatDoor
