/- Texts put together: StpG -/
import Derived.Test.YtdcaicoomldmgaaGreatDoorMk32
import Derived.Maps.Own
import Derived.Maps.OwnOps
import Derived.Maps.Views
/- StpG -/
namespace Go.Proofs.YtdcaicoomldmgaaGreatDoor
open Go.RowKit Go.Deep Go.Maps
set_option maxRecDepth 100000

theorem keyed_str : Keyed Tryz.prog 9 := string_keyed Tryz.underlying9
theorem zero_int (w : World) : (zeroValue 3).run Tryz.prog w = .ok (.int .i64 0) w := by kernel_rfl
/-- The key of a term. -/
def TD.key (x : TD) : Lit := .string (strOfNums x.shown).data.toList
theorem TD.shown_byt {x : TD} (hx : x.good) : Byt x.shown := shownL_byt hx.2
theorem TD.key_inj {x y : TD} (hx : x.good) (hy : y.good) (h : x.key = y.key) : x = y := by
  unfold TD.key at h
  injection h with h
  refine TD.shown_inj hx hy ?_
  rw [← numsOf_nums (TD.shown_byt hx), ← numsOf_nums (TD.shown_byt hy)]
  unfold numsOf
  rw [h]
theorem strOf_len {bs : List Int} (h : Byt bs) : (strOfNums bs).size = bs.length := by
  rw [← numsOf_len, numsOf_nums h]
theorem TD.keyOf {x : TD} (hx : x.good) : keyOf Tryz.prog 9 (.string (strOfNums x.shown)) = some x.key := by
  refine WideMaps.keyOf_string_mk Tryz.underlying9 ?_
  rw [strOf_len (TD.shown_byt hx)]
  have := shownL_len x.k x.n x.s x.bs
  unfold TD.shown maxLen
  omega

/-- A map that has the numbers of these terms. -/
structure NumD (D : DataW Unit) (l : List TD) : Prop where
  map : IsMap D
  num : ∀ t : TD, t.good → D.atKey t.key (.lit (.int .i64 0)) = .lit (.int .i64 (idOf l t : Nat))
theorem NumD.nil : NumD (.map []) [] := ⟨isMap_empty, fun t _ => by
  rw [WideAt.atKey_none _ (fun p hp => by cases hp)]
  rfl⟩
theorem NumD.step {D : DataW Unit} {l : List TD} {x : TD} (h : NumD D l) (hx : x.good) (hl : ∀ y ∈ l, y.cmp x < 0) : NumD (D.put x.key (.lit (.int .i64 ((l.length : Int) + 1)))) (l ++ [x]) := by
  refine ⟨h.map.put _ _, fun t ht => ?_⟩
  by_cases e : t = x
  · subst e
    rw [atKey_put_same h.map (show WideAt.IsKeyLit t.key from trivial)]
    have : idOf (l ++ [t]) t = l.length + 1 := by
      refine idOf_at (by simp) (fun j hj => ?_) ?_
      · rw [List.getElem_append_left hj]
        have := hl _ (List.getElem_mem hj)
        omega
      · rw [List.getElem_append_right (Nat.le_refl _)]
        simpa using ord_cmp.self t
    rw [this]
    push_cast
    rfl
  · rw [atKey_put_other (fun hk => e (TD.key_inj ht hx hk)), h.num t ht]
    have hne : ¬ x.cmp t = 0 := fun h0 => e (ordP_cmp.2 x t hx ht h0).symm
    have : idOf (l ++ [x]) t = idOf l t := by
      unfold idOf
      rw [List.findIdx?_append]
      simp [List.findIdx?_cons, hne]
    rw [this]
theorem ownsMap_block {w w' : World} {P : Program} {k : TypeId} {R : Value → Option (DataW Unit × List MemPlace)} {b n : Nat} {D : DataW Unit} (h : w.ownsMap P k R b n D) (e : w'.heap[b]? = w.heap[b]?) : w'.ownsMap P k R b n D := by
  obtain ⟨es, clock, hb, r⟩ := h
  exact ⟨es, clock, e.trans hb, r⟩

theorem implShow_tb (x : TB) (w : World) (hx : x.good) (h : Bs w x.t.a x.t.len x.b) (ht : Tab w) :
    Calls Tryz.prog 59 #[.agg #[.int .i64 x.t.k, .slice x.t.a x.t.len x.t.cap, .int .i64 x.t.n, .int .i64 x.t.s]] w fun e w' => TxRes w x.td.shown e w' := by
  obtain ⟨a1, a2, a3, a4⟩ := fits_of_ok hx.1
  exact implShow_any x.t.k x.t.n x.t.s x.t.a x.t.len x.t.cap x.b w h a1 a2 a3 a4 ht

/-- What numbersOf answers. -/
def NumsRes (w : World) (l : List TD) (e : Ending) (w' : World) : Prop :=
  ∃ D, e = .returned (.map (some w.heap.size)) ∧ w'.ownsMap Tryz.prog 9 (plainElem Tryz.prog 3) w.heap.size l.length D ∧ NumD D l ∧ Below w.heap.size w w'

set_option maxHeartbeats 4000000 in
theorem numbersOf_any (a : Option Addr) (cap : Nat) (r : List TB) (w : World) (hn : r.length ≤ 1048576) (hR : TRow w a r) (hT : TTxt w r) (hg : ∀ y ∈ r, y.good) (hs : (r.map TB.td).Pairwise (fun x y => x.cmp y < 0)) (ht : Tab w) :
    Calls Tryz.prog 40 #[.slice a r.length cap] w (NumsRes w (r.map TB.td)) := by
  have hmm := @run_makeMap Tryz.prog
  by_cases h0 : r = []
  · subst h0
    go_enter Tryz.func40, Tryz.ntmps40
    go_wp2
    refine wp_loop_rounds 1 ?_
    rw [rounds_succ]
    go_wp2
    go_ret
    exact ⟨.map [], rfl, World.ownsMap_made _ _ _ _, NumD.nil, bl_a _⟩
  · obtain ⟨b, off, rfl, hlt, hc⟩ := hR.resolve_left h0
    have HC : Hid (∀ j u, (flat4 r)[j]? = some u → w.cell? ⟨b, off + j, none⟩ = some u) := hc
    have HT : Hid (TTxt w r) := hT
    have HG : Hid (∀ y ∈ r, y.good) := hg
    have HS : Hid ((r.map TB.td).Pairwise (fun x y => x.cmp y < 0)) := hs
    have HTab : Hid (Tab w) := ht
    obtain ⟨n, hn'⟩ : ∃ n, n = r.length := ⟨_, rfl⟩
    have HN : Hid (n = r.length) := hn'
    rw [← hn'] at hn ⊢
    clear hR hc hT hg hs ht h0 hn'
    go_enter Tryz.func40, Tryz.ntmps40
    go_wp2
    go_loopw [9] (fun v9 wr => ∃ (k : Nat) (D : DataW Unit), k ≤ n ∧ v9 = .int .i64 k ∧ Hid (wr.ownsMap Tryz.prog 9 (plainElem Tryz.prog 3) w.heap.size k D) ∧ Hid (NumD D ((r.map TB.td).take k)) ∧ Hid (Below w.heap.size w wr))
      (fun v9 _ => n - (intOf v9).toNat)
    case atStart => exact ⟨0, .map [], Nat.zero_le _, rfl, World.ownsMap_made _ _ _ _, NumD.nil, bl_a _⟩
    case round =>
      obtain ⟨k, D, hk, rfl, HO, HD, HB⟩ := hrel
      have hBw : w.heap.size < wr.heap.size := HO.out.lt
      by_cases hlk : k < n
      · have hlkz : (k : Int) < (n : Int) := by omega
        have hkr : k < r.length := by rw [← HN.out]; exact hlk
        obtain ⟨x, hx⟩ : ∃ x, r[k] = x := ⟨_, rfl⟩
        have HX : Hid (r[k]? = some x) := (show r[k]? = some x by rw [List.getElem?_eq_getElem hkr, hx])
        have hat := TRow.at (w := wr) (b := b) (off := off) (l := r) (fun j u hu => (HB.out.cell (p := ⟨b, off + j, none⟩) hlt).trans (HC.out j u hu)) k hkr
        rw [hx] at hat
        obtain ⟨x0, x1, x2, x3⟩ := hat
        have hxm : x ∈ r := List.mem_of_getElem? HX.out
        have HXG : Hid x.good := HG.out x hxm
        have HSH := fun o => implShow_tb x (wr.alloc o) HXG.out ((HT.out x hxm).below (HB.out.trans ((bl_a o).mono (Nat.le_of_lt hBw)))) (HTab.out.below (HB.out.trans ((bl_a o).mono (Nat.le_of_lt hBw))))
        clear hx hxm
        go_wp2_with fail
        refine (HSH _).mono ?_
        rintro e w2 ⟨a2, cap2, rfl, HNw, HB2⟩
        clear HSH
        have hst := HNw.bs.str (cap := cap2)
        have HB2 : Hid (Below (wr.heap.size + 1) (wr.alloc (.cells #[.int .i64 x.t.k, .slice x.t.a x.t.len x.t.cap, .int .i64 x.t.n, .int .i64 x.t.s] 52)) w2) := (show Below _ _ _ by simpa using HB2)
        have HO2 : Hid (w2.ownsMap Tryz.prog 9 (plainElem Tryz.prog 3) w.heap.size k D) := ownsMap_block HO.out ((HB2.out.block _ (by omega)).trans (Below.heap_alloc _ _ _ hBw))
        have HBw2 : Hid (Below w.heap.size w w2) := HB.out.trans (((bl_a _).trans (HB2.out.mono (Nat.le_succ _))).mono (Nat.le_of_lt hBw))
        clear HNw x0 x1 x2 x3
        have hx4 : w2.cell? ⟨wr.heap.size, 0, none⟩ = some (.int .i64 x.t.k) := (HB2.out.cell (p := ⟨wr.heap.size, 0, none⟩) (Nat.lt_succ_self _)).trans (by simp [go_sem])
        have hsz2 : w.heap.size ≤ w2.heap.size := HBw2.out.size
        have HWF : (Lit.int .i64 ((k : Int) + 1)).wf = true := WalkArith.wf_i64 ⟨by omega, by omega⟩
        go_wp2_with (first | (at_mapUpdate; refine wpList_mapUpdate_own _ rfl _ _ _ 73 rfl 9 3 keyed_str Tryz.underlying73 _ w.heap.size k D rfl HO2.out (by unfold maxLen; omega) _ _ _ rfl rfl (TD.keyOf HXG.out) _ [] (plainElem_int Tryz.underlying3 HWF) ?_; intro w3 HO3 HG3))
        have HO3 : Hid (w3.ownsMap Tryz.prog 9 (plainElem Tryz.prog 3) w.heap.size (k + 1) (D.put x.td.key (.lit (.int .i64 ((k : Int) + 1))))) := HO3
        have HB3 : Hid (Below w.heap.size w w3) := HBw2.out.grown HG3 hsz2 (fun j hj => by cases hj; exact Nat.le_refl _)
        clear HG3
        go_wp2
        go_roundw
        case rel =>
          refine ⟨k + 1, _, by omega, by go_num, HO3, (show NumD _ _ from ?_), HB3⟩
          have hlen : ((r.map TB.td).take k).length = k := by rw [List.length_take, List.length_map]; omega
          have hst := HD.out.step (x := x.td) HXG.out (fun y hy => ?_)
          · rw [hlen] at hst
            rw [List.take_add_one, List.getElem?_map, HX.out]
            exact hst
          · obtain ⟨i, hi, rfl⟩ := List.mem_iff_getElem.1 hy
            rw [List.length_take] at hi
            have hi2 : i < (r.map TB.td).length := by omega
            have hk2 : k < (r.map TB.td).length := by rw [List.length_map]; exact hkr
            have := List.pairwise_iff_getElem.1 HS.out i k hi2 hk2 (by omega)
            have e : (r.map TB.td)[k] = x.td := by
              have h1 : (r.map TB.td)[k]? = some x.td := by rw [List.getElem?_map, HX.out]; rfl
              exact (List.getElem?_eq_some_iff.1 h1).2
            rw [e] at this
            rw [List.getElem_take]
            exact this
        case measure => simp [intOf]; omega
      · have hlkz : ¬ (k : Int) < (n : Int) := by omega
        have hkn : Hid (k = n) := (show k = n by omega)
        go_wp2
        go_ret
        have h1 := HD.out
        rw [hkn.out, HN.out, List.take_of_length_le (by simp)] at h1
        have h2 := HO.out
        rw [hkn.out, HN.out] at h2
        exact ⟨D, rfl, by rw [List.length_map]; exact h2, h1, HB.out⟩
end Go.Proofs.YtdcaicoomldmgaaGreatDoor
