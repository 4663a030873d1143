/- Texts put together: StsN StpA StpB -/
import Derived.Test.YtobnpfcgcoooeaaGreatDoorMk30
import Derived.Test.YtobnpfcgcoooeaaGreatDoorMk10
import Derived.Test.YtobnpfcgcoooeaaGreatDoorMk07
import Derived.Lib.SliceRun
import Derived.Laws.CopyRow
/- StsN -/
namespace Go.Proofs.YtobnpfcgcoooeaaGreatDoor
open Go.RowKit Go.Deep Go.Sort Go.Lib
set_option maxRecDepth 100000

theorem cloneR (b off n c : Nat) (l : List (Int × Int × Int)) (w : World) (hl : l.length = n) (hn : n ≤ 1000000) (hc : ∀ j u, (flat3 l)[j]? = some u → w.cell? ⟨b, off + j, none⟩ = some u) :
    Calls Tryz.prog 45 #[.slice (some ⟨b, off, none⟩) n c] w fun e w' => ∃ v', e = .returned v' ∧ w'.ownsRow w.heap.size 45 3 v' n (flat3 l) ∧ v' ≠ .slice none 0 0 ∧ Below w.heap.size w w' := by
  obtain ⟨i0, hi0, hzz⟩ := Option.map_eq_some_iff.1 Tryz.info45
  simp only [Prod.mk.injEq] at hzz
  obtain ⟨hi2, hi1, hi3⟩ := hzz
  exact AnyE.slices_Clone Tryz.cloneRow i0 (.agg #[.int .i64 0, .int .i64 0, .int .i64 0]) 3 24 hi0 hi2 hi1 hi3 rfl (by omega) (fun w => (run_sizeOf w hi0).trans (by rw [show Tryz.prog.cellsOf 45 = 3 by kernel_rfl])) b off n c (flat3 l) w (by rw [flat3_len, hl]) (by unfold maxLen; omega) (by omega) hc (flat3_one l)

set_option maxHeartbeats 4000000 in
/-- The rows once more, sorted, in new memory. -/
theorem sorted_any (o : Nat) (ho : o < 6) (a : Option Addr) (n cap : Nat) (l : List (Int × Int × Int)) (w : World) (hl : l.length = n) (hn : n ≤ 1000000) (hR : RRow w a l) :
    Calls Tryz.prog 18 #[.int .i64 o, .slice a n cap] w fun e w' => ∃ v' l', e = .returned v' ∧ l'.Perm l ∧ l'.Pairwise (fun x y => rcmp o x y ≤ 0) ∧ OwnRR w' w.heap.size v' l' ∧ Below w.heap.size w w' := by
  rcases hR with ⟨rfl, rfl⟩ | ⟨b, off, rfl, hlt, hc⟩
  · subst hl
    have h1 := AnyE.slices_Clone_nil Tryz.cloneRow 0 cap w
    have h2 := AnyF.slices_SortFunc_none Tryz.sortRow none 0 (.func (.func 47) #[.int .i64 o] #[]) w
    go_enter Tryz.func18, Tryz.ntmps18
    go_wp2_with fail
    refine h1.mono ?_
    rintro e w' ⟨rfl, rfl⟩
    go_wp2_with fail
    refine h2.mono ?_
    rintro e w1 ⟨rfl, rfl⟩
    go_wp2_with fail
    go_ret
    exact ⟨_, [], rfl, List.Perm.refl _, List.Pairwise.nil, OwnRR.nil _ _, Below.refl _ _⟩
  · have h1 := cloneR b off n cap l w hl hn hc
    clear hc
    go_enter Tryz.func18, Tryz.ntmps18
    go_wp2_with fail
    refine h1.mono ?_
    rintro e w1 ⟨v', rfl, hO, hne, hB⟩
    obtain ⟨g, cap', cur, rfl, hg, hh, hle, hmx, hcs, htk⟩ : ∃ g cap cur, v' = .slice (some ⟨g, 0, none⟩) n cap ∧ w.heap.size ≤ g ∧ w1.heap[g]? = some (.cells cur 45 (0, 0)) ∧ n ≤ cap ∧ cap ≤ maxLen ∧ cur.size = cap * 3 ∧ cur.toList.take (n * 3) = flat3 l := by
      rcases hO.2 with ⟨h, _⟩ | h
      · exact absurd h hne
      · exact h
    have hgl : g < w1.heap.size := by
      apply Classical.byContradiction
      intro h
      rw [Array.getElem?_eq_none (by omega)] at hh
      cases hh
    subst hl
    have hH := holdsK_own encR 3 encR_len (w := w1) (l := l) hh htk
    have h2 := sortM o ho g 0 cap' l.toArray w1 ⟨encR_len, encR_one, hH, hgl⟩ (by simp; omega)
    simp only [List.size_toArray] at h2
    have FIN : Hid (∀ d' w2, d'.toList.Perm l → d'.toList.Pairwise (fun x y => rcmp o x y ≤ 0) → SWK encR 3 w1 g 0 d' w2 → OwnRR w2 w.heap.size (.slice (some ⟨g, 0, none⟩) l.length cap') d'.toList ∧ Below w.heap.size w w2) := by
      intro d' w2 hp _ S
      have hlen := hp.length_eq
      rw [Array.length_toList] at hlen
      obtain ⟨cur', hh', hs', ht'⟩ := own_swk encR 3 encR_len S hh hgl (by omega)
      refine ⟨⟨⟨by rw [flat3_len], .inr ⟨g, cap', cur', by simp [hlen], hg, hh', by rw [Array.length_toList]; omega, hmx, by omega, by rw [Array.length_toList]; exact ht'⟩⟩, fun g' h' => ?_⟩, hB.trans (below_swk encR 3 S hg hgl)⟩
      have : g = g' := by simpa [Value.ownBlock] using h'
      subst this
      exact ⟨hg, S.lt hgl⟩
    clear hH hh hO hne htk hcs h1
    go_wp2_with fail
    refine h2.mono ?_
    rintro e w2 ⟨rfl, d', hp, hs, S⟩
    have HF := FIN.out d' w2 (by simpa using hp) hs S
    have HQ : Hid (d'.toList.Perm l ∧ d'.toList.Pairwise (fun x y => rcmp o x y ≤ 0) ∧ OwnRR w2 w.heap.size (.slice (some ⟨g, 0, none⟩) l.length cap') d'.toList ∧ Below w.heap.size w w2) := ⟨by simpa using hp, hs, HF.1, HF.2⟩
    clear HF hp hs S FIN h2 hB
    go_wp2_with fail
    go_ret
    exact ⟨_, d'.toList, rfl, HQ.out⟩
end Go.Proofs.YtobnpfcgcoooeaaGreatDoor

/- StpA -/
namespace Go.Proofs.YtobnpfcgcoooeaaGreatDoor
open Go.RowKit Go.Deep Go.Sort Go.Lib
set_option maxRecDepth 100000

/-- The program's Compare of two terms that may be. -/
theorem implCompare_tb (x y : TB) (w : World) (hx : x.good) (hy : y.good) (h : Bs w x.t.a x.t.len x.b) (h' : Bs w y.t.a y.t.len y.b) :
    Calls Tryz.prog 42 #[.agg #[.int .i64 x.t.k, .slice x.t.a x.t.len x.t.cap, .int .i64 x.t.n, .int .i64 x.t.s], .agg #[.int .i64 y.t.k, .slice y.t.a y.t.len y.t.cap, .int .i64 y.t.n, .int .i64 y.t.s]] w fun e w' => e = .returned (.int .i64 (x.td.cmp y.td)) ∧ Gr w w' := by
  obtain ⟨a1, a2, a3, a4⟩ := fits_of_ok hx.1
  obtain ⟨b1, b2, b3, b4⟩ := fits_of_ok hy.1
  have h := implCompare_gr x.t.k x.t.n x.t.s y.t.k y.t.n y.t.s x.t.a y.t.a x.t.len x.t.cap y.t.len y.t.cap x.b y.b w h h' a1 a2 a3 a4 b1 b2 b3 b4
  have e : cmpT (termOk x.t.k x.b x.t.n x.t.s) (termOk y.t.k y.b y.t.n y.t.s) (cmp3 (cmpI x.t.k y.t.k) (cmpB x.b y.b) (cmpN x.t.n x.t.s.toNat y.t.n y.t.s.toNat)) = x.td.cmp y.td := TD.cT_good hx hy
  rw [e] at h
  exact h

theorem swo_td {α : Type} (f : α → TD) : SWO (ltOf fun x y : α => (f x).cmp (f y)) := by
  have h := ord_cmp
  refine ⟨fun x => ?_, fun x y z h1 h2 => ?_, fun x y z h1 h2 => ?_⟩
  · have := h.self (f x)
    exact decide_eq_false (show ¬ (f x).cmp (f x) < 0 by omega)
  · have h1 : (f x).cmp (f y) < 0 := of_decide_eq_true h1
    have h2 : (f y).cmp (f z) < 0 := of_decide_eq_true h2
    refine decide_eq_true (show (f x).cmp (f z) < 0 from ?_)
    have h3 := h.trans (f x) (f y) (f z) (by omega) (by omega)
    have a1 := h.anti (f x) (f z)
    have a2 := h.anti (f y) (f z)
    have a3 := h.anti (f x) (f y)
    have : ¬ (f z).cmp (f x) ≤ 0 := fun h4 => by
      have := h.trans (f z) (f x) (f y) h4 (by omega)
      omega
    omega
  · have h1 : ¬ (f x).cmp (f y) < 0 := of_decide_eq_false h1
    have h2 : ¬ (f y).cmp (f z) < 0 := of_decide_eq_false h2
    have a1 := h.anti (f x) (f z)
    have a2 := h.anti (f y) (f z)
    have a3 := h.anti (f x) (f y)
    have h3 := h.trans (f z) (f y) (f x) (by omega) (by omega)
    exact decide_eq_false (show ¬ (f x).cmp (f z) < 0 by omega)

/-- slices.SortFunc(terms, Compare): over a row of the call's own; the terms may be, their texts lie below it. -/
theorem sortT (B g n cap : Nat) (l : List TB) (w : World) (hO : OwnTR w B (.slice (some ⟨g, 0, none⟩) n cap) l) (hl : l.length = n) (hn : n ≤ 1000000) (h0 : l ≠ [])
    (hg : ∀ y ∈ l, y.good ∧ ∀ W, Below B w W → Bs W y.t.a y.t.len y.b) :
    Calls Tryz.prog 41 #[.slice (some ⟨g, 0, none⟩) n cap, .func (.func 42) #[] #[]] w fun e w' => e = .returned (.tuple #[]) ∧ ∃ l' : List TB, l'.Perm l ∧ (l'.map TB.td).Pairwise (fun x y => x.cmp y ≤ 0) ∧ OwnTR w' B (.slice (some ⟨g, 0, none⟩) n cap) l' ∧ Below B w w' := by
  obtain ⟨hB, hgl⟩ := hO.2 g rfl
  obtain ⟨cur, hh, hle, hmx, hcs, htk⟩ : ∃ cur, w.heap[g]? = some (.cells cur 37 (0, 0)) ∧ n ≤ cap ∧ cap ≤ maxLen ∧ cur.size = cap * 4 ∧ cur.toList.take (n * 4) = flat4 l := by
    rcases hO.1.2 with ⟨h, _⟩ | ⟨g', c', cur, hv, _, hh, h2, h3, h4, h5⟩
    · cases h
    · cases hv
      exact ⟨cur, hh, by omega, h3, h4, by rw [hl] at h5; exact h5⟩
  let P : TB → Prop := fun y => y.good ∧ ∀ W, Below B w W → Bs W y.t.a y.t.len y.b
  let α := { y : TB // P y }
  obtain ⟨x0, rest, rfl⟩ := List.exists_cons_of_ne_nil h0
  haveI : Inhabited α := ⟨⟨x0, hg x0 (List.mem_cons_self ..)⟩⟩
  let enc : α → List Value := fun y => enc4 y.1.t
  have evm : ∀ l : List α, flat4 (l.map Subtype.val) = l.flatMap enc := fun l => by
    unfold flat4
    rw [List.flatMap_map]
  obtain ⟨ls, els⟩ : ∃ ls : List α, ls.map Subtype.val = x0 :: rest := ⟨(x0 :: rest).attach.map fun y => ⟨y.1, hg y.1 y.2⟩, by
    rw [List.map_map]
    exact List.attach_map_subtype_val _⟩
  have ef : ls.flatMap enc = flat4 (x0 :: rest) := by rw [← els, evm]
  have elen : ls.length = n := by rw [← hl, ← els, List.length_map]
  have hk : ∀ y : α, (enc y).length = 4 := fun _ => rfl
  have h1 : ∀ y : α, ∀ v ∈ enc y, v.oneCell' = true := fun y v hv => by
    simp only [enc, enc4, List.mem_cons, List.not_mem_nil, or_false] at hv
    rcases hv with rfl | rfl | rfl | rfl <;> rfl
  have hH : HoldsK enc 4 w g 0 ls.toArray := holdsK_own enc 4 hk hh (by rw [elen, htk, ef])
  have hcmp : CmpLays Tryz.prog 42 #[] enc 4 (fun x y => x.1.td.cmp y.1.td) g 0 ls.toArray.size w := by
    intro m os dk hs x y
    have S : SWK enc 4 w g 0 dk (sortWorldK enc 4 w g 0 m dk os) := ⟨m, os, rfl⟩
    generalize sortWorldK enc 4 w g 0 m dk os = W at S
    have hb := below_swk enc 4 S hB hgl
    have bs : ∀ y : α, Bs W y.1.t.a y.1.t.len y.1.b := fun y => y.2.2 W hb
    exact (implCompare_tb x.1 y.1 W x.2.1 y.2.1 (bs x) (bs y)).mono fun _ _ h => ⟨h.1, h.2.grown⟩
  have key := AnyQ.slices_SortFunc (α := α) Tryz.sortTerm 4 (fun w => by kernel_rfl) (fun w => (run_sizeOf w (Option.map_eq_some_iff.1 Tryz.info37).choose_spec.1).trans (by rw [show Tryz.prog.cellsOf 37 = 4 by kernel_rfl])) enc hk h1 (fun x y => x.1.td.cmp y.1.td) (swo_td fun x : α => x.1.td) 42 #[] g 0 cap ls.toArray w (fun args w => by rfl) hcmp hH hgl (by simp; omega)
  have es : ls.toArray.size = n := by simp [elen]
  rw [es] at key
  refine key.mono ?_
  rintro e w' ⟨rfl, d', m, os, hp, hs, hw⟩
  have S : SWK enc 4 w g 0 d' w' := ⟨m, os, hw⟩
  have hsd : d'.size = n := hp.1.trans es
  obtain ⟨cur', hh', hs', ht'⟩ := own_swk enc 4 hk S hh hgl (by omega)
  refine ⟨rfl, d'.toList.map Subtype.val, ?_, ?_, ⟨⟨?_, .inr ⟨g, cap, cur', ?_, hB, hh', ?_, hmx, by omega, ?_⟩⟩, fun g' h' => ?_⟩, below_swk enc 4 S hB hgl⟩
  · have h2 := hp.2.2
    rw [← hsd, Array.extract_size, hsd, ← es, Array.extract_size] at h2
    have h3 := h2.map Subtype.val
    rw [List.toList_toArray, els] at h3
    exact h3
  · rw [List.map_map, List.pairwise_map, List.pairwise_iff_getElem]
    intro i j hi hj hij
    have hi' : i < d'.size := by simpa using hi
    have hj' : j < d'.size := by simpa using hj
    have h := of_decide_eq_false (hs i j (Nat.zero_le _) hij (by omega))
    rw [getElem!_pos d' i hi', getElem!_pos d' j hj'] at h
    have h : ¬ d'[j].1.td.cmp d'[i].1.td < 0 := h
    have a := ord_cmp.anti d'[i].1.td d'[j].1.td
    simp only [Array.getElem_toList, Function.comp]
    omega
  · rw [flat4_len]
  · simp [hsd]
  · simp [hsd]; exact hle
  · rw [List.length_map, Array.length_toList, ht', evm]
  · have : g = g' := by simpa [Value.ownBlock] using h'
    subst this
    exact ⟨hB, S.lt hgl⟩
end Go.Proofs.YtobnpfcgcoooeaaGreatDoor

/- StpB -/
namespace Go.Proofs.YtobnpfcgcoooeaaGreatDoor
open Go.RowKit Go.Deep Go.Sort Go.Lib
set_option maxRecDepth 100000

theorem ownT_cells {W : World} {B g n cap : Nat} {l : List TB} (h : OwnTR W B (.slice (some ⟨g, 0, none⟩) n cap) l) : ∃ cur, W.heap[g]? = some (.cells cur 37 (0, 0)) ∧ n ≤ cap ∧ cap ≤ maxLen ∧ cur.size = cap * 4 ∧ cur.toList.take (n * 4) = flat4 l ∧ n = l.length ∧ B ≤ g ∧ g < W.heap.size := by
  obtain ⟨hB, hgl⟩ := h.2 g rfl
  rcases h.1.2 with ⟨h, _⟩ | ⟨g', c', cur, hv, _, hh, h2, h3, h4, h5⟩
  · cases h
  · cases hv
    exact ⟨cur, hh, h2, h3, h4, h5, rfl, hB, hgl⟩
theorem ownT_mk {W : World} {B g n cap : Nat} {l : List TB} {cur : Array Value} (h1 : W.heap[g]? = some (.cells cur 37 (0, 0))) (h2 : n ≤ cap) (h3 : cap ≤ maxLen) (h4 : cur.size = cap * 4) (h5 : cur.toList.take (n * 4) = flat4 l) (h6 : n = l.length) (h7 : B ≤ g) (h8 : g < W.heap.size) : OwnTR W B (.slice (some ⟨g, 0, none⟩) n cap) l := by
  subst h6
  refine ⟨⟨by rw [flat4_len], .inr ⟨g, cap, cur, rfl, h7, h1, h2, h3, h4, h5⟩⟩, fun g' h' => ?_⟩
  have : g = g' := by simpa [Value.ownBlock] using h'
  subst this
  exact ⟨h7, h8⟩
theorem ownT_at {W : World} {B g n cap : Nat} {l : List TB} (h : OwnTR W B (.slice (some ⟨g, 0, none⟩) n cap) l) (i : Nat) (x : TB) (hi : l[i]? = some x) :
    W.cell? ⟨g, i * 4, none⟩ = some (.int .i64 x.t.k) ∧ W.cell? ⟨g, i * 4 + 1, none⟩ = some (.slice x.t.a x.t.len x.t.cap) ∧ W.cell? ⟨g, i * 4 + 2, none⟩ = some (.int .i64 x.t.n) ∧ W.cell? ⟨g, i * 4 + 3, none⟩ = some (.int .i64 x.t.s) := by
  obtain ⟨cur, hh, hle, hmx, hcs, htk, hn, hB, hgl⟩ := ownT_cells h
  obtain ⟨hi', rfl⟩ := List.getElem?_eq_some_iff.1 hi
  have hc : ∀ c u, c < 4 → (enc4 l[i].t)[c]? = some u → W.cell? ⟨g, i * 4 + c, none⟩ = some u := by
    intro c u hc hu
    rw [← flat4_get l i c hi' hc, ← htk, List.getElem?_take, if_pos (by omega)] at hu
    simp only [World.cell?, hh]
    simpa using hu
  exact ⟨hc 0 _ (by omega) rfl, hc 1 _ (by omega) rfl, hc 2 _ (by omega) rfl, hc 3 _ (by omega) rfl⟩
theorem ownT_fr {W : World} {B g n cap : Nat} {l : List TB} (h : OwnTR W B (.slice (some ⟨g, 0, none⟩) n cap) l) (o : Nat) : W.frozen? ⟨g, o, none⟩ = false := by
  obtain ⟨cur, hh, _⟩ := ownT_cells h
  simp [World.frozen?, hh]
theorem ownT_grown {W : World} {B : Nat} {v : Value} {l : List TB} (h : OwnTR W B v l) (n : Nat) (os : Array Obj) : OwnTR (grow (W.drewN n) os) B v l := by
  refine h.below ⟨rfl, rfl, rfl, ?_, fun k hk => ?_⟩
  · rw [Go.Sort.size_grow]; exact Nat.le_add_right _ _
  · rw [Go.Sort.heap_grow_old _ _ (by exact hk)]; rfl
theorem below_grown {W w : World} {B : Nat} (h : Below B w W) (hB : B ≤ W.heap.size) (n : Nat) (os : Array Obj) : Below B w (grow (W.drewN n) os) := by
  refine h.trans ⟨rfl, rfl, rfl, ?_, fun k hk => ?_⟩
  · rw [Go.Sort.size_grow]; exact Nat.le_add_right _ _
  · rw [Go.Sort.heap_grow_old _ _ (show k < (W.drewN n).heap.size from (show k < W.heap.size by omega))]; rfl

theorem heap_set {W : World} {g o : Nat} {v : Value} {cur : Array Value} {T : TypeId} {fz : Nat × Nat} (h : W.heap[g]? = some (.cells cur T fz)) : (W.setCell ⟨g, o, none⟩ v).heap[g]? = some (.cells (cur.setIfInBounds o v) T fz) := by
  rw [setCell_eq]
  show (W.heap.modify g (onCells (·.setIfInBounds o v)))[g]? = _
  rw [Array.getElem?_modify, if_pos rfl, h]
  rfl
/-- A term laid into the row. -/
theorem ownT_set {W : World} {B g n cap : Nat} {l : List TB} (h : OwnTR W B (.slice (some ⟨g, 0, none⟩) n cap) l) (i : Nat) (hi : i < l.length) (x : TB) :
    OwnTR ((((W.setCell ⟨g, i * 4, none⟩ (.int .i64 x.t.k)).setCell ⟨g, i * 4 + 1, none⟩ (.slice x.t.a x.t.len x.t.cap)).setCell ⟨g, i * 4 + 2, none⟩ (.int .i64 x.t.n)).setCell ⟨g, i * 4 + 3, none⟩ (.int .i64 x.t.s)) B (.slice (some ⟨g, 0, none⟩) n cap) (l.set i x) := by
  obtain ⟨cur, hh, hle, hmx, hcs, htk, hn, hB, hgl⟩ := ownT_cells h
  refine ownT_mk (heap_set (heap_set (heap_set (heap_set hh)))) hle hmx (by simpa using hcs) ?_ (by simpa using hn) hB (by simpa using hgl)
  apply List.ext_getElem?
  intro j
  rw [List.getElem?_take]
  by_cases hj : j < n * 4
  · rw [if_pos hj]
    have hi2 : j / 4 < (l.set i x).length := by rw [List.length_set]; omega
    have e := flat4_get (l.set i x) (j / 4) (j % 4) hi2 (by omega)
    rw [show j / 4 * 4 + j % 4 = j by omega] at e
    rw [e]
    have e0 := flat4_get l (j / 4) (j % 4) (by simpa using hi2) (by omega)
    rw [show j / 4 * 4 + j % 4 = j by omega, ← htk, List.getElem?_take, if_pos hj] at e0
    simp only [Array.getElem?_toList] at e0 ⊢
    have hjc : j < cur.size := by omega
    by_cases hji : j / 4 = i
    · subst hji
      rw [List.getElem_set_self]
      have hc : j % 4 = 0 ∨ j % 4 = 1 ∨ j % 4 = 2 ∨ j % 4 = 3 := by omega
      rcases hc with hc | hc | hc | hc
      · rw [hc, Array.getElem?_setIfInBounds_ne (by omega), Array.getElem?_setIfInBounds_ne (by omega), Array.getElem?_setIfInBounds_ne (by omega), show j / 4 * 4 = j by omega, Array.getElem?_setIfInBounds_self_of_lt (by omega)]
        rfl
      · rw [hc, Array.getElem?_setIfInBounds_ne (by omega), Array.getElem?_setIfInBounds_ne (by omega), show j / 4 * 4 + 1 = j by omega, Array.getElem?_setIfInBounds_self_of_lt (by simp; omega)]
        rfl
      · rw [hc, Array.getElem?_setIfInBounds_ne (by omega), show j / 4 * 4 + 2 = j by omega, Array.getElem?_setIfInBounds_self_of_lt (by simp; omega)]
        rfl
      · rw [hc, show j / 4 * 4 + 3 = j by omega, Array.getElem?_setIfInBounds_self_of_lt (by simp; omega)]
        rfl
    · rw [List.getElem_set_ne (by omega), ← e0, Array.getElem?_setIfInBounds_ne (by omega), Array.getElem?_setIfInBounds_ne (by omega), Array.getElem?_setIfInBounds_ne (by omega), Array.getElem?_setIfInBounds_ne (by omega)]
  · rw [if_neg hj, List.getElem?_eq_none (by rw [flat4_len, List.length_set]; omega)]

/-- clear(s[k:]) of a row of terms of the call's own: what stands ahead of it stays. -/
theorem ownT_clear {W : World} {B g n cap : Nat} {l : List TB} (h : OwnTR W B (.slice (some ⟨g, 0, none⟩) n cap) l) (k : Nat) (hk : k < n) :
    ∃ W', (∀ ty, (Builtin.clear_ #[27] ty #[.slice (some ⟨g, k * 4, none⟩) (n - k) (cap - k)]).run Tryz.prog W = .ok (.tuple #[]) W') ∧ OwnTR W' B (.slice (some ⟨g, 0, none⟩) k cap) (l.take k) ∧ Below B W W' := by
  obtain ⟨cur, hh, hle, hmx, hcs, htk, hn, hB, hgl⟩ := ownT_cells h
  let z : Value := .agg #[.int .i64 0, .slice none 0 0, .int .i64 0, .int .i64 0]
  let vs := (Builtin.zeroCells z.cells (n - k)).toList
  have hvl : vs.length = (n - k) * 4 := by simp [vs, Builtin.zeroCells, z, Value.cells]
  have hv1 : ∀ v ∈ vs, v.oneCell' = true := by
    intro v hv
    simp only [vs, Builtin.zeroCells, Array.toList_map, List.mem_map, z, Value.cells] at hv
    obtain ⟨i, _, rfl⟩ := hv
    have hc : i % 4 = 0 ∨ i % 4 = 1 ∨ i % 4 = 2 ∨ i % 4 = 3 := by omega
    rcases hc with hc | hc | hc | hc <;> simp [hc, Value.oneCell']
  have hst := run_storeCells_at (P := Tryz.prog) g (k * 4) 37 vs 0 cur W hh (by omega) hv1
  refine ⟨W.setRow g (cur.toList.take (k * 4 + 0) ++ vs ++ cur.toList.drop (k * 4 + 0 + vs.length)).toArray, fun ty => ?_, ?_, ?_⟩
  rotate_left
  · have : (W.setRow g (cur.toList.take (k * 4 + 0) ++ vs ++ cur.toList.drop (k * 4 + 0 + vs.length)).toArray).heap[g]? = some (.cells (cur.toList.take (k * 4 + 0) ++ vs ++ cur.toList.drop (k * 4 + 0 + vs.length)).toArray 37 (0, 0)) := by
      unfold World.setRow
      simp [Array.getElem?_modify, hh]
    refine ownT_mk this (by omega) hmx ?_ ?_ (by rw [List.length_take]; omega) hB (by simpa [World.setRow] using hgl)
    · simp only [List.size_toArray, List.length_append, List.length_take, List.length_drop, Array.length_toList, hvl]
      omega
    · rw [List.toList_toArray, List.append_assoc, Nat.add_zero, List.take_append_of_le_length (by rw [List.length_take, Array.length_toList]; omega), List.take_take, Nat.min_self, flat4_take, ← htk, List.take_take, Nat.min_eq_left (by omega)]
  · refine ⟨rfl, rfl, rfl, by simp [World.setRow], fun b hb => ?_⟩
    unfold World.setRow
    rw [Array.getElem?_modify, if_neg (by omega)]
  · obtain ⟨m, hm⟩ : ∃ m, n - k = m + 1 := ⟨n - k - 1, by omega⟩
    have hz : ∀ w, (zeroValue 37).run Tryz.prog w = .ok z w := fun w => by kernel_rfl
    have hvs : vs = (Builtin.zeroCells z.cells (m + 1)).toList := by rw [← hm]
    rw [hvs] at hst ⊢
    rw [hm]
    simp [Builtin.clear_, run_underlying Tryz.underlying27, hz, hst]

set_option maxHeartbeats 1000000 in
theorem isSame_tb (x y : TB) (w : World) (hx : x.good) (hy : y.good) (h : Bs w x.t.a x.t.len x.b) (h' : Bs w y.t.a y.t.len y.b) :
    Calls Tryz.prog 23 #[.agg #[.int .i64 x.t.k, .slice x.t.a x.t.len x.t.cap, .int .i64 x.t.n, .int .i64 x.t.s], .agg #[.int .i64 y.t.k, .slice y.t.a y.t.len y.t.cap, .int .i64 y.t.n, .int .i64 y.t.s]] w fun e w' => e = .returned (.bool (decide (x.td.cmp y.td = 0))) ∧ Gr w w' := by
  have C := fun o1 o2 => implCompare_tb x y ((w.alloc o1).alloc o2) hx hy (h.gr (gr_alloc (gr_a o1) o2)) (h'.gr (gr_alloc (gr_a o1) o2))
  clear hx hy h h'
  generalize x.td.cmp y.td = r at *
  go_enter Tryz.func23, Tryz.ntmps23
  go_wp2_with fail
  refine (C _ _).mono ?_
  rintro e w1 ⟨rfl, G⟩
  have HG : Hid (Gr w w1) := gr_trans (gr_alloc (gr_a _) _) G
  clear C G
  by_cases hr : r = 0
  · subst hr
    go_wp2_with fail
    go_ret
    exact ⟨rfl, HG.out⟩
  · have hb : (r == 0) = false := beq_eq_false_iff_ne.2 hr
    go_wp2_with fail
    go_ret
    exact ⟨by simp [hr], HG.out⟩

/-- What is kept of the first m of terms that ascend. -/
structure Cmpd (l0 : List TB) (m : Nat) (p : List TB) : Prop where
  asc : (p.map TB.td).Pairwise (fun x y => x.cmp y < 0)
  mem : ∀ t, t ∈ p.map TB.td ↔ t ∈ (l0.take m).map TB.td
  sub : ∀ y ∈ p, y ∈ l0
  len : p.length ≤ m
  last : ∀ x, l0[m - 1]? = some x → ∀ y ∈ p, y.td.cmp x.td ≤ 0
theorem Cmpd.same {l0 : List TB} {m : Nat} {p : List TB} (h : Cmpd l0 m p) (hg : ∀ y ∈ l0, y.good) (hm : 1 ≤ m) {x x' : TB} (hx : l0[m]? = some x) (hx' : l0[m - 1]? = some x') (e : x.td.cmp x'.td = 0) : Cmpd l0 (m + 1) p := by
  have et : x.td = x'.td := ordP_cmp.2 x.td x'.td (hg x (List.mem_of_getElem? hx)) (hg x' (List.mem_of_getElem? hx')) e
  refine ⟨h.asc, fun t => ?_, h.sub, by have := h.len; omega, fun y hy z hz => ?_⟩
  · rw [h.mem, List.take_add_one, hx, List.map_append, List.mem_append]
    simp only [Option.toList_some, List.map_cons, List.map_nil, List.mem_cons, List.not_mem_nil, or_false]
    constructor
    · exact .inl
    · rintro (h | h)
      · exact h
      · rw [h, et]
        refine List.mem_map_of_mem (f := TB.td) (List.mem_of_getElem? (i := m - 1) ?_)
        rw [List.getElem?_take, if_pos (by omega), hx']
  · rw [Nat.add_sub_cancel, hx] at hy
    cases hy
    rw [et]
    exact h.last x' hx' z hz
theorem Cmpd.more {l0 : List TB} {m : Nat} {p : List TB} (h : Cmpd l0 m p) {x x' : TB} (hx : l0[m]? = some x) (hx' : l0[m - 1]? = some x') (hle : x'.td.cmp x.td ≤ 0) (e : ¬ x.td.cmp x'.td = 0) : Cmpd l0 (m + 1) (p ++ [x]) := by
  have hlt : ∀ y ∈ p, y.td.cmp x.td < 0 := fun y hy => by
    have h1 := h.last x' hx' y hy
    have h2 := ord_cmp.trans _ _ _ h1 hle
    have a1 := ord_cmp.anti x.td x'.td
    have a2 := ord_cmp.anti x.td y.td
    apply Classical.byContradiction
    intro h3
    have := ord_cmp.trans x.td y.td x'.td (by omega) h1
    omega
  refine ⟨?_, fun t => ?_, fun y hy => ?_, by have := h.len; simp; omega, fun y hy z hz => ?_⟩
  · rw [List.map_append, List.pairwise_append]
    refine ⟨h.asc, by simp, fun a ha b hb => ?_⟩
    simp only [List.map_cons, List.map_nil, List.mem_cons, List.not_mem_nil, or_false] at hb
    subst hb
    obtain ⟨y, hy, rfl⟩ := List.mem_map.1 ha
    exact hlt y hy
  · rw [List.map_append, List.mem_append, h.mem, List.take_add_one, hx, List.map_append, List.mem_append]
    simp
  · rcases List.mem_append.1 hy with hy | hy
    · exact h.sub y hy
    · simp only [List.mem_cons, List.not_mem_nil, or_false] at hy
      subst hy
      exact List.mem_of_getElem? hx
  · rw [Nat.add_sub_cancel, hx] at hy
    cases hy
    rcases List.mem_append.1 hz with hz | hz
    · exact Int.le_of_lt (hlt z hz)
    · simp only [List.mem_cons, List.not_mem_nil, or_false] at hz
      subst hz
      have := ord_cmp.self z.td
      omega
theorem Cmpd.one {l0 : List TB} {x : TB} (hx : l0[0]? = some x) : Cmpd l0 1 (l0.take 1) := by
  have e : l0.take 1 = [x] := by
    cases l0 with
    | nil => cases hx
    | cons y l => simp at hx; subst hx; rfl
  rw [e]
  refine ⟨by simp, fun t => by rw [e], fun y hy => ?_, by simp, fun y hy z hz => ?_⟩
  · simp only [List.mem_cons, List.not_mem_nil, or_false] at hy
    subst hy
    exact List.mem_of_getElem? hx
  · rw [Nat.sub_self, hx] at hy
    cases hy
    simp only [List.mem_cons, List.not_mem_nil, or_false] at hz
    subst hz
    have := ord_cmp.self z.td
    omega
end Go.Proofs.YtobnpfcgcoooeaaGreatDoor
