/- Texts put together: ReQ ReS KepA GdrN GdrG GdrI GraC GraE GtxD GraR -/
import Derived.Test.YtoclingolfdfeaaGreatDoorMk07
import Derived.Test.YtoclingolfdfeaaGreatDoorMk02
import Derived.Test.YtoclingolfdfeaaGreatDoorMk05
import Derived.Test.YtoclingolfdfeaaGreatDoorMk03
import Derived.Test.YtoclingolfdfeaaGreatDoorMk04
import Derived.Sort.Row
import Derived.Deep.RegionHeld3
import Derived.Deep.RegionWith
/- ReQ -/
namespace Go.Proofs.YtoclingolfdfeaaGreatDoor
open Go.RowKit Go.Deep
set_option maxRecDepth 100000

/-- A text of the call's own that may be appended to. -/
def Tz (w : World) (B : Nat) (a : Option Addr) (len cap : Nat) (bs : List Int) : Prop :=
  Bs w a len bs ∧ ((a = none ∧ len = 0 ∧ cap = 0) ∨ ∃ g, a = some ⟨g, 0, none⟩ ∧ B ≤ g ∧ g < w.heap.size ∧ len ≤ cap ∧ ∀ j, j < cap → (w.cell? ⟨g, j, none⟩).isSome = true ∧ w.frozen? ⟨g, j, none⟩ = false)
theorem Tz.below {w w' : World} {B : Nat} {a : Option Addr} {len cap : Nat} {bs : List Int} (h : Tz w B a len cap bs) (hb : Below w.heap.size w w') : Tz w' B a len cap bs := by
  refine ⟨h.1.below hb, ?_⟩
  rcases h.2 with h2 | ⟨g, ha, hB, hg, hl, hc⟩
  · exact .inl h2
  · refine .inr ⟨g, ha, hB, Nat.lt_of_lt_of_le hg hb.size, hl, fun j hj => ?_⟩
    rw [hb.cell (p := ⟨g, j, none⟩) hg, hb.frozen (p := ⟨g, j, none⟩) hg]
    exact hc j hj
theorem Tz.mono {w : World} {B B' : Nat} {a : Option Addr} {len cap : Nat} {bs : List Int} (h : Tz w B a len cap bs) (hB : B' ≤ B) : Tz w B' a len cap bs := by
  refine ⟨h.1, h.2.imp id ?_⟩
  rintro ⟨g, ha, hB', r⟩
  exact ⟨g, ha, by omega, r⟩
theorem bs_keep {w w' : World} {a : Option Addr} {len : Nat} {bs : List Int} (h : Bs w a len bs) (hs : w.heap.size ≤ w'.heap.size) (hk : ∀ p, a = some p → w'.heap[p.block]? = w.heap[p.block]?) : Bs w' a len bs := by
  obtain ⟨h1, h2, h3, h4⟩ := h
  refine ⟨h1, h2, h3, ?_⟩
  rcases h4 with h4 | ⟨b, off, ha, hlt, hc⟩
  · exact .inl h4
  · refine .inr ⟨b, off, ha, Nat.lt_of_lt_of_le hlt hs, fun i hi => ?_⟩
    rw [World.cell?_of_block (w := w) (a := ⟨b, off + i, none⟩) (hk ⟨b, off, none⟩ ha)]
    exact hc i hi
theorem Tz.past {w w' : World} {B c : Nat} {a : Option Addr} {len cap : Nat} {bs : List Int} (h : Tz w B a len cap bs) (hp : Past c w w') (hc : c < B) : Tz w' B a len cap bs := by
  rcases h.2 with ⟨rfl, rfl, rfl⟩ | ⟨g, rfl, hB, hg, hl, hcs⟩
  · exact ⟨⟨h.1.1, h.1.2.1, h.1.2.2.1, .inl rfl⟩, .inl ⟨rfl, rfl, rfl⟩⟩
  · refine ⟨bs_keep h.1 hp.size (fun p hp' => ?_), .inr ⟨g, rfl, hB, Nat.lt_of_lt_of_le hg hp.size, hl, fun j hj => ?_⟩⟩
    · cases hp'
      exact hp.block g hg (by omega)
    · rw [hp.cell (p := ⟨g, j, none⟩) hg (by show g ≠ c; omega), hp.frozen (p := ⟨g, j, none⟩) hg (by show g ≠ c; omega)]
      exact hcs j hj
/-- append of bytes to such a text, its run known in both ways. -/
theorem wp_app8r {o : Oper} {a : Act} {K : Act → World → Prop} {Q : Exit → Act → World → Prop} {w : World} (s x : Operand) (tx : TypeId)
    (ho : o.op = .call { callee := .builtin .append, args := #[s, x], argTypes := #[22, tx] })
    (B n cap : Nat) (a0 : Option Addr) (us : List Int) (hs : a.eval s = .slice a0 n cap) (HT : Tz w B a0 n cap us)
    (xv : Value) (m : Nat) (bs : List Int) (hx : a.eval x = xv) (hml : bs.length = m) (h0 : a0 = none → 0 < m)
    (hrR : ∀ g, a0 = some ⟨g, 0, none⟩ → n + m ≤ cap → (Builtin.append_ #[22, tx] o.type #[.slice (some ⟨g, 0, none⟩) n cap, xv]).run Tryz.prog w = .ok (.slice (some ⟨g, 0, none⟩) (n + m) cap) (w.setCells g n (bs.map (Value.int .u8))))
    (hrG : cap < n + m → (Builtin.append_ #[22, tx] o.type #[.slice a0 n cap, xv]).run Tryz.prog w = .ok (.slice (some ⟨w.heap.size, 0, none⟩) (n + m) (grownCap w (n + m) cap 5)) (w.drew.alloc (.cells ((us.map (Value.int .u8) ++ bs.map (Value.int .u8)).toArray ++ Builtin.zeroCells (Value.int IntKind.u8 0).cells (grownCap w (n + m) cap 5 - (n + m))) 5)))
    (HY : Byt (us ++ bs)) (hle : n + m ≤ 1000000) (hB : B ≤ w.heap.size)
    (h : ∀ g' cap' w', Hid (Tz w' B (some ⟨g', 0, none⟩) (n + m) cap' (us ++ bs)) → Hid (Below B w w') → K (a.put o.dst (.slice (some ⟨g', 0, none⟩) (n + m) cap')) w') :
    Oper.wp Tryz.prog o a w K Q := by
  obtain ⟨hBs, hh⟩ := HT
  have hul : us.length = n := hBs.1
  by_cases hroom : n + m ≤ cap
  · rcases hh with ⟨e0, e1, e2⟩ | ⟨g, hg', hBg, hgl, hnc, hcells⟩
    · have := h0 e0
      omega
    subst hg'
    have hr := hrR g rfl hroom
    have hold : ∀ i, i < n → w.cell? ⟨g, i, none⟩ = some (.int .u8 (us[i]?.getD 0)) := fun i hi => by
      rcases hBs.2.2.2 with h0 | ⟨b, off, e, _, hc⟩
      · omega
      · cases e
        have := hc i hi
        rwa [Nat.zero_add] at this
    have hsome : ∀ j, j < (bs.map (Value.int .u8)).length → (w.cell? ⟨g, n + j, none⟩).isSome = true := fun j hj => by
      rw [List.length_map] at hj
      exact (hcells (n + j) (by omega)).1
    have hin := World.cell?_setCells_in g (bs.map (Value.int .u8)) n w hsome
    have hout := World.cell?_setCells_out g (bs.map (Value.int .u8)) n w
    have hfz := World.frozen?_setCells g (bs.map (Value.int .u8)) n w
    have hbl := below_setCells (B := B) hBg (bs.map (Value.int .u8)) n w (Below.refl B w)
    have hcell : ∀ i, i < n + m → (w.setCells g n (bs.map (Value.int .u8))).cell? ⟨g, i, none⟩ = some (.int .u8 ((us ++ bs)[i]?.getD 0)) := fun i hi => by
      by_cases hin' : i < n
      · rw [hout ⟨g, i, none⟩ (fun _ _ => .inl hin'), hold i hin', List.getElem?_append_left (by omega)]
      · obtain ⟨j, rfl⟩ : ∃ j, i = n + j := ⟨i - n, by omega⟩
        rw [hin j (by rw [List.length_map]; omega), List.getElem?_append_right (by omega), hul, Nat.add_sub_cancel_left, List.getElem?_eq_getElem (by omega)]
        simp
    unfold Oper.wp execOp
    simp only [ho, resolve, invoke, builtin, Sem.run_bind, Sem.run_pure, Result.andThen_ok, List.map_toArray, List.map_cons, List.map_nil, hs, hx, hr]
    refine (h g cap _ ⟨bs_of_cells (by rw [List.length_append]; omega) (by omega) HY (Nat.lt_of_lt_of_le hgl hbl.size) hcell, .inr ⟨g, rfl, hBg, Nat.lt_of_lt_of_le hgl hbl.size, hroom, fun j hj => ⟨?_, (hfz _).trans (hcells j hj).2⟩⟩⟩ hbl)
    by_cases hjm : j < n + m
    · rw [hcell j hjm]
      rfl
    · rw [hout ⟨g, j, none⟩ (fun _ _ => .inr (by rw [List.length_map]; show n + bs.length ≤ j; omega))]
      exact (hcells j hj).1
  · have hr := hrG (by omega)
    have hge := grownCap_ge w (n + m) cap 5
    unfold Oper.wp execOp
    simp only [ho, resolve, invoke, builtin, Sem.run_bind, Sem.run_pure, Result.andThen_ok, List.map_toArray, List.map_cons, List.map_nil, hs, hx, hr]
    obtain ⟨C, hC⟩ : ∃ C, grownCap w (n + m) cap 5 = C := ⟨_, rfl⟩
    rw [hC] at hge ⊢
    have hat : ∀ j, (w.drew.alloc (.cells ((us.map (Value.int .u8) ++ bs.map (Value.int .u8)).toArray ++ Builtin.zeroCells (Value.int IntKind.u8 0).cells (C - (n + m))) 5)).cell? ⟨w.heap.size, j, none⟩ = ((us.map (Value.int .u8) ++ bs.map (Value.int .u8)).toArray ++ Builtin.zeroCells (Value.int IntKind.u8 0).cells (C - (n + m)))[j]? := fun j => by
      simp [go_sem]
    have hbl : Below B w (w.drew.alloc (.cells ((us.map (Value.int .u8) ++ bs.map (Value.int .u8)).toArray ++ Builtin.zeroCells (Value.int IntKind.u8 0).cells (C - (n + m))) 5)) := (Below.drew (Below.refl B w)).alloc hB _
    have hcell : ∀ i, i < n + m → (w.drew.alloc (.cells ((us.map (Value.int .u8) ++ bs.map (Value.int .u8)).toArray ++ Builtin.zeroCells (Value.int IntKind.u8 0).cells (C - (n + m))) 5)).cell? ⟨w.heap.size, i, none⟩ = some (.int .u8 ((us ++ bs)[i]?.getD 0)) := fun i hi => by
      rw [hat, Array.getElem?_append_left (by simp; omega), ← List.map_append, List.getElem?_toArray, List.getElem?_map, List.getElem?_eq_getElem (by rw [List.length_append]; omega)]
      simp
    refine (h w.heap.size C _ ⟨bs_of_cells (by rw [List.length_append]; omega) (by omega) HY (by simp) hcell, .inr ⟨w.heap.size, rfl, hB, by simp, hge, fun j hj => ⟨?_, by simp [go_sem]⟩⟩⟩ hbl)
    rw [hat, Array.getElem?_eq_getElem (by simp [Builtin.zeroCells, Value.cells]; omega)]
    rfl
/-- The cells of such a text, behind a draw. -/
theorem tz_first {w : World} {B : Nat} {a0 : Option Addr} {n cap : Nat} {us : List Int} (h : Tz w B a0 n cap us) (z : Nat) (hz : z = 1) : (Builtin.firstCells z n (.slice a0 n cap)).run Tryz.prog w.drew = .ok (us.map (Value.int .u8)).toArray w.drew := by
  subst hz
  rcases h.2 with ⟨rfl, rfl, rfl⟩ | ⟨g, rfl, _⟩
  · have : us = [] := List.eq_nil_of_length_eq_zero h.1.1
    subst this
    exact run_firstCells_none w.drew 1 0 0 0
  · have hul := h.1.1
    refine run_firstCells_some w.drew 1 n ⟨g, 0, none⟩ n cap _ (by rw [List.length_map]; omega) fun j v hv => ?_
    have hj : j < n := by have := (List.getElem?_eq_some_iff.1 hv).1; simpa [hul] using this
    have e : w.drew.cell? ((⟨g, 0, none⟩ : Addr).add j) = w.cell? ⟨g, j, none⟩ := by
      rw [Addr.add_lit, Nat.zero_add]
      rfl
    rw [e]
    rcases h.1.2.2.2 with h0 | ⟨b, off, e, _, hc⟩
    · omega
    · cases e
      have hx := hc j hj
      rw [Nat.zero_add] at hx
      rw [hx]
      rw [List.getElem?_map, List.getElem?_eq_getElem (by omega)] at hv
      rw [List.getElem?_eq_getElem (by omega)]
      simpa using hv
/-- append of what a source yields. -/
theorem wp_app8z {o : Oper} {a : Act} {K : Act → World → Prop} {Q : Exit → Act → World → Prop} {w : World} (s x : Operand) (tx : TypeId)
    (ho : o.op = .call { callee := .builtin .append, args := #[s, x], argTypes := #[22, tx] })
    (B n cap : Nat) (a0 : Option Addr) (us : List Int) (hs : a.eval s = .slice a0 n cap) (HT : Hid (Tz w B a0 n cap us))
    (xv : Value) (m : Nat) (bs : List Int) (hx : a.eval x = xv) (h0 : a0 = none → 0 < m) (HS : Hid (Src Tryz.prog 1 tx xv m (bs.map (Value.int .u8)) w)) (HY : Hid (Byt (us ++ bs))) (N : Nat) (hN : n + m = N) (zs : List Int) (hz : us ++ bs = zs) (hle : N ≤ 1000000) (hB : B ≤ w.heap.size)
    (h : ∀ g' cap' w', Hid (Tz w' B (some ⟨g', 0, none⟩) N cap' zs) → Hid (Below B w w') → K (a.put o.dst (.slice (some ⟨g', 0, none⟩) N cap')) w') :
    Oper.wp Tryz.prog o a w K Q := by
  obtain ⟨i0, hi0, hzz⟩ := Option.map_eq_some_iff.1 Tryz.info5
  simp only [Prod.mk.injEq] at hzz
  obtain ⟨hi2, hi1, hi3⟩ := hzz
  subst hN hz
  have hsrc : Src Tryz.prog i0.size tx xv m (bs.map (Value.int .u8)) w := by rw [hi1]; exact HS.out
  have hml : bs.length = m := by have := HS.out.newsLen; simpa using this
  refine wp_app8r s x tx ho B n cap a0 us hs HT.out xv m bs hx hml h0 (fun g hg hroom => ?_) (fun hno => ?_) HY.out hle hB h
  · subst hg
    rcases HT.out.2 with ⟨e0, _⟩ | ⟨g', hg', hBg, hgl, hnc, hcells⟩
    · cases e0
    cases hg'
    have hr := run_append_room_src (P := Tryz.prog) w 22 tx o.type 5 i0 Tryz.underlying22 hi0 g 0 n cap xv m (bs.map (Value.int .u8)) hsrc hroom (fun j hj => by
      rw [List.length_map] at hj
      rw [hi1, Nat.zero_add, Nat.mul_one]
      exact (hcells (n + j) (by omega)).1) (fun j hj => by
      rw [List.length_map] at hj
      rw [hi1, Nat.zero_add, Nat.mul_one]
      exact (hcells (n + j) (by omega)).2)
    rwa [hi1, Nat.zero_add, Nat.mul_one] at hr
  · exact run_append_grow_src (P := Tryz.prog) w 22 tx o.type 5 i0 (.int .u8 0) Tryz.underlying22 hi0 hi2 a0 n cap (us.map (Value.int .u8)) (tz_first HT.out _ hi1) xv m (bs.map (Value.int .u8)) hsrc (by omega) (by omega) (growslice_fits (by omega) (by rw [hi3]; omega))
theorem step_app8z {ops : Array Oper} {o : Oper} {a : Act} {K : Act → World → Prop} {Q : Exit → Act → World → Prop} {w : World} {E : Prop} (hgd : o.guard = none) (s x : Operand) (tx : TypeId)
    (ho : o.op = .call { callee := .builtin .append, args := #[s, x], argTypes := #[22, tx] })
    (B n cap : Nat) (a0 : Option Addr) (us : List Int) (hs : a.eval s = .slice a0 n cap) (HT : Hid (Tz w B a0 n cap us))
    (xv : Value) (m : Nat) (bs : List Int) (hx : a.eval x = xv) (h0 : a0 = none → 0 < m) (HS : Hid (Src Tryz.prog 1 tx xv m (bs.map (Value.int .u8)) w)) (HY : Hid (Byt (us ++ bs))) (N : Nat) (hN : n + m = N) (zs : List Int) (hz : us ++ bs = zs) (hle : N ≤ 1000000) (hB : B ≤ w.heap.size)
    (h : ∀ g' cap' w', Hid (Tz w' B (some ⟨g', 0, none⟩) N cap' zs) → Hid (Below B w w') → K (a.put o.dst (.slice (some ⟨g', 0, none⟩) N cap')) w') :
    if Region.wanted o (yielded ops a.tmps) = true then Oper.wp Tryz.prog o a w K Q else E := by
  have hw : Region.wanted o (yielded ops a.tmps) = true := by simp [Region.wanted, hgd]
  rw [if_pos hw]
  exact wp_app8z s x tx ho B n cap a0 us hs HT xv m bs hx h0 HS HY N hN zs hz hle hB h
theorem list_app8z {ops : Array Oper} {rest : List Oper} {o : Oper} {a : Act} {Q : Exit → Act → World → Prop} {w : World} (hgd : o.guard = none) (s x : Operand) (tx : TypeId)
    (ho : o.op = .call { callee := .builtin .append, args := #[s, x], argTypes := #[22, tx] })
    (B n cap : Nat) (a0 : Option Addr) (us : List Int) (hs : a.eval s = .slice a0 n cap) (HT : Hid (Tz w B a0 n cap us))
    (xv : Value) (m : Nat) (bs : List Int) (hx : a.eval x = xv) (h0 : a0 = none → 0 < m) (HS : Hid (Src Tryz.prog 1 tx xv m (bs.map (Value.int .u8)) w)) (HY : Hid (Byt (us ++ bs))) (N : Nat) (hN : n + m = N) (zs : List Int) (hz : us ++ bs = zs) (hle : N ≤ 1000000) (hB : B ≤ w.heap.size)
    (h : ∀ g' cap' w', Hid (Tz w' B (some ⟨g', 0, none⟩) N cap' zs) → Hid (Below B w w') → wpList Tryz.prog ops Q rest (a.put o.dst (.slice (some ⟨g', 0, none⟩) N cap')) w') :
    wpList Tryz.prog ops Q (o :: rest) a w :=
  wpList_plain hgd fun _ hK => wp_app8z s x tx ho B n cap a0 us hs HT xv m bs hx h0 HS HY N hN zs hz hle hB fun g' cap' w' h1 h2 => hK _ _ (h g' cap' w' h1 h2)
/-- A text as what is appended, wherever it lies. -/
theorem src_bs {w : World} {a : Option Addr} {n c : Nat} {bs : List Int} (h : Bs w a n bs) : Src Tryz.prog 1 22 (.slice a n c) n (bs.map (Value.int .u8)) w := by
  cases a with
  | some p =>
    refine Src.ofSlice w Tryz.underlying22 p n c _ (by rw [List.length_map, h.1, Nat.mul_one]) (fun j u hu => ?_) (oneCell_map bs)
    have hj : j < n := by have := (List.getElem?_eq_some_iff.1 hu).1; simpa [h.1] using this
    rcases h.2.2.2 with h0 | ⟨b, off, e, _, hc⟩
    · omega
    · cases e
      have e2 : (⟨b, off, none⟩ : Addr).add j = ⟨b, off + j, none⟩ := Addr.add_lit _ _ _
      rw [e2, hc j hj]
      rw [List.getElem?_map] at hu
      have hjl : j < bs.length := by rw [h.1]; exact hj
      rw [List.getElem?_eq_getElem hjl] at hu ⊢
      simpa using hu
  | none =>
    have h0 : n = 0 := by
      rcases h.2.2.2 with h0 | ⟨b, off, e, _, hc⟩
      · exact h0
      · cases e
    subst h0
    have hb : bs = [] := List.eq_nil_of_length_eq_zero h.1
    subst hb
    exact Src.ofNil w Tryz.underlying22 c
end Go.Proofs.YtoclingolfdfeaaGreatDoor

/- ReS -/
namespace Go.Proofs.YtoclingolfdfeaaGreatDoor
open Go.RowKit Go.Deep
set_option maxRecDepth 100000

theorem Tz.new0 (w : World) : Tz (w.alloc (.cells #[] 5)) w.heap.size (some ⟨w.heap.size, 0, none⟩) 0 0 [] :=
  ⟨⟨rfl, by omega, by simp, .inl rfl⟩, .inr ⟨_, rfl, Nat.le_refl _, by simp, Nat.le_refl _, fun j hj => by omega⟩⟩
theorem Tz.take {w : World} {B g n cap : Nat} {us : List Int} (h : Tz w B (some ⟨g, 0, none⟩) n cap us) {i : Nat} (hi : i ≤ n) : Tz w B (some ⟨g, 0, none⟩) i cap (us.take i) := by
  obtain ⟨⟨h1, h2, h3, h4⟩, h5⟩ := h
  refine ⟨⟨by rw [List.length_take]; omega, by omega, fun j => ?_, ?_⟩, ?_⟩
  · rw [List.getElem?_take]
    split
    · exact h3 j
    · simp
  · rcases h4 with h4 | ⟨b, off, e, hl, hc⟩
    · left; omega
    · refine .inr ⟨b, off, e, hl, fun j hj => ?_⟩
      rw [hc j (by omega), List.getElem?_take, if_pos hj]
  · rcases h5 with ⟨e, _⟩ | ⟨g', e, hB, hg, hl, hc⟩
    · cases e
    · exact .inr ⟨g', e, hB, hg, by omega, hc⟩
theorem Tz.set {w : World} {B g n cap : Nat} {us : List Int} (h : Tz w B (some ⟨g, 0, none⟩) n cap us) {i : Nat} (hi : i < n) (v : Int) (hv : 0 ≤ v ∧ v ≤ 255) : Tz (w.setCell ⟨g, i, none⟩ (.int .u8 v)) B (some ⟨g, 0, none⟩) n cap (us.set i v) := by
  obtain ⟨⟨h1, h2, h3, h4⟩, h5⟩ := h
  rcases h5 with ⟨e, _⟩ | ⟨g', e, hB, hg, hl, hc⟩
  · cases e
  cases e
  have hs : (w.cell? ⟨g, i, none⟩).isSome = true := (hc i (by omega)).1
  obtain ⟨x, hx⟩ := Option.isSome_iff_exists.1 hs
  have same : (w.setCell ⟨g, i, none⟩ (.int .u8 v)).cell? ⟨g, i, none⟩ = some (.int .u8 v) := set_same hx
  have other : ∀ j, j ≠ i → (w.setCell ⟨g, i, none⟩ (.int .u8 v)).cell? ⟨g, j, none⟩ = w.cell? ⟨g, j, none⟩ := fun j hj => World.cell?_setCell_other _ _ _ _ (by intro h; simp only [Addr.mk.injEq] at h; omega)
  refine ⟨⟨by rw [List.length_set]; exact h1, h2, fun j => ?_, ?_⟩, .inr ⟨g, rfl, hB, by simpa using hg, hl, fun j hj => ⟨?_, ?_⟩⟩⟩
  · rw [List.getElem?_set]
    split
    · split
      · exact hv
      · simp
    · exact h3 j
  · right
    rcases h4 with h4 | ⟨b, off, e, hl, hc'⟩
    · omega
    cases e
    refine ⟨g, 0, rfl, by simpa using hl, fun j hj => ?_⟩
    rw [Nat.zero_add]
    by_cases hji : j = i
    · subst hji
      rw [same, List.getElem?_set]
      simp [h1, hj]
    · rw [other j hji, List.getElem?_set, if_neg (Ne.symm hji)]
      have := hc' j hj
      rwa [Nat.zero_add] at this
  · by_cases hji : j = i
    · subst hji
      rw [same]
      rfl
    · rw [other j hji]
      exact (hc j hj).1
  · rw [World.frozen?_setCell]
    exact (hc j hj).2
theorem byt_of_bs {w : World} {a : Option Addr} {n : Nat} {us : List Int} (h : Bs w a n us) : Byt us := Byt.of h.2.2.1
theorem Byt.takeB {l : List Int} (h : Byt l) (i : Nat) : Byt (l.take i) := fun x hx => h x (List.mem_of_mem_take hx)
theorem Byt.dropB {l : List Int} (h : Byt l) (i : Nat) : Byt (l.drop i) := fun x hx => h x (List.mem_of_mem_drop hx)
theorem Tz.byteAt {w : World} {B g n cap : Nat} {us : List Int} (h : Tz w B (some ⟨g, 0, none⟩) n cap us) {i : Nat} (hi : i < n) : ∃ v, w.cell? ⟨g, i, none⟩ = some (.int .u8 v) ∧ us[i]? = some v ∧ 0 ≤ v ∧ v ≤ 255 ∧ w.frozen? ⟨g, i, none⟩ = false := by
  obtain ⟨⟨h1, h2, h3, h4⟩, h5⟩ := h
  rcases h5 with ⟨e, _⟩ | ⟨g', e, hB, hg, hl, hc⟩
  · cases e
  cases e
  rcases h4 with h4 | ⟨b, off, e, hl', hc'⟩
  · omega
  cases e
  have hx := hc' i hi
  have hu : us[i]? = some (us[i]'(by omega)) := List.getElem?_eq_getElem (by omega)
  have h3 := h3 i
  rw [hu] at hx h3
  rw [Nat.zero_add] at hx
  exact ⟨_, hx, hu, h3.1, h3.2, (hc i (by omega)).2⟩
theorem Tz.at {w : World} {B g n cap : Nat} {us : List Int} (h : Tz w B (some ⟨g, 0, none⟩) n cap us) {i : Nat} (hi : i < n) : ∃ v, w.cell? ⟨g, i, none⟩ = some v ∧ w.frozen? ⟨g, i, none⟩ = false := by
  obtain ⟨v, h1, _, _, _, h2⟩ := h.byteAt hi
  exact ⟨_, h1, h2⟩
end Go.Proofs.YtoclingolfdfeaaGreatDoor

/- KepA -/
namespace Go.Proofs.YtoclingolfdfeaaGreatDoor
open Go.RowKit Go.Deep
set_option maxRecDepth 100000

/-- All blocks but p and the row are as they were. -/
structure Kept (p : Nat) (row : Option Nat) (w w' : World) : Prop where
  size : w.heap.size ≤ w'.heap.size
  block : ∀ b, b < w.heap.size → b ≠ p → some b ≠ row → w'.heap[b]? = w.heap[b]?
theorem Kept.drew0 (p : Nat) (row : Option Nat) (w : World) : Kept p row w w.drew := ⟨Nat.le_refl _, fun _ _ _ _ => rfl⟩
theorem Kept.refl (p : Nat) (row : Option Nat) (w : World) : Kept p row w w := ⟨Nat.le_refl _, fun _ _ _ _ => rfl⟩
theorem Kept.below {p : Nat} {row : Option Nat} {w w' w'' : World} (h : Kept p row w w') (hb : Below w'.heap.size w' w'') : Kept p row w w'' :=
  ⟨Nat.le_trans h.size hb.size, fun b h1 h2 h3 => (hb.block b (Nat.lt_of_lt_of_le h1 h.size)).trans (h.block b h1 h2 h3)⟩
theorem Kept.alloc {p : Nat} {row : Option Nat} {w w' : World} (h : Kept p row w w') (o : Obj) : Kept p row w (w'.alloc o) := h.below (bl_a o)
theorem Kept.grown {p : Nat} {row : Option Nat} {w w' w'' : World} (h : Kept p row w w') (hg : w'.grownBy w'' row) : Kept p row w w'' :=
  ⟨Nat.le_trans h.size hg.size, fun b h1 h2 h3 => (hg.block b (Nat.lt_of_lt_of_le h1 h.size) h3).trans (h.block b h1 h2 h3)⟩
theorem Kept.set {p : Nat} {row : Option Nat} {w w' : World} (h : Kept p row w w') (i : Nat) (v : Value) : Kept p row w (w'.setCell ⟨p, i, none⟩ v) :=
  ⟨by simpa [World.setCell] using h.size, fun b h1 h2 h3 => (Below.heap_setCell _ _ _ _ h2).trans (h.block b h1 h2 h3)⟩
theorem Kept.cell {p : Nat} {row : Option Nat} {w w' : World} (h : Kept p row w w') {b o : Nat} (h1 : b < w.heap.size) (h2 : b ≠ p) (h3 : some b ≠ row) : w'.cell? ⟨b, o, none⟩ = w.cell? ⟨b, o, none⟩ := World.cell?_of_block (w := w) (a := ⟨b, o, none⟩) (h.block b h1 h2 h3)

end Go.Proofs.YtoclingolfdfeaaGreatDoor

/- GdrN -/
namespace Go.Proofs.YtoclingolfdfeaaGreatDoor
open Go.RowKit Go.Deep Go.Sort Go.Lib
set_option maxRecDepth 100000

theorem ownG_cells {W : World} {B g n cap : Nat} {l : List G1} (h : OwnG W B (.slice (some ⟨g, 0, none⟩) n cap) l) : ∃ cur, W.heap[g]? = some (.cells cur 36 (0, 0)) ∧ n ≤ cap ∧ cap ≤ maxLen ∧ cur.size = cap * 12 ∧ cur.toList.take (n * 12) = flatG l ∧ n = l.length ∧ B ≤ g ∧ g < W.heap.size := by
  obtain ⟨hB, hgl⟩ := h.2 g rfl
  rcases h.1.2 with ⟨h, _⟩ | ⟨g', c', cur, hv, _, hh, h2, h3, h4, h5⟩
  · cases h
  · cases hv
    exact ⟨cur, hh, h2, h3, h4, h5, rfl, hB, hgl⟩
theorem ownG_mk {W : World} {B g n cap : Nat} {l : List G1} {cur : Array Value} (h1 : W.heap[g]? = some (.cells cur 36 (0, 0))) (h2 : n ≤ cap) (h3 : cap ≤ maxLen) (h4 : cur.size = cap * 12) (h5 : cur.toList.take (n * 12) = flatG l) (h6 : n = l.length) (h7 : B ≤ g) (h8 : g < W.heap.size) : OwnG W B (.slice (some ⟨g, 0, none⟩) n cap) l := by
  subst h6
  refine ⟨⟨by rw [flatG_len], .inr ⟨g, cap, cur, rfl, h7, h1, h2, h3, h4, h5⟩⟩, fun g' h' => ?_⟩
  have : g = g' := by simpa [Value.ownBlock] using h'
  subst this
  exact ⟨h7, h8⟩
theorem ownG_fr {W : World} {B g n cap : Nat} {l : List G1} (h : OwnG W B (.slice (some ⟨g, 0, none⟩) n cap) l) (o : Nat) : W.frozen? ⟨g, o, none⟩ = false := by
  obtain ⟨cur, hh, _⟩ := ownG_cells h
  simp [World.frozen?, hh]
theorem heap_setG {W : World} {g o : Nat} {v : Value} {cur : Array Value} {T : TypeId} {fz : Nat × Nat} (h : W.heap[g]? = some (.cells cur T fz)) : (W.setCell ⟨g, o, none⟩ v).heap[g]? = some (.cells (cur.setIfInBounds o v) T fz) := by
  rw [setCell_eq]
  show (W.heap.modify g (onCells (·.setIfInBounds o v)))[g]? = _
  rw [Array.getElem?_modify, if_pos rfl, h]
  rfl
end Go.Proofs.YtoclingolfdfeaaGreatDoor

/- GdrG -/
namespace Go.Proofs.YtoclingolfdfeaaGreatDoor
open Go.RowKit Go.Deep
set_option maxRecDepth 100000

/-- A drawn triple whose texts lie from B on. -/
structure GX (w : World) (B : Nat) (y : G1) : Prop where
  t : DT w B w.heap.size y.t y.bt
  u : DT w B w.heap.size y.u y.bu
  v : DT w B w.heap.size y.v y.bv
  s : S3 y.t y.u y.v
theorem GX.past {w w' : World} {B c : Nat} {y : G1} (h : GX w B y) (hp : Past c w w') (hc : c < B) : GX w' B y :=
  ⟨(h.t.past hp (.inl hc)).mono (Nat.le_refl _) hp.size (Nat.le_refl _), (h.u.past hp (.inl hc)).mono (Nat.le_refl _) hp.size (Nat.le_refl _), (h.v.past hp (.inl hc)).mono (Nat.le_refl _) hp.size (Nat.le_refl _), h.s⟩
theorem GX.mono {w : World} {B B' : Nat} {y : G1} (h : GX w B y) (hB : B' ≤ B) : GX w B' y :=
  ⟨h.t.mono hB (Nat.le_refl _) (Nat.le_refl _), h.u.mono hB (Nat.le_refl _) (Nat.le_refl _), h.v.mono hB (Nat.le_refl _) (Nat.le_refl _), h.s⟩
theorem GX.below {w w' : World} {B : Nat} {y : G1} (h : GX w B y) (hb : Below w.heap.size w w') : GX w' B y :=
  ⟨(h.t.below hb).mono (Nat.le_refl _) hb.size (Nat.le_refl _), (h.u.below hb).mono (Nat.le_refl _) hb.size (Nat.le_refl _), (h.v.below hb).mono (Nat.le_refl _) hb.size (Nat.le_refl _), h.s⟩
theorem OwnG.slice {w : World} {B : Nat} {v : Value} {l : List G1} (h : OwnG w B v l) : ∃ a n c, v = .slice a n c := by
  rcases h.form with ⟨e, _⟩ | ⟨g, c, e, _⟩
  · exact ⟨_, _, _, e⟩
  · exact ⟨_, _, _, e⟩
theorem OwnG.one {w : World} {B : Nat} {v : Value} {l : List G1} (h : OwnG w B v l) : v.oneCell' = true := by
  obtain ⟨a, n, c, rfl⟩ := h.slice
  rfl
theorem OwnG.len {w : World} {B : Nat} {a : Option Addr} {n c : Nat} {l : List G1} (h : OwnG w B (.slice a n c) l) : n = l.length := by
  rcases h.form with ⟨e, rfl⟩ | ⟨g, c', e, _⟩
  · simp only [Value.slice.injEq] at e
    exact e.2.1
  · simp only [Value.slice.injEq] at e
    exact e.2.1
end Go.Proofs.YtoclingolfdfeaaGreatDoor

/- GdrI -/
namespace Go.Proofs.YtoclingolfdfeaaGreatDoor
open Go.RowKit Go.Deep
set_option maxRecDepth 100000

/-- A triple, drawn or bent, whose texts lie from B on. -/
structure GY (w : World) (B : Nat) (y : G1) : Prop where
  t : DT w B w.heap.size y.t y.bt
  u : DT w B w.heap.size y.u y.bu
  v : DT w B w.heap.size y.v y.bv
theorem GY.past {w w' : World} {B c : Nat} {y : G1} (h : GY w B y) (hp : Past c w w') (hc : c < B) : GY w' B y :=
  ⟨(h.t.past hp (.inl hc)).mono (Nat.le_refl _) hp.size (Nat.le_refl _), (h.u.past hp (.inl hc)).mono (Nat.le_refl _) hp.size (Nat.le_refl _), (h.v.past hp (.inl hc)).mono (Nat.le_refl _) hp.size (Nat.le_refl _)⟩
theorem GY.below {w w' : World} {B : Nat} {y : G1} (h : GY w B y) (hb : Below w.heap.size w w') : GY w' B y :=
  ⟨(h.t.below hb).mono (Nat.le_refl _) hb.size (Nat.le_refl _), (h.u.below hb).mono (Nat.le_refl _) hb.size (Nat.le_refl _), (h.v.below hb).mono (Nat.le_refl _) hb.size (Nat.le_refl _)⟩
theorem GY.mono {w : World} {B B' : Nat} {y : G1} (h : GY w B y) (hB : B' ≤ B) : GY w B' y :=
  ⟨h.t.mono hB (Nat.le_refl _) (Nat.le_refl _), h.u.mono hB (Nat.le_refl _) (Nat.le_refl _), h.v.mono hB (Nat.le_refl _) (Nat.le_refl _)⟩
/-- append of triples to a row of the call's own, within a region that draws its order. -/
theorem stepG {ops : Array Oper} {o : Oper} {a : Act} {K : Act → World → Prop} {Q : Exit → Act → World → Prop} {E : Prop} {w : World} (hgd : o.guard = none) (s x : Operand)
    (ho : o.op = .call { callee := .builtin .append, args := #[s, x], argTypes := #[28, 28] })
    (B : Nat) (v : Value) (us : List G1) (hs : a.eval s = v) (HO : Hid (OwnG w B v us))
    (ad : Addr) (m c : Nat) (bs : List G1) (hx : a.eval x = .slice (some ad) m c) (hl : bs.length = m) (HN : Hid (∀ j u, (flatG bs)[j]? = some u → w.cell? (ad.add j) = some u))
    (hm : 0 < m) (N : Nat) (hN : us.length + m = N) (zs : List G1) (hz : us ++ bs = zs) (hle : N ≤ 1000000000) (hB : B ≤ w.heap.size)
    (h : ∀ g cap w', Hid (OwnG w' B (.slice (some ⟨g, 0, none⟩) N cap) zs) → Hid (w.grownBy w' v.ownBlock) → K (a.put o.dst (.slice (some ⟨g, 0, none⟩) N cap)) w') :
    if Region.wanted o (yielded ops a.tmps) = true then Oper.wp Tryz.prog o a w K Q else E := by
  obtain ⟨i0, hi0, hzz⟩ := Option.map_eq_some_iff.1 Tryz.infoG36
  simp only [Prod.mk.injEq] at hzz
  obtain ⟨hi2, hi1, hi3⟩ := hzz
  subst hN hz
  refine step_append_lies _ hgd s x 28 ho B 36 i0 _ 12 144 Tryz.underlying28 hi0 hi2 hi1 hi3 rfl (by omega) v us.length (flatG us) hs HO.out.1 ad m c (flatG bs) hx (by rw [flatG_len, hl]) HN.out (flatG_one bs) hm (by unfold maxLen; omega) (by omega) hB _ rfl ?_
  intro g cap w' hown hgr hat hlt
  have hown' : w'.ownsRow B 36 12 (.slice (some ⟨g, 0, none⟩) (us.length + m) cap) (us ++ bs).length (flatG (us ++ bs)) := by
    rw [flatG_append, List.length_append, hl]
    exact hown
  refine h g cap w' ⟨hown', fun g' hg' => ?_⟩ hgr
  have : g = g' := by simpa [Value.ownBlock] using hg'
  subst this
  rcases hown.2 with ⟨hv, _⟩ | ⟨g0, c0, cur, hv, hb, _⟩
  · cases hv
  · cases hv; exact ⟨hb, hlt⟩
end Go.Proofs.YtoclingolfdfeaaGreatDoor

/- GraC -/
namespace Go.Proofs.YtoclingolfdfeaaGreatDoor
open Go.RowKit Go.Deep

/-- All of the first N places of block g are there. -/
def Ex (w : World) (g N : Nat) : Prop := ∀ j, j < N → ∃ v, w.cell? ⟨g, j, none⟩ = some v
theorem Ex.set {w : World} {g N i : Nat} {v : Value} (h : Ex w g N) : Ex (w.setCell ⟨g, i, none⟩ v) g N := by
  intro j hj
  obtain ⟨u, hu⟩ := h j hj
  by_cases e : j = i
  · subst e; exact ⟨v, set_same hu⟩
  · exact ⟨u, by rw [set_other e]; exact hu⟩
theorem Ex.put {w : World} {g N i0 i1 i2 i3 : Nat} {x : Tm} (h : Ex w g N) : Ex (put4 w g i0 i1 i2 i3 x) g N := (((h.set).set).set).set
theorem Ex.below {w w' : World} {g N : Nat} (h : Ex w g N) (hg : g < w.heap.size) (hb : Below w.heap.size w w') : Ex w' g N := fun j hj => by
  obtain ⟨u, hu⟩ := h j hj
  exact ⟨u, (hb.cell (p := ⟨g, j, none⟩) hg).trans hu⟩
/-- .. and may be written. -/
def Wr (w : World) (g N : Nat) : Prop := ∀ j, j < N → w.frozen? ⟨g, j, none⟩ = false
theorem Wr.put {w : World} {g N i0 i1 i2 i3 : Nat} {x : Tm} (h : Wr w g N) : Wr (put4 w g i0 i1 i2 i3 x) g N := fun j hj => by simp [put4, h j hj]
theorem Wr.below {w w' : World} {g N : Nat} (h : Wr w g N) (hg : g < w.heap.size) (hb : Below w.heap.size w w') : Wr w' g N := fun j hj => (hb.frozen (p := ⟨g, j, none⟩) hg).trans (h j hj)

/-- A triple written at place o. -/
def put12 (w : World) (g o : Nat) (t u v : Tm) : World := put4 (put4 (put4 w g o (o + 1) (o + 2) (o + 3) t) g (o + 4) (o + 5) (o + 6) (o + 7) u) g (o + 8) (o + 9) (o + 10) (o + 11) v
theorem put4_at {w : World} {g o : Nat} {t : Tm} {N : Nat} (h : Ex w g N) (ho : o + 3 < N) :
    (put4 w g o (o + 1) (o + 2) (o + 3) t).cell? ⟨g, o, none⟩ = some (.int .i64 t.k) ∧ (put4 w g o (o + 1) (o + 2) (o + 3) t).cell? ⟨g, o + 1, none⟩ = some (.slice t.a t.len t.cap) ∧ (put4 w g o (o + 1) (o + 2) (o + 3) t).cell? ⟨g, o + 2, none⟩ = some (.int .i64 t.n) ∧ (put4 w g o (o + 1) (o + 2) (o + 3) t).cell? ⟨g, o + 3, none⟩ = some (.int .i64 t.s) := by
  unfold put4
  refine ⟨?_, ?_, ?_, ?_⟩
  · obtain ⟨u, hu⟩ := h o (by omega)
    rw [set_other (by omega), set_other (by omega), set_other (by omega)]
    exact set_same hu
  · obtain ⟨u, hu⟩ := h.set (i := o) (v := .int .i64 t.k) (o + 1) (by omega)
    rw [set_other (by omega), set_other (by omega)]
    exact set_same hu
  · obtain ⟨u, hu⟩ := (h.set (i := o) (v := .int .i64 t.k)).set (i := o + 1) (v := .slice t.a t.len t.cap) (o + 2) (by omega)
    rw [set_other (by omega)]
    exact set_same hu
  · obtain ⟨u, hu⟩ := ((h.set (i := o) (v := .int .i64 t.k)).set (i := o + 1) (v := .slice t.a t.len t.cap)).set (i := o + 2) (v := .int .i64 t.n) (o + 3) (by omega)
    exact set_same hu
theorem put4_off {w : World} {g o i0 i1 i2 i3 : Nat} {t : Tm} (h : o ≠ i0 ∧ o ≠ i1 ∧ o ≠ i2 ∧ o ≠ i3) : (put4 w g i0 i1 i2 i3 t).cell? ⟨g, o, none⟩ = w.cell? ⟨g, o, none⟩ := by
  unfold put4
  rw [set_other h.2.2.2, set_other h.2.2.1, set_other h.2.1, set_other h.1]
theorem Row12.put {w : World} {g o N : Nat} {t u v : Tm} (h : Ex w g N) (ho : o + 12 ≤ N) : Row12 (put12 w g o t u v) g o t u v := by
  unfold Row12 put12
  have h1 := h.put (i0 := o) (i1 := o + 1) (i2 := o + 2) (i3 := o + 3) (x := t)
  have h2 := h1.put (i0 := o + 4) (i1 := o + 5) (i2 := o + 6) (i3 := o + 7) (x := u)
  have a1 := put4_at (t := t) h (show o + 3 < N by omega)
  have a2 := put4_at (t := u) (o := o + 4) h1 (show o + 4 + 3 < N by omega)
  have a3 := put4_at (t := v) (o := o + 8) h2 (show o + 8 + 3 < N by omega)
  refine ⟨⟨?_, ?_, ?_, ?_⟩, ⟨?_, ?_, ?_, ?_⟩, ⟨?_, ?_, ?_, ?_⟩⟩
  · rw [put4_off (by omega), put4_off (by omega)]; exact a1.1
  · rw [put4_off (by omega), put4_off (by omega)]; exact a1.2.1
  · rw [put4_off (by omega), put4_off (by omega)]; exact a1.2.2.1
  · rw [put4_off (by omega), put4_off (by omega)]; exact a1.2.2.2
  · rw [put4_off (by omega)]; exact a2.1
  · rw [put4_off (by omega)]; exact a2.2.1
  · rw [put4_off (by omega)]; exact a2.2.2.1
  · rw [put4_off (by omega)]; exact a2.2.2.2
  · exact a3.1
  · exact a3.2.1
  · exact a3.2.2.1
  · exact a3.2.2.2
theorem Tryz.info36 : (Tryz.prog.info? 36).map (fun i => (i.zero, i.size, i.bytes)) = some (some (.agg #[.int .i64 0, .slice none 0 0, .int .i64 0, .int .i64 0, .int .i64 0, .slice none 0 0, .int .i64 0, .int .i64 0, .int .i64 0, .slice none 0 0, .int .i64 0, .int .i64 0]), 12, 144) := by kernel_rfl

/-- A row of triples of the call's own, its texts too. -/
structure Copied (w : World) (g n : Nat) (T U V : Nat → Tm) (bt bu bv : Nat → List Int) (G1 G2 G3 : Nat → Nat) : Prop where
  row : ∀ i, i < n → Row12 w g (i * 12) ((T i).own (G1 i)) ((U i).own (G2 i)) ((V i).own (G3 i))
  t1 : ∀ i, i < n → OwnT w (G1 i) (T i).len (bt i)
  t2 : ∀ i, i < n → OwnT w (G2 i) (U i).len (bu i)
  t3 : ∀ i, i < n → OwnT w (G3 i) (V i).len (bv i)
  g1 : ∀ i, i < n → g < G1 i
  g2 : ∀ i, i < n → g < G2 i
  g3 : ∀ i, i < n → g < G3 i
  wr : Wr w g (n * 12)
theorem Copied.b1 {w : World} {g n : Nat} {T U V : Nat → Tm} {bt bu bv : Nat → List Int} {G1 G2 G3 : Nat → Nat} (h : Copied w g n T U V bt bu bv G1 G2 G3) : ∀ i, i < n → Bs w (some ⟨G1 i, 0, none⟩) (T i).len (bt i) := fun i hi => (h.t1 i hi).1
theorem Copied.b2 {w : World} {g n : Nat} {T U V : Nat → Tm} {bt bu bv : Nat → List Int} {G1 G2 G3 : Nat → Nat} (h : Copied w g n T U V bt bu bv G1 G2 G3) : ∀ i, i < n → Bs w (some ⟨G2 i, 0, none⟩) (U i).len (bu i) := fun i hi => (h.t2 i hi).1
theorem Copied.b3 {w : World} {g n : Nat} {T U V : Nat → Tm} {bt bu bv : Nat → List Int} {G1 G2 G3 : Nat → Nat} (h : Copied w g n T U V bt bu bv G1 G2 G3) : ∀ i, i < n → Bs w (some ⟨G3 i, 0, none⟩) (V i).len (bv i) := fun i hi => (h.t3 i hi).1
theorem Copied.below {w w' : World} {g n : Nat} {T U V : Nat → Tm} {bt bu bv : Nat → List Int} {G1 G2 G3 : Nat → Nat} (h : Copied w g n T U V bt bu bv G1 G2 G3) (hg : g < w.heap.size) (hb : Below w.heap.size w w') : Copied w' g n T U V bt bu bv G1 G2 G3 :=
  ⟨fun i hi => (h.row i hi).of_block (hb.block g hg), fun i hi => (h.t1 i hi).below hb, fun i hi => (h.t2 i hi).below hb, fun i hi => (h.t3 i hi).below hb, h.g1, h.g2, h.g3, h.wr.below hg hb⟩
end Go.Proofs.YtoclingolfdfeaaGreatDoor

/- GraE -/
namespace Go.Proofs.YtoclingolfdfeaaGreatDoor
open Go.RowKit Go.Deep

theorem Copied.set {w : World} {g n c i : Nat} {x : Value} {T U V : Nat → Tm} {bt bu bv : Nat → List Int} {G1 G2 G3 : Nat → Nat} (h : Copied w g n T U V bt bu bv G1 G2 G3) (hc : c < g) : Copied (w.setCell ⟨c, i, none⟩ x) g n T U V bt bu bv G1 G2 G3 := by
  have hB : But c w (w.setCell ⟨c, i, none⟩ x) := (But.refl c w).set i x
  exact ⟨fun j hj => (h.row j hj).of_block (hB.block g (by omega)), fun j hj => (h.t1 j hj).but hB (by have := h.g1 j hj; omega), fun j hj => (h.t2 j hj).but hB (by have := h.g2 j hj; omega), fun j hj => (h.t3 j hj).but hB (by have := h.g3 j hj; omega), h.g1, h.g2, h.g3, fun j hj => by rw [hB.frozen (p := ⟨g, j, none⟩) (by show g ≠ c; omega)]; exact h.wr j hj⟩
theorem eqGraph_like (a a' : Option Addr) (n cap cap' : Nat) (T U V T' U' V' : Nat → Tm) (bt bu bv : Nat → List Int) (w : World) (hn : n ≤ 1048576)
    (hR : Rows w a n T U V) (hR' : Rows w a' n T' U' V') (h1 : Texts w n T bt) (h2 : Texts w n U bu) (h3 : Texts w n V bv) (h1' : Texts w n T' bt) (h2' : Texts w n U' bu) (h3' : Texts w n V' bv)
    (l1 : ∀ i, i < n → (T i).like (T' i)) (l2 : ∀ i, i < n → (U i).like (U' i)) (l3 : ∀ i, i < n → (V i).like (V' i)) :
    Calls Tryz.prog 22 #[.agg #[.slice a n cap], .agg #[.slice a' n cap']] w fun e w' => e = .returned (.bool true) ∧ Below w.heap.size w w' := by
  have E := fun (w' : World) (hq : Below w.heap.size w w') => eqTripleS_like a a' n cap cap' T U V T' U' V' bt bu bv w' hn (hR.below hq) (hR'.below hq) (h1.below hq) (h2.below hq) (h3.below hq) (h1'.below hq) (h2'.below hq) (h3'.below hq) l1 l2 l3
  clear h1 h2 h3 h1' h2' h3' hR hR' l1 l2 l3
  go_enter Tryz.func22, Tryz.ntmps22
  go_wp2_with fail
  refine (E _ (bl_alloc (bl_a _) _)).mono ?_
  rintro e w1 ⟨rfl, hb1⟩
  go_wp2
  go_ret
  exact ⟨rfl, bl_trans (bl_alloc (bl_a _) _) hb1⟩
end Go.Proofs.YtoclingolfdfeaaGreatDoor

/- GtxD -/
namespace Go.Proofs.YtoclingolfdfeaaGreatDoor
open Go.RowKit Go.Deep
set_option maxRecDepth 100000

/-- There lies a byte. -/
def U8 (w : World) (b j : Nat) : Prop := ∃ v, w.cell? ⟨b, j, none⟩ = some (.int .u8 v)
/-- Bytes stay bytes, and what may be written may be. -/
structure U8K (w w' : World) : Prop where
  u : ∀ b j, U8 w b j → U8 w' b j
  f : ∀ p, w'.frozen? p = w.frozen? p
theorem U8K.refl (w : World) : U8K w w := ⟨fun _ _ h => h, fun _ => rfl⟩
theorem U8K.trans {w w' w'' : World} (h : U8K w w') (k : U8K w' w'') : U8K w w'' := ⟨fun b j q => k.u b j (h.u b j q), fun p => (k.f p).trans (h.f p)⟩
theorem cell_set_other {w : World} {g i b j : Nat} {v : Value} (h : b ≠ g ∨ j ≠ i) : (w.setCell ⟨g, i, none⟩ v).cell? ⟨b, j, none⟩ = w.cell? ⟨b, j, none⟩ := by
  by_cases hb : b = g
  · subst hb
    exact set_other (h.resolve_left (fun k => k rfl))
  · exact World.cell?_of_block (Below.heap_setCell _ _ _ _ (by exact hb))

/-- What lies below B or from C on is as it was. -/
structure Mid (B C : Nat) (w w' : World) : Prop where
  os : w'.os = w.os
  tape : w'.tape = w.tape
  output : w'.output = w.output
  size : w'.heap.size = w.heap.size
  block : ∀ b, b < B ∨ C ≤ b → w'.heap[b]? = w.heap[b]?
theorem Mid.refl (B C : Nat) (w : World) : Mid B C w w := ⟨rfl, rfl, rfl, rfl, fun _ _ => rfl⟩
theorem Mid.but {B C g : Nat} {w w1 w2 : World} (h : Mid B C w w1) (k : But g w1 w2) (hB : B ≤ g) (hC : g < C) : Mid B C w w2 :=
  ⟨k.os.trans h.os, k.tape.trans h.tape, k.output.trans h.output, k.size.trans h.size, fun b hb => (k.block b (by omega)).trans (h.block b hb)⟩
theorem Mid.below {B C : Nat} {w w' : World} (h : Mid B C w w') : Below B w w' := ⟨h.os, h.tape, h.output, by rw [h.size]; exact Nat.le_refl _, fun b hb => h.block b (.inl hb)⟩

/-- A row of triples that may be marked. -/
structure Mk (w : World) (B C g n : Nat) (A1 A2 A3 l1 l2 l3 : Nat → Nat) : Prop where
  ex : Ex w g (n * 12)
  wr : Wr w g (n * 12)
  s1 : ∀ i, i < n → w.cell? ⟨g, i * 12 + 1, none⟩ = some (.slice (some ⟨A1 i, 0, none⟩) (l1 i) (l1 i))
  s2 : ∀ i, i < n → w.cell? ⟨g, i * 12 + 5, none⟩ = some (.slice (some ⟨A2 i, 0, none⟩) (l2 i) (l2 i))
  s3 : ∀ i, i < n → w.cell? ⟨g, i * 12 + 9, none⟩ = some (.slice (some ⟨A3 i, 0, none⟩) (l3 i) (l3 i))
  t1 : ∀ i, i < n → ∀ j, j < l1 i → U8 w (A1 i) j ∧ w.frozen? ⟨A1 i, j, none⟩ = false
  t2 : ∀ i, i < n → ∀ j, j < l2 i → U8 w (A2 i) j ∧ w.frozen? ⟨A2 i, j, none⟩ = false
  t3 : ∀ i, i < n → ∀ j, j < l3 i → U8 w (A3 i) j ∧ w.frozen? ⟨A3 i, j, none⟩ = false
  b1 : ∀ i, i < n → g < A1 i ∧ A1 i < C ∧ l1 i ≤ 1048576
  b2 : ∀ i, i < n → g < A2 i ∧ A2 i < C ∧ l2 i ≤ 1048576
  b3 : ∀ i, i < n → g < A3 i ∧ A3 i < C ∧ l3 i ≤ 1048576
  bg : B ≤ g ∧ g < C
theorem Mk.set {w : World} {B C g n i : Nat} {A1 A2 A3 l1 l2 l3 : Nat → Nat} (h : Mk w B C g n A1 A2 A3 l1 l2 l3) (v : Value) (hi : i % 4 ≠ 1) : Mk (w.setCell ⟨g, i, none⟩ v) B C g n A1 A2 A3 l1 l2 l3 := by
  refine ⟨h.ex.set, fun j hj => by rw [World.frozen?_setCell]; exact h.wr j hj, fun j hj => ?_, fun j hj => ?_, fun j hj => ?_, fun j hj q hq => ?_, fun j hj q hq => ?_, fun j hj q hq => ?_, h.b1, h.b2, h.b3, h.bg⟩
  · rw [cell_set_other (by omega)]; exact h.s1 j hj
  · rw [cell_set_other (by omega)]; exact h.s2 j hj
  · rw [cell_set_other (by omega)]; exact h.s3 j hj
  · unfold U8; rw [cell_set_other (by have := h.b1 j hj; omega), World.frozen?_setCell]; exact h.t1 j hj q hq
  · unfold U8; rw [cell_set_other (by have := h.b2 j hj; omega), World.frozen?_setCell]; exact h.t2 j hj q hq
  · unfold U8; rw [cell_set_other (by have := h.b3 j hj; omega), World.frozen?_setCell]; exact h.t3 j hj q hq
theorem Mk.mark {w w' : World} {B C g n c : Nat} {A1 A2 A3 l1 l2 l3 : Nat → Nat} (h : Mk w B C g n A1 A2 A3 l1 l2 l3) (hb : But c w w') (hu : U8K w w') (hc : g < c) : Mk w' B C g n A1 A2 A3 l1 l2 l3 := by
  have hg : g ≠ c := by omega
  have e : ∀ i, w'.cell? ⟨g, i, none⟩ = w.cell? ⟨g, i, none⟩ := fun i => hb.cell (p := ⟨g, i, none⟩) hg
  refine ⟨fun j hj => by rw [e]; exact h.ex j hj, fun j hj => by rw [hu.f]; exact h.wr j hj, fun j hj => by rw [e]; exact h.s1 j hj, fun j hj => by rw [e]; exact h.s2 j hj, fun j hj => by rw [e]; exact h.s3 j hj, fun j hj q hq => ?_, fun j hj q hq => ?_, fun j hj q hq => ?_, h.b1, h.b2, h.b3, h.bg⟩
  · rw [hu.f]; exact ⟨hu.u _ _ (h.t1 j hj q hq).1, (h.t1 j hj q hq).2⟩
  · rw [hu.f]; exact ⟨hu.u _ _ (h.t2 j hj q hq).1, (h.t2 j hj q hq).2⟩
  · rw [hu.f]; exact ⟨hu.u _ _ (h.t3 j hj q hq).1, (h.t3 j hj q hq).2⟩
theorem Mid.set {B C g i : Nat} {w w1 : World} {v : Value} (h : Mid B C w w1) (hB : B ≤ g) (hC : g < C) : Mid B C w (w1.setCell ⟨g, i, none⟩ v) := h.but ((But.refl g w1).set i v) hB hC

end Go.Proofs.YtoclingolfdfeaaGreatDoor

/- GraR -/
namespace Go.Proofs.YtoclingolfdfeaaGreatDoor
open Go.RowKit Go.Deep
set_option maxRecDepth 100000

def G10 : G1 := ⟨Tm0, Tm0, Tm0, [], [], []⟩
def gA (r : List G1) (i : Nat) : G1 := r[i]?.getD G10
theorem gA_at {r : List G1} {i : Nat} (h : i < r.length) : gA r i = r[i] := by
  unfold gA
  rw [List.getElem?_eq_getElem h]
  rfl
theorem rows_gA {w : World} {B : Nat} {a : Option Addr} {cap : Nat} {r : List G1} (h : OwnG w B (.slice a r.length cap) r) : Rows w a r.length (fun i => (gA r i).t) (fun i => (gA r i).u) (fun i => (gA r i).v) := by
  rcases h.form with ⟨e, h0⟩ | ⟨g, c', e, _, hlt, _, h3⟩
  · subst h0
    exact .inl rfl
  · simp only [Value.slice.injEq] at e
    refine .inr ⟨g, 0, e.1, hlt, fun i hi => ?_⟩
    have hc := flatG_cells (l := r) (w := w) (g := g) (off := 0) (fun j u hu => by rw [Nat.zero_add]; exact h3 j u hu) (List.getElem?_eq_getElem hi)
    simp only [gA_at hi]
    exact ⟨⟨hc 0 _ rfl, hc 1 _ rfl, hc 2 _ rfl, hc 3 _ rfl⟩, ⟨hc 4 _ rfl, hc 5 _ rfl, hc 6 _ rfl, hc 7 _ rfl⟩, ⟨hc 8 _ rfl, hc 9 _ rfl, hc 10 _ rfl, hc 11 _ rfl⟩⟩
end Go.Proofs.YtoclingolfdfeaaGreatDoor
