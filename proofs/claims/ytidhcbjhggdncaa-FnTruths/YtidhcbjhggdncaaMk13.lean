/- Texts put together: ReQ VrA VrB VrC VrD TrvB TvN -/
import Derived.Test.YtidhcbjhggdncaaMk12
import Derived.Test.YtidhcbjhggdncaaMk06
import Derived.Test.YtidhcbjhggdncaaMk05
import Derived.Test.YtidhcbjhggdncaaMk08
import Derived.Lib.SliceRun
/- ReQ -/
namespace Go.Proofs.Ytidhcbjhggdncaa
open Go.RowKit Go.Deep
set_option maxRecDepth 100000

/-- A text of the call's own that may be appended to. -/
def Tz (w : World) (B : Nat) (a : Option Addr) (len cap : Nat) (bs : List Int) : Prop :=
  Bs w a len bs ∧ ((a = none ∧ len = 0 ∧ cap = 0) ∨ ∃ g, a = some ⟨g, 0, none⟩ ∧ B ≤ g ∧ g < w.heap.size ∧ len ≤ cap ∧ ∀ j, j < cap → (w.cell? ⟨g, j, none⟩).isSome = true ∧ w.frozen? ⟨g, j, none⟩ = false)
theorem Tz.below {w w' : World} {B : Nat} {a : Option Addr} {len cap : Nat} {bs : List Int} (h : Tz w B a len cap bs) (hb : Below w.heap.size w w') : Tz w' B a len cap bs := by
  refine ⟨h.1.below hb, ?_⟩
  rcases h.2 with h2 | ⟨g, ha, hB, hg, hl, hc⟩
  · exact .inl h2
  · refine .inr ⟨g, ha, hB, Nat.lt_of_lt_of_le hg hb.size, hl, fun j hj => ?_⟩
    rw [hb.cell (p := ⟨g, j, none⟩) hg, hb.frozen (p := ⟨g, j, none⟩) hg]
    exact hc j hj
theorem Tz.mono {w : World} {B B' : Nat} {a : Option Addr} {len cap : Nat} {bs : List Int} (h : Tz w B a len cap bs) (hB : B' ≤ B) : Tz w B' a len cap bs := by
  refine ⟨h.1, h.2.imp id ?_⟩
  rintro ⟨g, ha, hB', r⟩
  exact ⟨g, ha, by omega, r⟩
theorem bs_keep {w w' : World} {a : Option Addr} {len : Nat} {bs : List Int} (h : Bs w a len bs) (hs : w.heap.size ≤ w'.heap.size) (hk : ∀ p, a = some p → w'.heap[p.block]? = w.heap[p.block]?) : Bs w' a len bs := by
  obtain ⟨h1, h2, h3, h4⟩ := h
  refine ⟨h1, h2, h3, ?_⟩
  rcases h4 with h4 | ⟨b, off, ha, hlt, hc⟩
  · exact .inl h4
  · refine .inr ⟨b, off, ha, Nat.lt_of_lt_of_le hlt hs, fun i hi => ?_⟩
    rw [World.cell?_of_block (w := w) (a := ⟨b, off + i, none⟩) (hk ⟨b, off, none⟩ ha)]
    exact hc i hi
theorem Tz.past {w w' : World} {B c : Nat} {a : Option Addr} {len cap : Nat} {bs : List Int} (h : Tz w B a len cap bs) (hp : Past c w w') (hc : c < B) : Tz w' B a len cap bs := by
  rcases h.2 with ⟨rfl, rfl, rfl⟩ | ⟨g, rfl, hB, hg, hl, hcs⟩
  · exact ⟨⟨h.1.1, h.1.2.1, h.1.2.2.1, .inl rfl⟩, .inl ⟨rfl, rfl, rfl⟩⟩
  · refine ⟨bs_keep h.1 hp.size (fun p hp' => ?_), .inr ⟨g, rfl, hB, Nat.lt_of_lt_of_le hg hp.size, hl, fun j hj => ?_⟩⟩
    · cases hp'
      exact hp.block g hg (by omega)
    · rw [hp.cell (p := ⟨g, j, none⟩) hg (by show g ≠ c; omega), hp.frozen (p := ⟨g, j, none⟩) hg (by show g ≠ c; omega)]
      exact hcs j hj
/-- append of bytes to such a text, its run known in both ways. -/
theorem wp_app8r {o : Oper} {a : Act} {K : Act → World → Prop} {Q : Exit → Act → World → Prop} {w : World} (s x : Operand) (tx : TypeId)
    (ho : o.op = .call { callee := .builtin .append, args := #[s, x], argTypes := #[22, tx] })
    (B n cap : Nat) (a0 : Option Addr) (us : List Int) (hs : a.eval s = .slice a0 n cap) (HT : Tz w B a0 n cap us)
    (xv : Value) (m : Nat) (bs : List Int) (hx : a.eval x = xv) (hml : bs.length = m) (h0 : a0 = none → 0 < m)
    (hrR : ∀ g, a0 = some ⟨g, 0, none⟩ → n + m ≤ cap → (Builtin.append_ #[22, tx] o.type #[.slice (some ⟨g, 0, none⟩) n cap, xv]).run Try.prog w = .ok (.slice (some ⟨g, 0, none⟩) (n + m) cap) (w.setCells g n (bs.map (Value.int .u8))))
    (hrG : cap < n + m → (Builtin.append_ #[22, tx] o.type #[.slice a0 n cap, xv]).run Try.prog w = .ok (.slice (some ⟨w.heap.size, 0, none⟩) (n + m) (grownCap w (n + m) cap 5)) (w.drew.alloc (.cells ((us.map (Value.int .u8) ++ bs.map (Value.int .u8)).toArray ++ Builtin.zeroCells (Value.int IntKind.u8 0).cells (grownCap w (n + m) cap 5 - (n + m))) 5)))
    (HY : Byt (us ++ bs)) (hle : n + m ≤ 1000000) (hB : B ≤ w.heap.size)
    (h : ∀ g' cap' w', Hid (Tz w' B (some ⟨g', 0, none⟩) (n + m) cap' (us ++ bs)) → Hid (Below B w w') → K (a.put o.dst (.slice (some ⟨g', 0, none⟩) (n + m) cap')) w') :
    Oper.wp Try.prog o a w K Q := by
  obtain ⟨hBs, hh⟩ := HT
  have hul : us.length = n := hBs.1
  by_cases hroom : n + m ≤ cap
  · rcases hh with ⟨e0, e1, e2⟩ | ⟨g, hg', hBg, hgl, hnc, hcells⟩
    · have := h0 e0
      omega
    subst hg'
    have hr := hrR g rfl hroom
    have hold : ∀ i, i < n → w.cell? ⟨g, i, none⟩ = some (.int .u8 (us[i]?.getD 0)) := fun i hi => by
      rcases hBs.2.2.2 with h0 | ⟨b, off, e, _, hc⟩
      · omega
      · cases e
        have := hc i hi
        rwa [Nat.zero_add] at this
    have hsome : ∀ j, j < (bs.map (Value.int .u8)).length → (w.cell? ⟨g, n + j, none⟩).isSome = true := fun j hj => by
      rw [List.length_map] at hj
      exact (hcells (n + j) (by omega)).1
    have hin := World.cell?_setCells_in g (bs.map (Value.int .u8)) n w hsome
    have hout := World.cell?_setCells_out g (bs.map (Value.int .u8)) n w
    have hfz := World.frozen?_setCells g (bs.map (Value.int .u8)) n w
    have hbl := below_setCells (B := B) hBg (bs.map (Value.int .u8)) n w (Below.refl B w)
    have hcell : ∀ i, i < n + m → (w.setCells g n (bs.map (Value.int .u8))).cell? ⟨g, i, none⟩ = some (.int .u8 ((us ++ bs)[i]?.getD 0)) := fun i hi => by
      by_cases hin' : i < n
      · rw [hout ⟨g, i, none⟩ (fun _ _ => .inl hin'), hold i hin', List.getElem?_append_left (by omega)]
      · obtain ⟨j, rfl⟩ : ∃ j, i = n + j := ⟨i - n, by omega⟩
        rw [hin j (by rw [List.length_map]; omega), List.getElem?_append_right (by omega), hul, Nat.add_sub_cancel_left, List.getElem?_eq_getElem (by omega)]
        simp
    unfold Oper.wp execOp
    simp only [ho, resolve, invoke, builtin, Sem.run_bind, Sem.run_pure, Result.andThen_ok, List.map_toArray, List.map_cons, List.map_nil, hs, hx, hr]
    refine (h g cap _ ⟨bs_of_cells (by rw [List.length_append]; omega) (by omega) HY (Nat.lt_of_lt_of_le hgl hbl.size) hcell, .inr ⟨g, rfl, hBg, Nat.lt_of_lt_of_le hgl hbl.size, hroom, fun j hj => ⟨?_, (hfz _).trans (hcells j hj).2⟩⟩⟩ hbl)
    by_cases hjm : j < n + m
    · rw [hcell j hjm]
      rfl
    · rw [hout ⟨g, j, none⟩ (fun _ _ => .inr (by rw [List.length_map]; show n + bs.length ≤ j; omega))]
      exact (hcells j hj).1
  · have hr := hrG (by omega)
    have hge := grownCap_ge w (n + m) cap 5
    unfold Oper.wp execOp
    simp only [ho, resolve, invoke, builtin, Sem.run_bind, Sem.run_pure, Result.andThen_ok, List.map_toArray, List.map_cons, List.map_nil, hs, hx, hr]
    obtain ⟨C, hC⟩ : ∃ C, grownCap w (n + m) cap 5 = C := ⟨_, rfl⟩
    rw [hC] at hge ⊢
    have hat : ∀ j, (w.drew.alloc (.cells ((us.map (Value.int .u8) ++ bs.map (Value.int .u8)).toArray ++ Builtin.zeroCells (Value.int IntKind.u8 0).cells (C - (n + m))) 5)).cell? ⟨w.heap.size, j, none⟩ = ((us.map (Value.int .u8) ++ bs.map (Value.int .u8)).toArray ++ Builtin.zeroCells (Value.int IntKind.u8 0).cells (C - (n + m)))[j]? := fun j => by
      simp [go_sem]
    have hbl : Below B w (w.drew.alloc (.cells ((us.map (Value.int .u8) ++ bs.map (Value.int .u8)).toArray ++ Builtin.zeroCells (Value.int IntKind.u8 0).cells (C - (n + m))) 5)) := (Below.drew (Below.refl B w)).alloc hB _
    have hcell : ∀ i, i < n + m → (w.drew.alloc (.cells ((us.map (Value.int .u8) ++ bs.map (Value.int .u8)).toArray ++ Builtin.zeroCells (Value.int IntKind.u8 0).cells (C - (n + m))) 5)).cell? ⟨w.heap.size, i, none⟩ = some (.int .u8 ((us ++ bs)[i]?.getD 0)) := fun i hi => by
      rw [hat, Array.getElem?_append_left (by simp; omega), ← List.map_append, List.getElem?_toArray, List.getElem?_map, List.getElem?_eq_getElem (by rw [List.length_append]; omega)]
      simp
    refine (h w.heap.size C _ ⟨bs_of_cells (by rw [List.length_append]; omega) (by omega) HY (by simp) hcell, .inr ⟨w.heap.size, rfl, hB, by simp, hge, fun j hj => ⟨?_, by simp [go_sem]⟩⟩⟩ hbl)
    rw [hat, Array.getElem?_eq_getElem (by simp [Builtin.zeroCells, Value.cells]; omega)]
    rfl
/-- The cells of such a text, behind a draw. -/
theorem tz_first {w : World} {B : Nat} {a0 : Option Addr} {n cap : Nat} {us : List Int} (h : Tz w B a0 n cap us) (z : Nat) (hz : z = 1) : (Builtin.firstCells z n (.slice a0 n cap)).run Try.prog w.drew = .ok (us.map (Value.int .u8)).toArray w.drew := by
  subst hz
  rcases h.2 with ⟨rfl, rfl, rfl⟩ | ⟨g, rfl, _⟩
  · have : us = [] := List.eq_nil_of_length_eq_zero h.1.1
    subst this
    exact run_firstCells_none w.drew 1 0 0 0
  · have hul := h.1.1
    refine run_firstCells_some w.drew 1 n ⟨g, 0, none⟩ n cap _ (by rw [List.length_map]; omega) fun j v hv => ?_
    have hj : j < n := by have := (List.getElem?_eq_some_iff.1 hv).1; simpa [hul] using this
    have e : w.drew.cell? ((⟨g, 0, none⟩ : Addr).add j) = w.cell? ⟨g, j, none⟩ := by
      rw [Addr.add_lit, Nat.zero_add]
      rfl
    rw [e]
    rcases h.1.2.2.2 with h0 | ⟨b, off, e, _, hc⟩
    · omega
    · cases e
      have hx := hc j hj
      rw [Nat.zero_add] at hx
      rw [hx]
      rw [List.getElem?_map, List.getElem?_eq_getElem (by omega)] at hv
      rw [List.getElem?_eq_getElem (by omega)]
      simpa using hv
/-- append of what a source yields. -/
theorem wp_app8z {o : Oper} {a : Act} {K : Act → World → Prop} {Q : Exit → Act → World → Prop} {w : World} (s x : Operand) (tx : TypeId)
    (ho : o.op = .call { callee := .builtin .append, args := #[s, x], argTypes := #[22, tx] })
    (B n cap : Nat) (a0 : Option Addr) (us : List Int) (hs : a.eval s = .slice a0 n cap) (HT : Hid (Tz w B a0 n cap us))
    (xv : Value) (m : Nat) (bs : List Int) (hx : a.eval x = xv) (h0 : a0 = none → 0 < m) (HS : Hid (Src Try.prog 1 tx xv m (bs.map (Value.int .u8)) w)) (HY : Hid (Byt (us ++ bs))) (N : Nat) (hN : n + m = N) (zs : List Int) (hz : us ++ bs = zs) (hle : N ≤ 1000000) (hB : B ≤ w.heap.size)
    (h : ∀ g' cap' w', Hid (Tz w' B (some ⟨g', 0, none⟩) N cap' zs) → Hid (Below B w w') → K (a.put o.dst (.slice (some ⟨g', 0, none⟩) N cap')) w') :
    Oper.wp Try.prog o a w K Q := by
  obtain ⟨i0, hi0, hzz⟩ := Option.map_eq_some_iff.1 Try.info5
  simp only [Prod.mk.injEq] at hzz
  obtain ⟨hi2, hi1, hi3⟩ := hzz
  subst hN hz
  have hsrc : Src Try.prog i0.size tx xv m (bs.map (Value.int .u8)) w := by rw [hi1]; exact HS.out
  have hml : bs.length = m := by have := HS.out.newsLen; simpa using this
  refine wp_app8r s x tx ho B n cap a0 us hs HT.out xv m bs hx hml h0 (fun g hg hroom => ?_) (fun hno => ?_) HY.out hle hB h
  · subst hg
    rcases HT.out.2 with ⟨e0, _⟩ | ⟨g', hg', hBg, hgl, hnc, hcells⟩
    · cases e0
    cases hg'
    have hr := run_append_room_src (P := Try.prog) w 22 tx o.type 5 i0 Try.underlying22 hi0 g 0 n cap xv m (bs.map (Value.int .u8)) hsrc hroom (fun j hj => by
      rw [List.length_map] at hj
      rw [hi1, Nat.zero_add, Nat.mul_one]
      exact (hcells (n + j) (by omega)).1) (fun j hj => by
      rw [List.length_map] at hj
      rw [hi1, Nat.zero_add, Nat.mul_one]
      exact (hcells (n + j) (by omega)).2)
    rwa [hi1, Nat.zero_add, Nat.mul_one] at hr
  · exact run_append_grow_src (P := Try.prog) w 22 tx o.type 5 i0 (.int .u8 0) Try.underlying22 hi0 hi2 a0 n cap (us.map (Value.int .u8)) (tz_first HT.out _ hi1) xv m (bs.map (Value.int .u8)) hsrc (by omega) (by omega) (growslice_fits (by omega) (by rw [hi3]; omega))
theorem list_app8z {ops : Array Oper} {rest : List Oper} {o : Oper} {a : Act} {Q : Exit → Act → World → Prop} {w : World} (hgd : o.guard = none) (s x : Operand) (tx : TypeId)
    (ho : o.op = .call { callee := .builtin .append, args := #[s, x], argTypes := #[22, tx] })
    (B n cap : Nat) (a0 : Option Addr) (us : List Int) (hs : a.eval s = .slice a0 n cap) (HT : Hid (Tz w B a0 n cap us))
    (xv : Value) (m : Nat) (bs : List Int) (hx : a.eval x = xv) (h0 : a0 = none → 0 < m) (HS : Hid (Src Try.prog 1 tx xv m (bs.map (Value.int .u8)) w)) (HY : Hid (Byt (us ++ bs))) (N : Nat) (hN : n + m = N) (zs : List Int) (hz : us ++ bs = zs) (hle : N ≤ 1000000) (hB : B ≤ w.heap.size)
    (h : ∀ g' cap' w', Hid (Tz w' B (some ⟨g', 0, none⟩) N cap' zs) → Hid (Below B w w') → wpList Try.prog ops Q rest (a.put o.dst (.slice (some ⟨g', 0, none⟩) N cap')) w') :
    wpList Try.prog ops Q (o :: rest) a w :=
  wpList_plain hgd fun _ hK => wp_app8z s x tx ho B n cap a0 us hs HT xv m bs hx h0 HS HY N hN zs hz hle hB fun g' cap' w' h1 h2 => hK _ _ (h g' cap' w' h1 h2)
/-- A text as what is appended, wherever it lies. -/
theorem src_bs {w : World} {a : Option Addr} {n c : Nat} {bs : List Int} (h : Bs w a n bs) : Src Try.prog 1 22 (.slice a n c) n (bs.map (Value.int .u8)) w := by
  cases a with
  | some p =>
    refine Src.ofSlice w Try.underlying22 p n c _ (by rw [List.length_map, h.1, Nat.mul_one]) (fun j u hu => ?_) (oneCell_map bs)
    have hj : j < n := by have := (List.getElem?_eq_some_iff.1 hu).1; simpa [h.1] using this
    rcases h.2.2.2 with h0 | ⟨b, off, e, _, hc⟩
    · omega
    · cases e
      have e2 : (⟨b, off, none⟩ : Addr).add j = ⟨b, off + j, none⟩ := Addr.add_lit _ _ _
      rw [e2, hc j hj]
      rw [List.getElem?_map] at hu
      have hjl : j < bs.length := by rw [h.1]; exact hj
      rw [List.getElem?_eq_getElem hjl] at hu ⊢
      simpa using hu
  | none =>
    have h0 : n = 0 := by
      rcases h.2.2.2 with h0 | ⟨b, off, e, _, hc⟩
      · exact h0
      · cases e
    subst h0
    have hb : bs = [] := List.eq_nil_of_length_eq_zero h.1
    subst hb
    exact Src.ofNil w Try.underlying22 c
end Go.Proofs.Ytidhcbjhggdncaa

/- VrA -/
namespace Go.Proofs.Ytidhcbjhggdncaa
open Go.RowKit Go.Deep
set_option maxRecDepth 100000

/-- A row of texts of the call's own: only the row. -/
structure RV (w : World) (B : Nat) (v : Value) (L : List SL) : Prop where
  own : w.ownsRow B 22 1 v L.length (L.map SL.v)
  lo : ∀ g, v.ownBlock = some g → B ≤ g ∧ g < w.heap.size
theorem RV.nil (w : World) (B : Nat) : RV w B (.slice none 0 0) [] := ⟨World.ownsRow_nil _ _ _ _, fun g h => (by cases h)⟩
theorem RV.keep {w w' : World} {B : Nat} {v : Value} {L : List SL} (h : RV w B v L) (hs : w.heap.size ≤ w'.heap.size) (hb : ∀ g, v.ownBlock = some g → w'.heap[g]? = w.heap[g]?) : RV w' B v L := by
  obtain ⟨⟨h1, h2⟩, hl⟩ := h
  refine ⟨⟨h1, ?_⟩, fun c hc => ⟨(hl c hc).1, Nat.lt_of_lt_of_le (hl c hc).2 hs⟩⟩
  rcases h2 with h2 | ⟨g', cap', cur, hv, hB, hh, r⟩
  · exact .inl h2
  · refine .inr ⟨g', cap', cur, hv, hB, ?_, r⟩
    rw [hb g' (by rw [hv]; rfl)]
    exact hh
theorem RV.below {w w' : World} {B : Nat} {v : Value} {L : List SL} (h : RV w B v L) (hb : Below w.heap.size w w') : RV w' B v L := h.keep hb.size fun g hg => hb.block g (h.lo g hg).2
theorem RV.form {w : World} {B : Nat} {v : Value} {L : List SL} (h : RV w B v L) : ∃ a cap, v = .slice a L.length cap ∧ (L = [] ∨ ∃ g, a = some ⟨g, 0, none⟩ ∧ B ≤ g ∧ g < w.heap.size ∧ ∀ i x, L[i]? = some x → w.cell? ⟨g, i, none⟩ = some (.slice x.a x.len x.cap)) := by
  rcases h.own.2 with ⟨hv, h0⟩ | ⟨g, cap, cur, hv, hB, hh, hle, _, hsz, htk⟩
  · have := List.eq_nil_of_length_eq_zero h0
    subst this
    exact ⟨none, 0, hv, .inl rfl⟩
  · refine ⟨some ⟨g, 0, none⟩, cap, hv, .inr ⟨g, rfl, hB, (h.lo g (by rw [hv]; rfl)).2, fun i x hx => ?_⟩⟩
    have hi := (List.getElem?_eq_some_iff.1 hx).1
    have hu : (L.map SL.v)[i]? = some (.slice x.a x.len x.cap) := by rw [List.getElem?_map, hx]; rfl
    rw [← htk, List.getElem?_take, if_pos (by omega)] at hu
    simp only [World.cell?, hh]
    simpa using hu
/-- A text of the call's own, beside the row v. -/
def TO1 (w : World) (B : Nat) (v : Value) (x : SL) : Prop := ∃ g, x.a = some ⟨g, 0, none⟩ ∧ v.ownBlock ≠ some g ∧ B ≤ g ∧ g < w.heap.size ∧ Tz w B x.a x.len x.cap x.b
end Go.Proofs.Ytidhcbjhggdncaa

/- VrB -/
namespace Go.Proofs.Ytidhcbjhggdncaa
open Go.RowKit Go.Deep
set_option maxRecDepth 100000

/-- Texts of the call's own, beside the row v, each in a block of its own. -/
structure TOs (w : World) (B : Nat) (v : Value) (L : List SL) : Prop where
  t : ∀ x ∈ L, TO1 w B v x
  d : L.Pairwise (fun x y => x.a ≠ y.a)
theorem TOs.nil (w : World) (B : Nat) (v : Value) : TOs w B v [] := ⟨fun x hx => (by cases hx), List.Pairwise.nil⟩
theorem Tz.keep {w w' : World} {B : Nat} {a : Option Addr} {len cap g : Nat} {bs : List Int} (h : Tz w B a len cap bs) (ha : a = some ⟨g, 0, none⟩) (hs : w.heap.size ≤ w'.heap.size) (hb : w'.heap[g]? = w.heap[g]?) : Tz w' B a len cap bs := by
  have ec : ∀ j, w'.cell? ⟨g, j, none⟩ = w.cell? ⟨g, j, none⟩ := fun j => World.cell?_of_block (w := w) (a := ⟨g, j, none⟩) hb
  have ef : ∀ j, w'.frozen? ⟨g, j, none⟩ = w.frozen? ⟨g, j, none⟩ := fun j => World.frozen?_of_block (w := w) (a := ⟨g, j, none⟩) hb
  obtain ⟨⟨h1, h2, h3, h4⟩, h5⟩ := h
  subst ha
  refine ⟨⟨h1, h2, h3, ?_⟩, ?_⟩
  · rcases h4 with h4 | ⟨b, off, e, hlt, hc⟩
    · exact .inl h4
    · cases e
      exact .inr ⟨g, 0, rfl, Nat.lt_of_lt_of_le hlt hs, fun i hi => (ec _).trans (hc i hi)⟩
  · rcases h5 with ⟨e, _⟩ | ⟨g', e, hB, hlt, hl, hc⟩
    · cases e
    · cases e
      exact .inr ⟨g, rfl, hB, Nat.lt_of_lt_of_le hlt hs, hl, fun j hj => by rw [ec, ef]; exact hc j hj⟩
theorem TO1.kp {w w' : World} {B : Nat} {v v' : Value} {x : SL} (h : TO1 w B v x) (k : Kp v w v' w') : TO1 w' B v' x := by
  obtain ⟨g, ha, hn, hB, hlt, ht⟩ := h
  refine ⟨g, ha, fun e => ?_, hB, Nat.lt_of_lt_of_le hlt k.size, ht.keep ha k.size (k.block g hlt hn)⟩
  rcases k.blk g e with h | h
  · exact hn h
  · omega
theorem TO1.below {w w' : World} {B C : Nat} {v : Value} {x : SL} (h : TO1 w B v x) (hb : Below C w w') (hC : w.heap.size ≤ C) : TO1 w' B v x := by
  obtain ⟨g, ha, hn, hB, hlt, ht⟩ := h
  exact ⟨g, ha, hn, hB, Nat.lt_of_lt_of_le hlt hb.size, ht.keep ha hb.size (hb.block g (by omega))⟩
end Go.Proofs.Ytidhcbjhggdncaa

/- VrC -/
namespace Go.Proofs.Ytidhcbjhggdncaa
open Go.RowKit Go.Deep
set_option maxRecDepth 100000

theorem one_cell {w : World} (v : Value) (t : TypeId) : ∀ j u, ([v] : List Value)[j]? = some u → (w.alloc (.cells #[v] t)).cell? ((⟨w.heap.size, 0, none⟩ : Addr).add j) = some u := by
  intro j u hu
  have hj : j = 0 := by
    have h := (List.getElem?_eq_some_iff.1 hu).1
    simp only [List.length_cons, List.length_nil] at h
    omega
  subst hj
  have hv : v = u := by simpa using hu
  subst hv
  simp [go_sem]
end Go.Proofs.Ytidhcbjhggdncaa

/- VrD -/
namespace Go.Proofs.Ytidhcbjhggdncaa
open Go.RowKit Go.Deep
set_option maxRecDepth 100000

theorem Tz.new0v (w : World) : Tz (w.alloc (.cells #[] 5)) w.heap.size (some ⟨w.heap.size, 0, none⟩) 0 0 [] :=
  ⟨⟨rfl, by omega, by simp, .inl rfl⟩, .inr ⟨_, rfl, Nat.le_refl _, by simp, Nat.le_refl _, fun j hj => by omega⟩⟩
end Go.Proofs.Ytidhcbjhggdncaa

/- TrvB -/
namespace Go.Proofs.Ytidhcbjhggdncaa
open Go.RowKit Go.Deep
set_option maxRecDepth 100000

/-- Within a function that adds to the list in the box g: its argument lies in a box of its own. -/
structure QS (w0 w : World) (B g : Nat) (v0 v : Value) (L : List SL) (cs : List Value) (W : World) : Prop where
  vq : VQ w0 W B g v L
  kq : KQ g v0 w v W
  bx : Box W w.heap.size cs
  ne : v.ownBlock ≠ some w.heap.size
  gw : g < w.heap.size
theorem QS.new {w0 w : World} {B g : Nat} {v : Value} {L : List SL} (h : VQ w0 w B g v L) (cs : Array Value) (t : TypeId) : QS w0 w B g v v L cs.toList (w.alloc (.cells cs t)) :=
  ⟨h.below (bl_a _), KQ.of_below (bl_a _), Box.new w cs t (0, 0), fun e => by have := (h.vl.lo _ e).2; omega, h.lt⟩
theorem QS.below {w0 w : World} {B g : Nat} {v0 v : Value} {L : List SL} {cs : List Value} {W W' : World} (h : QS w0 w B g v0 v L cs W) (hb : Below W.heap.size W W') : QS w0 w B g v0 v L cs W' :=
  ⟨h.vq.below hb, h.kq.trans (KQ.of_below hb), h.bx.below hb, h.ne, h.gw⟩
theorem QS.step {w0 w : World} {B g : Nat} {v0 v v' : Value} {L L' : List SL} {cs : List Value} {W W' : World} (h : QS w0 w B g v0 v L cs W) (hV : VQ w0 W' B g v' L') (hK : KQ g v W v' W') : QS w0 w B g v0 v' L' cs W' :=
  ⟨hV, h.kq.trans hK, hK.box h.bx (by have := h.gw; omega) h.ne, fun e => by
    rcases hK.blk _ e with e | e
    · exact h.ne e
    · have := h.bx.1
      omega, h.gw⟩
set_option maxHeartbeats 8000000 in
theorem addExpr_any (e : ET) : ∀ (v : Value) (L : List SL) (B g : Nat) (w0 w : World), e.lies 0 w0 → VQ w0 w B g v L → L.length + esz e ≤ 1000000 →
    Calls Try.prog 23 #[.pointer (some ⟨g, 0, none⟩), .agg #[.int .i64 e.d.k, .int .i64 e.d.op, .slice e.d.v.a e.d.v.len e.d.v.cap, .int .i64 e.d.t.t.k, .slice e.d.t.t.a e.d.t.t.len e.d.t.t.cap, .int .i64 e.d.t.t.n, .int .i64 e.d.t.t.s, .slice e.d.ka e.d.n e.d.kc]] w (AddQ w0 B g v (eV e (L.map SL.b)) w) := by
  induction e with
  | nil => exact fun _ _ _ _ _ _ h => False.elim h
  | mk d kid ih =>
    intro v L B g w0 w hl h hn
    show Calls Try.prog 23 #[.pointer (some ⟨g, 0, none⟩), .agg #[.int .i64 d.k, .int .i64 d.op, .slice d.v.a d.v.len d.v.cap, .int .i64 d.t.t.k, .slice d.t.t.a d.t.t.len d.t.t.cap, .int .i64 d.t.t.n, .int .i64 d.t.t.s, .slice d.ka d.n d.kc]] w (AddQ w0 B g v (eV (.mk d kid) (L.map SL.b)) w)
    obtain ⟨hv, _, _, hn20, hR, hk⟩ := hl
    have hsz : esz (.mk d kid) = 1 + sumN d.n (fun i => esz (kid i)) := rfl
    have HIH : Hid (∀ i, i < d.n → ∀ (v' : Value) (L' : List SL) (W : World), VQ w0 W B g v' L' → L'.length + esz (kid i) ≤ 1000000 → Calls Try.prog 23 #[.pointer (some ⟨g, 0, none⟩), .agg #[.int .i64 (kid i).d.k, .int .i64 (kid i).d.op, .slice (kid i).d.v.a (kid i).d.v.len (kid i).d.v.cap, .int .i64 (kid i).d.t.t.k, .slice (kid i).d.t.t.a (kid i).d.t.t.len (kid i).d.t.t.cap, .int .i64 (kid i).d.t.t.n, .int .i64 (kid i).d.t.t.s, .slice (kid i).d.ka (kid i).d.n (kid i).d.kc]] W (AddQ w0 B g v' (eV (kid i) (L'.map SL.b)) W)) := fun i hi v' L' W hV hL => ih i v' L' B g w0 W (hk i hi) hV hL
    have HQ0 : Hid (QS w0 w B g v v L [.int .i64 d.k, .int .i64 d.op, .slice d.v.a d.v.len d.v.cap, .int .i64 d.t.t.k, .slice d.t.t.a d.t.t.len d.t.t.cap, .int .i64 d.t.t.n, .int .i64 d.t.t.s, .slice d.ka d.n d.kc] (w.alloc (.cells #[.int .i64 d.k, .int .i64 d.op, .slice d.v.a d.v.len d.v.cap, .int .i64 d.t.t.k, .slice d.t.t.a d.t.t.len d.t.t.cap, .int .i64 d.t.t.n, .int .i64 d.t.t.s, .slice d.ka d.n d.kc] 29))) := QS.new h #[.int .i64 d.k, .int .i64 d.op, .slice d.v.a d.v.len d.v.cap, .int .i64 d.t.t.k, .slice d.t.t.a d.t.t.len d.t.t.cap, .int .i64 d.t.t.n, .int .i64 d.t.t.s, .slice d.ka d.n d.kc] 29
    have HVX : Hid (BsF 0 w0 d.v) := hv
    have HKR : Hid (KRow 0 w0 8 d.ka d.n (fun i => (kid i).d.cells)) := hR
    have HL1 : Hid (L.length ≤ 1000000) := (show L.length ≤ _ by omega)
    have HLK : Hid (∀ k, k < d.n → (foldN k (fun i acc => eV (kid i) acc) (addV (L.map SL.b) d.v.b)).length + esz (kid k) ≤ 1000000) := fun k hk => by
      have h1 := foldN_len (f := (fun i acc => eV (kid i) acc)) (c := fun i => esz (kid i)) (n := k) (fun i l _ => eV_len (kid i) l) (addV (L.map SL.b) d.v.b)
      have h2 := addV_len (L.map SL.b) d.v.b
      rw [List.length_map] at h2
      have h3 := sumN_mono (f := fun i => esz (kid i)) (show k + 1 ≤ d.n by omega)
      have h4 : sumN (k + 1) (fun i => esz (kid i)) = sumN k (fun i => esz (kid i)) + esz (kid k) := rfl
      omega
    clear h hv hR hk ih hn hsz
    go_enter Try.func23, Try.ntmps23
    go_wp2_with fail
    refine (add_any v L d.v B g w0 _ HQ0.out.vq HVX.out HL1.out).mono ?_
    rintro e z1 ⟨v1, L1, rfl, hV1, hR1, hK1⟩
    have HQ1 : Hid (QS w0 w B g v v1 L1 [.int .i64 d.k, .int .i64 d.op, .slice d.v.a d.v.len d.v.cap, .int .i64 d.t.t.k, .slice d.t.t.a d.t.t.len d.t.t.cap, .int .i64 d.t.t.n, .int .i64 d.t.t.s, .slice d.ka d.n d.kc] z1) := HQ0.out.step hV1 hK1
    have HR1 : Hid (L1.map SL.b = (addV (L.map SL.b) d.v.b)) := hR1
    have y7 : z1.cell? ⟨w.heap.size, 7, none⟩ = some (.slice d.ka d.n d.kc) := HQ1.out.bx.2 7 _ rfl
    clear hV1 hR1 hK1 HQ0
    obtain ⟨n, hnn⟩ : ∃ n, n = d.n := ⟨_, rfl⟩
    have HNN : Hid (n = d.n) := hnn
    rw [← hnn] at y7
    by_cases hn1 : n = 0
    · have HR0 : Hid (L1.map SL.b = eV (.mk d kid) (L.map SL.b)) := (show _ = foldN d.n (fun i acc => eV (kid i) acc) (addV (L.map SL.b) d.v.b) by rw [← hnn, hn1, HR1.out]; rfl)
      rw [hn1] at y7
      clear hn1 hnn
      go_wp2_with fail
      clear y7
      go_loopw [13] (fun i wr => i = .int .i64 0 ∧ Hid (QS w0 w B g v v1 L1 [.int .i64 d.k, .int .i64 d.op, .slice d.v.a d.v.len d.v.cap, .int .i64 d.t.t.k, .slice d.t.t.a d.t.t.len d.t.t.cap, .int .i64 d.t.t.n, .int .i64 d.t.t.s, .slice d.ka d.n d.kc] wr)) (fun _ _ => 0)
      case atStart => exact ⟨rfl, HQ1⟩
      case round =>
        obtain ⟨rfl, HQr⟩ := hrel
        go_wp2_with fail
        go_end0
        exact ⟨v1, L1, rfl, HQr.out.vq, HR0.out, HQr.out.kq⟩
    obtain ⟨b, off, eK, _, hbk, hck⟩ := HKR.out.resolve_left (by omega)
    have HCK : Hid (∀ i, i < d.n → ∀ c u, ((kid i).d.cells)[c]? = some u → w0.cell? ⟨b, off + i * 8 + c, none⟩ = some u) := hck
    have hbk' : b < w0.heap.size := hbk
    have hn2 : n ≤ 1048576 := by omega
    rw [eK] at y7
    clear eK hck hnn hbk HKR
    go_wp2_with fail
    clear y7
    go_loopw [13] (fun i wr => ∃ (k : Nat) (v' : Value) (L' : List SL), k ≤ n ∧ i = .int .i64 k ∧ Hid (L'.map SL.b = foldN k (fun i acc => eV (kid i) acc) (addV (L.map SL.b) d.v.b)) ∧ Hid (QS w0 w B g v v' L' [.int .i64 d.k, .int .i64 d.op, .slice d.v.a d.v.len d.v.cap, .int .i64 d.t.t.k, .slice d.t.t.a d.t.t.len d.t.t.cap, .int .i64 d.t.t.n, .int .i64 d.t.t.s, .slice d.ka d.n d.kc] wr)) (fun i _ => n - (intOf i).toNat)
    case atStart => exact ⟨0, v1, L1, Nat.zero_le _, rfl, HR1, HQ1⟩
    case round =>
      clear HQ1
      obtain ⟨k, v', L', hk, rfl, HRr, HQr⟩ := hrel
      by_cases hlk : k < n
      rotate_left
      · obtain rfl : k = n := by omega
        have hlkz : ¬ (k : Int) < (k : Int) := by omega
        have HR2 : Hid (L'.map SL.b = eV (.mk d kid) (L.map SL.b)) := (show _ = foldN d.n (fun i acc => eV (kid i) acc) (addV (L.map SL.b) d.v.b) by rw [← HNN.out]; exact HRr.out)
        go_wp2_with fail
        go_end0
        exact ⟨v', L', rfl, HQr.out.vq, HR2.out, HQr.out.kq⟩
      have hlkz : (k : Int) < (n : Int) := by omega
      have hcx : wr.rangeAt b (off + k * 8) [.int .i64 (kid k).d.k, .int .i64 (kid k).d.op, .slice (kid k).d.v.a (kid k).d.v.len (kid k).d.v.cap, .int .i64 (kid k).d.t.t.k, .slice (kid k).d.t.t.a (kid k).d.t.t.len (kid k).d.t.t.cap, .int .i64 (kid k).d.t.t.n, .int .i64 (kid k).d.t.t.s, .slice (kid k).d.ka (kid k).d.n (kid k).d.kc] := fun c u hu => (HQr.out.vq.bl.cell (p := ⟨b, off + k * 8 + c, none⟩) hbk').trans (HCK.out k (by rw [← HNN.out]; exact hlk) c u hu)
      have HLl : Hid (L'.length + esz (kid k) ≤ 1000000) := (show _ ≤ 1000000 by have h1 := HLK.out k (by rw [← HNN.out]; exact hlk); have h2 := congrArg List.length HRr.out; rw [List.length_map] at h2; omega)
      go_wp2_with (with_reducible refine wpl_at ?_; refine wpList_load_mid rfl 29 _ rfl _ _ rfl [.int .i64 (kid k).d.k, .int .i64 (kid k).d.op, .slice (kid k).d.v.a (kid k).d.v.len (kid k).d.v.cap, .int .i64 (kid k).d.t.t.k, .slice (kid k).d.t.t.a (kid k).d.t.t.len (kid k).d.t.t.cap, .int .i64 (kid k).d.t.t.n, .int .i64 (kid k).d.t.t.s, .slice (kid k).d.ka (kid k).d.n (kid k).d.kc] _ hcx Try.underlying29 rfl (by kernel_rfl) ?_; try simp only [Act.put, List.setIfInBounds_toArray, List.set_cons_zero, List.set_cons_succ])
      refine (HIH.out k (by rw [← HNN.out]; exact hlk) v' L' _ (HQr.out.vq.below (bl_a _)) HLl.out).mono ?_
      rintro e z5 ⟨v5, L5, rfl, hV5, hR5, hK5⟩
      have HQ5 : Hid (QS w0 w B g v v5 L5 [.int .i64 d.k, .int .i64 d.op, .slice d.v.a d.v.len d.v.cap, .int .i64 d.t.t.k, .slice d.t.t.a d.t.t.len d.t.t.cap, .int .i64 d.t.t.n, .int .i64 d.t.t.s, .slice d.ka d.n d.kc] z5) := (HQr.out.below (bl_a _)).step hV5 hK5
      have HR5 : Hid (L5.map SL.b = foldN (k + 1) (fun i acc => eV (kid i) acc) (addV (L.map SL.b) d.v.b)) := (show _ = eV (kid k) (foldN k (fun i acc => eV (kid i) acc) (addV (L.map SL.b) d.v.b)) by rw [hR5, HRr.out])
      clear hV5 hR5 hK5 hcx HQr
      go_wp2_with fail
      go_roundw
      case rel => exact ⟨k + 1, v5, L5, by omega, by go_num, HR5, HQ5⟩
      case measure => simp [intOf]; omega
end Go.Proofs.Ytidhcbjhggdncaa

/- TvN -/
namespace Go.Proofs.Ytidhcbjhggdncaa
open Go.RowKit Go.Deep
set_option maxRecDepth 100000

set_option maxHeartbeats 4000000 in
theorem clone_all (x : SL) (w : World) (hx : BsF 0 w x) (hl : x.len ≤ 1000000) :
    Calls Try.prog 39 #[.slice x.a x.len x.cap] w fun e w' => ∃ y : SL, e = .returned (.slice y.a y.len y.cap) ∧ BsF w.heap.size w' y ∧ y.b = x.b ∧ Below w.heap.size w w' := by
  have hq : ∀ (w : World) (a : Option Addr) (n c n' c' : Nat), (binOp .eql 22 (.slice a n c) (.slice none n' c')).run Try.prog w = .ok (.bool a.isNone) w := fun w a n c n' c' => Lib.run_eql_slice_nil w _ _ a n c n' c' Try.underlying22
  cases ha : x.a with
  | none =>
    have h0 : x.len = 0 := by
      rcases hx.1.2.2.2 with h | ⟨b, off, e, _⟩
      · exact h
      · rw [ha] at e; cases e
    have hb : Hid (x.b = []) := List.eq_nil_of_length_eq_zero (by rw [hx.1.1, h0])
    clear hx ha h0 hl
    go_in
    go_wp2
    go_ret
    refine ⟨⟨none, 0, 0, []⟩, rfl, ⟨⟨rfl, Nat.zero_le _, fun i => ?_, .inl rfl⟩, .inl rfl⟩, hb.out.symm, Below.refl _ _⟩
    show 0 ≤ ([] : List Int)[i]?.getD 0 ∧ ([] : List Int)[i]?.getD 0 ≤ 255
    simp
  | some ad =>
    have HBX := hid (BsF.upper hx (Upper.of_below (bl_a (.cells #[] 5))))
    have HBS : Hid (Bs (w.alloc (.cells #[] 5)) (some ad) x.len x.b) := (show Bs _ _ _ _ by have h := HBX.out.1; rwa [ha] at h)
    have HTX := hid (Tz.new0v w)
    have HSX : Hid (Src Try.prog 1 22 (.slice (some ad) x.len x.cap) x.len (x.b.map (Value.int .u8)) (w.alloc (.cells #[] 5))) := src_bs HBS.out
    have HYX : Hid (Byt ([] ++ x.b)) := Byt.of HBS.out.2.2.1
    have hBX : w.heap.size ≤ (w.alloc (.cells #[] 5)).heap.size := by simp
    clear hx ha
    go_in
    go_wp2_with (refine list_app8z rfl (.tmp 5) (.tmp 6) 22 rfl w.heap.size 0 0 (some ⟨w.heap.size, 0, none⟩) [] rfl HTX (.slice (some ad) x.len x.cap) x.len x.b rfl (fun h => by cases h) HSX HYX x.len (Nat.zero_add _) x.b (List.nil_append _) (by omega) hBX ?_; intro g4 c4 w4 HT4 HD4)
    go_ret
    exact ⟨⟨some ⟨g4, 0, none⟩, x.len, c4, x.b⟩, rfl, ⟨HT4.out.1, .inr fun p hp => by rcases HT4.out.2 with ⟨e, _⟩ | ⟨g', e, hg', _⟩ <;> cases e <;> cases hp; exact hg'⟩, rfl, (bl_a (w := w) (.cells #[] 5)).trans HD4.out⟩
/-- A term that lies anywhere. -/
def TLies (w : World) (t : TB) : Prop := BsF 0 w t.sl ∧ t.t.fits
theorem TLies.below {w w' : World} {t : TB} (h : TLies w t) (hb : Below w.heap.size w w') : TLies w' t := ⟨h.1.upper (Upper.of_below hb), h.2⟩
set_option maxHeartbeats 4000000 in
theorem copied_any (t : TB) (w : World) (h : TLies w t) (hl : t.t.len ≤ 1000000) : Calls Try.prog 14 #[.agg #[.int .i64 t.t.k, .slice t.t.a t.t.len t.t.cap, .int .i64 t.t.n, .int .i64 t.t.s]] w fun e w' => ∃ u : TB, e = .returned (.agg #[.int .i64 u.t.k, .slice u.t.a u.t.len u.t.cap, .int .i64 u.t.n, .int .i64 u.t.s]) ∧ BsF w.heap.size w' u.sl ∧ u.t.fits ∧ u.td = t.td ∧ Below w.heap.size w w' := by
  have HC := hid (fun W (hb : Below w.heap.size w W) => clone_all t.sl W (h.1.upper (Upper.of_below hb)) hl)
  have HX := hid ((Box.new w #[.int .i64 t.t.k, .slice t.t.a t.t.len t.t.cap, .int .i64 t.t.n, .int .i64 t.t.s] 24 (0, 0)).below (bl_a (.cells #[.int .i64 0, .slice none 0 0, .int .i64 0, .int .i64 0] 24)))
  have HO : Hid (OB ((w.alloc (.cells #[.int .i64 t.t.k, .slice t.t.a t.t.len t.t.cap, .int .i64 t.t.n, .int .i64 t.t.s] 24)).alloc (.cells #[.int .i64 0, .slice none 0 0, .int .i64 0, .int .i64 0] 24)) (w.heap.size + 1) [.int .i64 0, .slice none 0 0, .int .i64 0, .int .i64 0]) := (show OB _ _ _ by have h := OB.new (w.alloc (.cells #[.int .i64 t.t.k, .slice t.t.a t.t.len t.t.cap, .int .i64 t.t.n, .int .i64 t.t.s] 24)) #[.int .i64 0, .slice none 0 0, .int .i64 0, .int .i64 0] 24; simpa using h)
  have HB : Hid (Below w.heap.size w ((w.alloc (.cells #[.int .i64 t.t.k, .slice t.t.a t.t.len t.t.cap, .int .i64 t.t.n, .int .i64 t.t.s] 24)).alloc (.cells #[.int .i64 0, .slice none 0 0, .int .i64 0, .int .i64 0] 24))) := bl_alloc (bl_a _) _
  have HF := hid h.2
  clear h hl
  go_in
  go_upto_region 1 with fail
  generalize ((w.alloc _).alloc _) = W1 at *
  go_wp2_with fail
  refine wqd (fun w' => Below w.heap.size w w' ∧ Box w' w.heap.size [.int .i64 t.t.k, .slice t.t.a t.t.len t.t.cap, .int .i64 t.t.n, .int .i64 t.t.s]) ?_ fun hHeld => ?_
  · exact ⟨Below.drew HB.out, HX.out.below (Below.drew (Below.refl _ _))⟩
  refine tqB 0 3 ?_
  refine tqB 1 4 (v := .int .i64 t.t.k) (hy := by intro w' hSw; have c0 := hSw.2.2 0 _ rfl; go_simp; (try with_reducible rfl)) ?_
  refine tqB 2 5 ?_
  refine tqB 3 6 (v := .slice t.t.a t.t.len t.t.cap) (hy := by intro w' hSw; have c0 := hSw.2.2 1 _ rfl; go_simp; (try with_reducible rfl)) ?_
  refine tqB 5 8 ?_
  refine tqB 6 9 (v := .int .i64 t.t.n) (hy := by intro w' hSw; have c0 := hSw.2.2 2 _ rfl; go_simp; (try with_reducible rfl)) ?_
  refine tqB 7 10 ?_
  refine tqB 8 11 (v := .int .i64 t.t.s) (hy := by intro w' hSw; have c0 := hSw.2.2 3 _ rfl; go_simp; (try with_reducible rfl)) ?_
  refine rqA 4 fun K hK => ?_
  go_simp
  refine (HC.out _ hHeld.1).mono ?_
  rintro r w2 ⟨y, rfl, hy, hyb, hb2⟩
  have HB2 := hid (bl_trans (Below.drew HB.out) hb2)
  have HX2 := hid ((HX.out.below (Below.drew (Below.refl _ _))).below hb2)
  have HO2 := hid ((HO.out.below (Below.drew (Below.refl _ _))).below hb2)
  have HY := hid hy
  have HYB := hid hyb
  have HG2 : Hid (w.heap.size + 1 < W1.drew.heap.size) := (HO.out.below (Below.drew (Below.refl _ _))).1
  have HBW := hid hb2
  clear hy hyb hb2 hHeld HB HX HO
  go_wp2_with fail
  refine hK.out _ _ ?_ (fun hHeld => ?_)
  · exact ⟨HB2.out, HX2.out⟩
  clear hK K
  try simp only [Act.put, List.setIfInBounds_toArray, List.set_cons_zero, List.set_cons_succ]
  obtain ⟨u, hu⟩ : ∃ u : TB, u = ⟨⟨t.t.k, y.a, y.len, y.cap, t.t.n, t.t.s⟩, y.b⟩ := ⟨_, rfl⟩
  have HU := hid hu
  refine tqB 9 12 (v := .agg #[.int .i64 t.t.k, .slice y.a y.len y.cap, .int .i64 t.t.n, .int .i64 t.t.s]) ?_
  have st : w2.there (w.heap.size + 1) 0 4 := HO2.out.there 0 4 (by simp)
  have on : (#[.int .i64 t.t.k, .slice y.a y.len y.cap, .int .i64 t.t.n, .int .i64 t.t.s] : Array Value).all (·.oneCell') = true := all_oneCell_toArray (cs := [.int .i64 t.t.k, .slice y.a y.len y.cap, .int .i64 t.t.n, .int .i64 t.t.s]) (by simp [Value.oneCell'])
  have hrd : (w2.setCells (w.heap.size + 1) 0 [.int .i64 t.t.k, .slice y.a y.len y.cap, .int .i64 t.t.n, .int .i64 t.t.s]).rangeAt (w.heap.size + 1) 0 [.int .i64 t.t.k, .slice y.a y.len y.cap, .int .i64 t.t.n, .int .i64 t.t.s] := World.rangeAt_setCells_same _ _ _ _ st
  have hbf := hid (below_sets (w0 := w) (w.heap.size + 1) (by omega) [.int .i64 t.t.k, .slice y.a y.len y.cap, .int .i64 t.t.n, .int .i64 t.t.s] 0 w2 HB2.out)
  have hxf := hid (HX2.out.upper (but_sets (w.heap.size + 1) [.int .i64 t.t.k, .slice y.a y.len y.cap, .int .i64 t.t.n, .int .i64 t.t.s] 0 w2) (by omega))
  have HYU := hid (((HY.out.upper ((upper_sets (w.heap.size + 1) [.int .i64 t.t.k, .slice y.a y.len y.cap, .int .i64 t.t.n, .int .i64 t.t.s] 0 w2).mono (by have := HG2.out; omega))).base (by have := HG2.out; omega) : BsF w.heap.size _ y))
  refine rqA 10 fun K hK => ?_
  refine step_storeV 24 (w.heap.size + 1) 0 #[.int .i64 t.t.k, .slice y.a y.len y.cap, .int .i64 t.t.n, .int .i64 t.t.s] st on ?_
  refine hK.out _ _ ?_ (fun hHeld => ?_)
  · exact ⟨hbf.out, hxf.out⟩
  clear hK K st on hHeld
  try simp only [Act.put]
  generalize w2.setCells (w.heap.size + 1) 0 [.int .i64 t.t.k, .slice y.a y.len y.cap, .int .i64 t.t.n, .int .i64 t.t.s] = W5 at *
  refine wpAnyH_done (by kernel_rfl) ?_ _
  go_wp2
  try simp only [Exit.inBlock, Exit.then]
  refine bodyPost_ret (v := .agg #[.int .i64 t.t.k, .slice y.a y.len y.cap, .int .i64 t.t.n, .int .i64 t.t.s]) ?hr rfl ?hp
  case hr => exact results_cell rfl rfl (run_loadVar_mid (P := Try.prog) _ (w.heap.size + 1) 0 24 [.int .i64 t.t.k, .slice y.a y.len y.cap, .int .i64 t.t.n, .int .i64 t.t.s] _ hrd Try.underlying24 rfl (by kernel_rfl))
  refine ⟨u, by rw [hu], ?_, by rw [hu]; exact HF.out, ?_, hbf.out⟩
  · rw [hu]
    exact HYU.out
  · rw [hu]
    show (⟨t.t.k, y.b, t.t.n, t.t.s⟩ : TD) = _
    rw [HYB.out]
    rfl
/-- An expression that may stand alone. -/
structure LoneOk (e : ET) : Prop where
  ok : eOk 120 e 1
  sz : esz e ≤ 480
  vn : (eV e []).length ≤ 8
set_option maxHeartbeats 4000000 in
theorem loneExpr_any (e : ET) (w : World) (h : e.lies 0 w) : Calls Try.prog 10 #[.agg #[.int .i64 e.d.k, .int .i64 e.d.op, .slice e.d.v.a e.d.v.len e.d.v.cap, .int .i64 e.d.t.t.k, .slice e.d.t.t.a e.d.t.t.len e.d.t.t.cap, .int .i64 e.d.t.t.n, .int .i64 e.d.t.t.s, .slice e.d.ka e.d.n e.d.kc]] w (Tells (LoneOk e) w) := by
  have HX : Hid (Box ((w.alloc (.cells #[.int .i64 e.d.k, .int .i64 e.d.op, .slice e.d.v.a e.d.v.len e.d.v.cap, .int .i64 e.d.t.t.k, .slice e.d.t.t.a e.d.t.t.len e.d.t.t.cap, .int .i64 e.d.t.t.n, .int .i64 e.d.t.t.s, .slice e.d.ka e.d.n e.d.kc] 29)).alloc (.cells #[.int .i64 480] 59)) w.heap.size [.int .i64 e.d.k, .int .i64 e.d.op, .slice e.d.v.a e.d.v.len e.d.v.cap, .int .i64 e.d.t.t.k, .slice e.d.t.t.a e.d.t.t.len e.d.t.t.cap, .int .i64 e.d.t.t.n, .int .i64 e.d.t.t.s, .slice e.d.ka e.d.n e.d.kc]) := (Box.new w #[.int .i64 e.d.k, .int .i64 e.d.op, .slice e.d.v.a e.d.v.len e.d.v.cap, .int .i64 e.d.t.t.k, .slice e.d.t.t.a e.d.t.t.len e.d.t.t.cap, .int .i64 e.d.t.t.n, .int .i64 e.d.t.t.s, .slice e.d.ka e.d.n e.d.kc] 29 (0, 0)).below (bl_a _)
  have HB : Hid (Below w.heap.size w ((w.alloc (.cells #[.int .i64 e.d.k, .int .i64 e.d.op, .slice e.d.v.a e.d.v.len e.d.v.cap, .int .i64 e.d.t.t.k, .slice e.d.t.t.a e.d.t.t.len e.d.t.t.cap, .int .i64 e.d.t.t.n, .int .i64 e.d.t.t.s, .slice e.d.ka e.d.n e.d.kc] 29)).alloc (.cells #[.int .i64 480] 59))) := bl_alloc (bl_a _) _
  have HC : Hid (Ctr ((w.alloc (.cells #[.int .i64 e.d.k, .int .i64 e.d.op, .slice e.d.v.a e.d.v.len e.d.v.cap, .int .i64 e.d.t.t.k, .slice e.d.t.t.a e.d.t.t.len e.d.t.t.cap, .int .i64 e.d.t.t.n, .int .i64 e.d.t.t.s, .slice e.d.ka e.d.n e.d.kc] 29)).alloc (.cells #[.int .i64 480] 59)) (w.heap.size + 1) 480) := ⟨by simp, by simp [go_sem], by simp [go_sem]⟩
  have HE : Hid (∀ W, Below w.heap.size w W → Ctr W (w.heap.size + 1) 480 → Calls Try.prog 22 #[.pointer (some ⟨w.heap.size + 1, 0, none⟩), .agg #[.int .i64 1, .int .i64 120, .int .i64 e.d.k, .int .i64 e.d.op, .slice e.d.v.a e.d.v.len e.d.v.cap, .int .i64 e.d.t.t.k, .slice e.d.t.t.a e.d.t.t.len e.d.t.t.cap, .int .i64 e.d.t.t.n, .int .i64 e.d.t.t.s, .slice e.d.ka e.d.n e.d.kc]] W (CtrAns (eOk 120 e 1) (esz e) (w.heap.size + 1) 480 W)) := fun W hb hc => exprOk_any e 1 120 480 (w.heap.size + 1) w W h hb (Nat.le_succ _) hc (by omega) (by omega) (by omega) (by omega) (by omega)
  have HA : Hid (esz e ≤ 480 → ∀ W g, VQ w W g g (.slice none 0 0) [] → Calls Try.prog 23 #[.pointer (some ⟨g, 0, none⟩), .agg #[.int .i64 e.d.k, .int .i64 e.d.op, .slice e.d.v.a e.d.v.len e.d.v.cap, .int .i64 e.d.t.t.k, .slice e.d.t.t.a e.d.t.t.len e.d.t.t.cap, .int .i64 e.d.t.t.n, .int .i64 e.d.t.t.s, .slice e.d.ka e.d.n e.d.kc]] W (AddQ w g g (.slice none 0 0) (eV e []) W)) := fun hz W g hV => addExpr_any e (.slice none 0 0) [] g g w W h hV (by simp only [List.length_nil]; omega)
  clear h
  go_in
  go_upto_region 2 with fail
  generalize ((w.alloc _).alloc _) = W1 at *
  have lx : W1.rangeAt w.heap.size 0 [.int .i64 e.d.k, .int .i64 e.d.op, .slice e.d.v.a e.d.v.len e.d.v.cap, .int .i64 e.d.t.t.k, .slice e.d.t.t.a e.d.t.t.len e.d.t.t.cap, .int .i64 e.d.t.t.n, .int .i64 e.d.t.t.s, .slice e.d.ka e.d.n e.d.kc] := HX.out.range 0 _ rfl
  go_wp2_with (with_reducible refine wpv_at ?_; refine wpList_load_mid rfl 29 _ rfl _ _ rfl [.int .i64 e.d.k, .int .i64 e.d.op, .slice e.d.v.a e.d.v.len e.d.v.cap, .int .i64 e.d.t.t.k, .slice e.d.t.t.a e.d.t.t.len e.d.t.t.cap, .int .i64 e.d.t.t.n, .int .i64 e.d.t.t.s, .slice e.d.ka e.d.n e.d.kc] _ lx Try.underlying29 rfl (by kernel_rfl) ?_; try simp only [Act.put, List.setIfInBounds_toArray, List.set_cons_zero, List.set_cons_succ])
  refine (HE.out _ HB.out HC.out).mono ?_
  rintro r w3 ⟨q3, L3, rfl, hq3, _, _, hp3⟩
  have HX3 := hid (HX.out.past hp3 (by omega))
  have HB3 := hid (HB.out.trans (hp3.below (Nat.le_succ _) HB.out.size))
  clear hp3 HX HB HC HE lx
  cases q3 with
  | false =>
    have HNO : Hid (¬ LoneOk e) := fun hh => by
      have h := hq3.2 ⟨hh.ok, by have := hh.sz; omega⟩
      cases h
    clear hq3
    go_wp2
    go_ret
    exact Tells.no HNO.out HB3.out
  | true =>
    have HOK := hid (hq3.1 rfl)
    clear hq3
    have HQ := hid (vq_fresh HB3.out 43)
    have HX4 := hid (HX3.out.below (bl_a (.cells #[.slice none 0 0] 43)))
    have HB4 := hid (bl_alloc HB3.out (.cells #[.slice none 0 0] 43))
    go_upto_region 5 with fail
    obtain ⟨g, hg⟩ : ∃ g, g = w3.heap.size := ⟨_, rfl⟩
    have hwg : w.heap.size ≤ g := by rw [hg]; exact HB3.out.size
    rw [← hg] at HQ ⊢
    generalize w3.alloc (.cells #[.slice none 0 0] 43) = W4 at *
    have lx : W4.rangeAt w.heap.size 0 [.int .i64 e.d.k, .int .i64 e.d.op, .slice e.d.v.a e.d.v.len e.d.v.cap, .int .i64 e.d.t.t.k, .slice e.d.t.t.a e.d.t.t.len e.d.t.t.cap, .int .i64 e.d.t.t.n, .int .i64 e.d.t.t.s, .slice e.d.ka e.d.n e.d.kc] := HX4.out.range 0 _ rfl
    clear hg HX3 HB3
    go_wp2_with (with_reducible refine wpv_at ?_; refine wpList_load_mid rfl 29 _ rfl _ _ rfl [.int .i64 e.d.k, .int .i64 e.d.op, .slice e.d.v.a e.d.v.len e.d.v.cap, .int .i64 e.d.t.t.k, .slice e.d.t.t.a e.d.t.t.len e.d.t.t.cap, .int .i64 e.d.t.t.n, .int .i64 e.d.t.t.s, .slice e.d.ka e.d.n e.d.kc] _ lx Try.underlying29 rfl (by kernel_rfl) ?_; try simp only [Act.put, List.setIfInBounds_toArray, List.set_cons_zero, List.set_cons_succ])
    refine (HA.out (by have := HOK.out.2; omega) W4 g HQ.out).mono ?_
    rintro r w5 ⟨v5, L5, rfl, hV5, hR5, hK5⟩
    have HB5 := hid (HB4.out.trans (hK5.low (fun c hc => (by cases hc)) hwg HB4.out.size))
    obtain ⟨va, vc, hva, _⟩ := hV5.vl.form
    have x5 := hV5.cell
    rw [hva] at x5
    obtain ⟨n, hn⟩ : ∃ n, n = L5.length := ⟨_, rfl⟩
    have HN : Hid (n = (eV e []).length) := (show _ = _ by rw [hn, ← hR5, List.length_map])
    rw [← hn] at x5
    clear hV5 hR5 hK5 lx HQ HX4 HA hva hn
    by_cases h8 : n ≤ 8
    · have z8 : (n : Int) ≤ 8 := by omega
      have HY : Hid (LoneOk e) := ⟨HOK.out.1, by have := HOK.out.2; omega, by rw [← HN.out]; exact h8⟩
      clear h8
      go_wp2
      go_ret
      exact Tells.yes HY.out HB5.out
    · have z8 : ¬ (n : Int) ≤ 8 := by omega
      have HNO : Hid (¬ LoneOk e) := fun hh => h8 (by rw [HN.out]; exact hh.vn)
      clear h8
      go_wp2
      go_ret
      exact ⟨_, rfl, ⟨fun h => absurd (of_decide_eq_true h) (by omega), fun h => absurd h HNO.out⟩, HB5.out⟩
end Go.Proofs.Ytidhcbjhggdncaa
