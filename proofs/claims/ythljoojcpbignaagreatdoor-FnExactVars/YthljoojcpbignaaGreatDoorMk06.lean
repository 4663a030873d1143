import Derived.Test.YthljoojcpbignaaGreatDoorMk05
import Derived.Lib.SliceRun
namespace Go.Proofs.YthljoojcpbignaaGreatDoor
open Go.RowKit Go.Deep
set_option maxHeartbeats 40000000
set_option maxRecDepth 100000
def Tz (w : World) (B : Nat) (a : Option Addr) (len cap : Nat) (bs : List Int) : Prop :=
 Bs w a len bs ∧ ((a = none ∧ len = 0 ∧ cap = 0) ∨ ∃ g, a = some ⟨g, 0, none⟩ ∧ B ≤ g ∧ g < w.heap.size ∧ len ≤ cap ∧ ∀ j, j < cap → (w.cell? ⟨g, j, none⟩).isSome = true ∧ w.frozen? ⟨g, j, none⟩ = false)
theorem wp_app8r {o : Oper} {a : Act} {K : Act → World → Prop} {Q : Exit → Act → World → Prop} {w : World} (s x : Operand) (tx : TypeId)
 (ho : o.op = .call { callee := .builtin .append, args := #[s, x], argTypes := #[42, tx] })
 (B n cap : Nat) (a0 : Option Addr) (us : List Int) (hs : a.eval s = .slice a0 n cap) (HT : Tz w B a0 n cap us)
 (xv : Value) (m : Nat) (bs : List Int) (hx : a.eval x = xv) (hml : bs.length = m) (h0 : a0 = none → 0 < m)
 (hrR : ∀ g, a0 = some ⟨g, 0, none⟩ → n + m ≤ cap → (Builtin.append_ #[42, tx] o.type #[.slice (some ⟨g, 0, none⟩) n cap, xv]).run Tryz.prog w = .ok (.slice (some ⟨g, 0, none⟩) (n + m) cap) (w.setCells g n (bs.map (Value.int .u8))))
 (hrG : cap < n + m → (Builtin.append_ #[42, tx] o.type #[.slice a0 n cap, xv]).run Tryz.prog w = .ok (.slice (some ⟨w.heap.size, 0, none⟩) (n + m) (grownCap w (n + m) cap 5)) (w.drew.alloc (.cells ((us.map (Value.int .u8) ++ bs.map (Value.int .u8)).toArray ++ Builtin.zeroCells (Value.int IntKind.u8 0).cells (grownCap w (n + m) cap 5 - (n + m))) 5)))
 (HY : Byt (us ++ bs)) (hle : n + m ≤ 1000000) (hB : B ≤ w.heap.size)
 (h : ∀ g' cap' w', Hd (Tz w' B (some ⟨g', 0, none⟩) (n + m) cap' (us ++ bs)) → Hd (Below B w w') → K (a.put o.dst (.slice (some ⟨g', 0, none⟩) (n + m) cap')) w') :
 Oper.wp Tryz.prog o a w K Q := by
 obtain ⟨hBs, hh⟩ := HT
 have hul : us.length = n := hBs.1
 by_cases hroom : n + m ≤ cap
 · rcases hh with ⟨e0, e1, e2⟩ | ⟨g, hg', hBg, hgl, hnc, hcells⟩
   · have := h0 e0
     omega
   subst hg'
   have hr := hrR g rfl hroom
   have hold : ∀ i, i < n → w.cell? ⟨g, i, none⟩ = some (.int .u8 (us[i]?.getD 0)) := fun i hi => by
    rcases hBs.2.2.2 with h0 | ⟨b, off, e, _, hc⟩
    · omega
    cases e
    have := hc i hi
    rwa [Nat.zero_add] at this
   have hsome : ∀ j, j < (bs.map (Value.int .u8)).length → (w.cell? ⟨g, n + j, none⟩).isSome = true := fun j hj => by
    rw [List.length_map] at hj
    exact (hcells (n + j) (by omega)).1
   have hin := World.cell?_setCells_in g (bs.map (Value.int .u8)) n w hsome
   have hout := World.cell?_setCells_out g (bs.map (Value.int .u8)) n w
   have hfz := World.frozen?_setCells g (bs.map (Value.int .u8)) n w
   have hbl := below_setCells (B := B) hBg (bs.map (Value.int .u8)) n w (Below.refl B w)
   have hcell : ∀ i, i < n + m → (w.setCells g n (bs.map (Value.int .u8))).cell? ⟨g, i, none⟩ = some (.int .u8 ((us ++ bs)[i]?.getD 0)) := fun i hi => by
    by_cases hin' : i < n
    · rw [hout ⟨g, i, none⟩ (fun _ _ => .inl hin'), hold i hin', List.getElem?_append_left (by omega)]
    obtain ⟨j, rfl⟩ : ∃ j, i = n + j := ⟨i - n, by omega⟩
    rw [hin j (by rw [List.length_map]; omega), List.getElem?_append_right (by omega), hul, Nat.add_sub_cancel_left, List.getElem?_eq_getElem (by omega)]
    simp
   unfold Oper.wp execOp
   simp only [ho, resolve, invoke, builtin, Sem.run_bind, Sem.run_pure, Result.andThen_ok, List.map_toArray, List.map_cons, List.map_nil, hs, hx, hr]
   refine (h g cap _ ⟨bs_of_cells (by rw [List.length_append]; omega) (by omega) HY (Nat.lt_of_lt_of_le hgl hbl.size) hcell, .inr ⟨g, rfl, hBg, Nat.lt_of_lt_of_le hgl hbl.size, hroom, fun j hj => ⟨?_, (hfz _).trans (hcells j hj).2⟩⟩⟩ hbl)
   by_cases hjm : j < n + m
   · rw [hcell j hjm]
     rfl
   rw [hout ⟨g, j, none⟩ (fun _ _ => .inr (by rw [List.length_map]; show n + bs.length ≤ j; omega))]
   exact (hcells j hj).1
 have hr := hrG (by omega)
 have hge := grownCap_ge w (n + m) cap 5
 unfold Oper.wp execOp
 simp only [ho, resolve, invoke, builtin, Sem.run_bind, Sem.run_pure, Result.andThen_ok, List.map_toArray, List.map_cons, List.map_nil, hs, hx, hr]
 obtain ⟨C, hC⟩ : ∃ C, grownCap w (n + m) cap 5 = C := ⟨_, rfl⟩
 rw [hC] at hge ⊢
 have hat : ∀ j, (w.drew.alloc (.cells ((us.map (Value.int .u8) ++ bs.map (Value.int .u8)).toArray ++ Builtin.zeroCells (Value.int IntKind.u8 0).cells (C - (n + m))) 5)).cell? ⟨w.heap.size, j, none⟩ = ((us.map (Value.int .u8) ++ bs.map (Value.int .u8)).toArray ++ Builtin.zeroCells (Value.int IntKind.u8 0).cells (C - (n + m)))[j]? := fun j => by
  simp [go_sem]
 have hbl : Below B w (w.drew.alloc (.cells ((us.map (Value.int .u8) ++ bs.map (Value.int .u8)).toArray ++ Builtin.zeroCells (Value.int IntKind.u8 0).cells (C - (n + m))) 5)) := (Below.drew (Below.refl B w)).alloc hB _
 have hcell : ∀ i, i < n + m → (w.drew.alloc (.cells ((us.map (Value.int .u8) ++ bs.map (Value.int .u8)).toArray ++ Builtin.zeroCells (Value.int IntKind.u8 0).cells (C - (n + m))) 5)).cell? ⟨w.heap.size, i, none⟩ = some (.int .u8 ((us ++ bs)[i]?.getD 0)) := fun i hi => by
  rw [hat, Array.getElem?_append_left (by simp; omega), ← List.map_append, List.getElem?_toArray, List.getElem?_map, List.getElem?_eq_getElem (by rw [List.length_append]; omega)]
  simp
 refine (h w.heap.size C _ ⟨bs_of_cells (by rw [List.length_append]; omega) (by omega) HY (by simp) hcell, .inr ⟨w.heap.size, rfl, hB, by simp, hge, fun j hj => ⟨?_, by simp [go_sem]⟩⟩⟩ hbl)
 rw [hat, Array.getElem?_eq_getElem (by simp [Builtin.zeroCells, Value.cells]; omega)]
 rfl
theorem tz_first {w : World} {B : Nat} {a0 : Option Addr} {n cap : Nat} {us : List Int} (h : Tz w B a0 n cap us) (z : Nat) (hz : z = 1) : (Builtin.firstCells z n (.slice a0 n cap)).run Tryz.prog w.drew = .ok (us.map (Value.int .u8)).toArray w.drew := by
 subst hz
 rcases h.2 with ⟨rfl, rfl, rfl⟩ | ⟨g, rfl, _⟩
 · have : us = [] := List.eq_nil_of_length_eq_zero h.1.1
   subst this
   exact run_firstCells_none w.drew 1 0 0 0
 have hul := h.1.1
 refine run_firstCells_some w.drew 1 n ⟨g, 0, none⟩ n cap _ (by rw [List.length_map]; omega) fun j v hv => ?_
 have hj : j < n := by have := (List.getElem?_eq_some_iff.1 hv).1; simpa [hul] using this
 have e : w.drew.cell? ((⟨g, 0, none⟩ : Addr).add j) = w.cell? ⟨g, j, none⟩ := by
  rw [Addr.add_lit, Nat.zero_add]
  rfl
 rw [e]
 rcases h.1.2.2.2 with h0 | ⟨b, off, e, _, hc⟩
 · omega
 cases e
 have hx := hc j hj
 rw [Nat.zero_add] at hx
 rw [hx]
 rw [List.getElem?_map, List.getElem?_eq_getElem (by omega)] at hv
 rw [List.getElem?_eq_getElem (by omega)]
 simpa using hv
theorem wp_app8z {o : Oper} {a : Act} {K : Act → World → Prop} {Q : Exit → Act → World → Prop} {w : World} (s x : Operand) (tx : TypeId)
 (ho : o.op = .call { callee := .builtin .append, args := #[s, x], argTypes := #[42, tx] })
 (B n cap : Nat) (a0 : Option Addr) (us : List Int) (hs : a.eval s = .slice a0 n cap) (HT : Hd (Tz w B a0 n cap us))
 (xv : Value) (m : Nat) (bs : List Int) (hx : a.eval x = xv) (h0 : a0 = none → 0 < m) (HS : Hd (Src Tryz.prog 1 tx xv m (bs.map (Value.int .u8)) w)) (HY : Hd (Byt (us ++ bs))) (N : Nat) (hN : n + m = N) (zs : List Int) (hz : us ++ bs = zs) (hle : N ≤ 1000000) (hB : B ≤ w.heap.size)
 (h : ∀ g' cap' w', Hd (Tz w' B (some ⟨g', 0, none⟩) N cap' zs) → Hd (Below B w w') → K (a.put o.dst (.slice (some ⟨g', 0, none⟩) N cap')) w') :
 Oper.wp Tryz.prog o a w K Q := by
 obtain ⟨i0, hi0, hzz⟩ := Option.map_eq_some_iff.1 Tryz.info5
 simp only [Prod.mk.injEq] at hzz
 obtain ⟨hi2, hi1, hi3⟩ := hzz
 subst hN hz
 have hsrc : Src Tryz.prog i0.size tx xv m (bs.map (Value.int .u8)) w := by rw [hi1]; exact HS.o
 have hml : bs.length = m := by have := HS.o.newsLen; simpa using this
 refine wp_app8r s x tx ho B n cap a0 us hs HT.o xv m bs hx hml h0 (fun g hg hroom => ?_) (fun hno => ?_) HY.o hle hB h
 · subst hg
   rcases HT.o.2 with ⟨e0, _⟩ | ⟨g', hg', hBg, hgl, hnc, hcells⟩
   · cases e0
   cases hg'
   have hr := run_append_room_src (P := Tryz.prog) w 42 tx o.type 5 i0 Tryz.underlying42 hi0 g 0 n cap xv m (bs.map (Value.int .u8)) hsrc hroom (fun j hj => by
    rw [List.length_map] at hj
    rw [hi1, Nat.zero_add, Nat.mul_one]
    exact (hcells (n + j) (by omega)).1) (fun j hj => by
    rw [List.length_map] at hj
    rw [hi1, Nat.zero_add, Nat.mul_one]
    exact (hcells (n + j) (by omega)).2)
   rwa [hi1, Nat.zero_add, Nat.mul_one] at hr
 exact run_append_grow_src (P := Tryz.prog) w 42 tx o.type 5 i0 (.int .u8 0) Tryz.underlying42 hi0 hi2 a0 n cap (us.map (Value.int .u8)) (tz_first HT.o _ hi1) xv m (bs.map (Value.int .u8)) hsrc (by omega) (by omega) (growslice_fits (by omega) (by rw [hi3]; omega))
theorem list_app8z {ops : Array Oper} {rest : List Oper} {o : Oper} {a : Act} {Q : Exit → Act → World → Prop} {w : World} (hgd : o.guard = none) (s x : Operand) (tx : TypeId)
 (ho : o.op = .call { callee := .builtin .append, args := #[s, x], argTypes := #[42, tx] })
 (B n cap : Nat) (a0 : Option Addr) (us : List Int) (hs : a.eval s = .slice a0 n cap) (HT : Hd (Tz w B a0 n cap us))
 (xv : Value) (m : Nat) (bs : List Int) (hx : a.eval x = xv) (h0 : a0 = none → 0 < m) (HS : Hd (Src Tryz.prog 1 tx xv m (bs.map (Value.int .u8)) w)) (HY : Hd (Byt (us ++ bs))) (N : Nat) (hN : n + m = N) (zs : List Int) (hz : us ++ bs = zs) (hle : N ≤ 1000000) (hB : B ≤ w.heap.size)
 (h : ∀ g' cap' w', Hd (Tz w' B (some ⟨g', 0, none⟩) N cap' zs) → Hd (Below B w w') → wpList Tryz.prog ops Q rest (a.put o.dst (.slice (some ⟨g', 0, none⟩) N cap')) w') :
 wpList Tryz.prog ops Q (o :: rest) a w :=
 wpList_plain hgd fun _ hK => wp_app8z s x tx ho B n cap a0 us hs HT xv m bs hx h0 HS HY N hN zs hz hle hB fun g' cap' w' h1 h2 => hK _ _ (h g' cap' w' h1 h2)
theorem src_bs {w : World} {a : Option Addr} {n c : Nat} {bs : List Int} (h : Bs w a n bs) : Src Tryz.prog 1 42 (.slice a n c) n (bs.map (Value.int .u8)) w := by
 cases a with
 | some p =>
  refine Src.ofSlice w Tryz.underlying42 p n c _ (by rw [List.length_map, h.1, Nat.mul_one]) (fun j u hu => ?_) (oneCell_map bs)
  have hj : j < n := by have := (List.getElem?_eq_some_iff.1 hu).1; simpa [h.1] using this
  rcases h.2.2.2 with h0 | ⟨b, off, e, _, hc⟩
  · omega
  cases e
  have e2 : (⟨b, off, none⟩ : Addr).add j = ⟨b, off + j, none⟩ := Addr.add_lit _ _ _
  rw [e2, hc j hj]
  rw [List.getElem?_map] at hu
  have hjl : j < bs.length := by rw [h.1]; exact hj
  rw [List.getElem?_eq_getElem hjl] at hu ⊢
  simpa using hu
 | none =>
  have h0 : n = 0 := by
   rcases h.2.2.2 with h0 | ⟨b, off, e, _, hc⟩
   · exact h0
   cases e
  subst h0
  have hb : bs = [] := List.eq_nil_of_length_eq_zero h.1
  subst hb
  exact Src.ofNil w Tryz.underlying42 c
structure RV (w : World) (B : Nat) (v : Value) (L : List SL) : Prop where
 own : w.ownsRow B 42 1 v L.length (L.map SL.v)
 lo : ∀ g, v.ownBlock = some g → B ≤ g ∧ g < w.heap.size
theorem RV.nil (w : World) (B : Nat) : RV w B (.slice none 0 0) [] := ⟨World.ownsRow_nil _ _ _ _, fun g h => (by cases h)⟩
theorem RV.keep {w w' : World} {B : Nat} {v : Value} {L : List SL} (h : RV w B v L) (hs : w.heap.size ≤ w'.heap.size) (hb : ∀ g, v.ownBlock = some g → w'.heap[g]? = w.heap[g]?) : RV w' B v L := by
 obtain ⟨⟨h1, h2⟩, hl⟩ := h
 refine ⟨⟨h1, ?_⟩, fun c hc => ⟨(hl c hc).1, Nat.lt_of_lt_of_le (hl c hc).2 hs⟩⟩
 rcases h2 with h2 | ⟨g', cap', cur, hv, hB, hh, r⟩
 · exact .inl h2
 refine .inr ⟨g', cap', cur, hv, hB, ?_, r⟩
 rw [hb g' (by rw [hv]; rfl)]
 exact hh
theorem RV.below {w w' : World} {B : Nat} {v : Value} {L : List SL} (h : RV w B v L) (hb : Bl w w') : RV w' B v L := h.keep hb.size fun g hg => hb.block g (h.lo g hg).2
theorem RV.form {w : World} {B : Nat} {v : Value} {L : List SL} (h : RV w B v L) : ∃ a cap, v = .slice a L.length cap ∧ (L = [] ∨ ∃ g, a = some ⟨g, 0, none⟩ ∧ B ≤ g ∧ g < w.heap.size ∧ ∀ i x, L[i]? = some x → w.cell? ⟨g, i, none⟩ = some (.slice x.a x.len x.cap)) := by
 rcases h.own.2 with ⟨hv, h0⟩ | ⟨g, cap, cur, hv, hB, hh, hle, _, hsz, htk⟩
 · have := List.eq_nil_of_length_eq_zero h0
   subst this
   exact ⟨none, 0, hv, .inl rfl⟩
 refine ⟨some ⟨g, 0, none⟩, cap, hv, .inr ⟨g, rfl, hB, (h.lo g (by rw [hv]; rfl)).2, fun i x hx => ?_⟩⟩
 have hi := (List.getElem?_eq_some_iff.1 hx).1
 have hu : (L.map SL.v)[i]? = some (.slice x.a x.len x.cap) := by rw [List.getElem?_map, hx]; rfl
 rw [← htk, List.getElem?_take, if_pos (by omega)] at hu
 simp only [World.cell?, hh]
 simpa using hu
theorem appR {ops : Array Oper} {rest : List Oper} {o : Oper} {a : Act} {Q : Exit → Act → World → Prop} {w : World} (hgd : o.guard = none) (s x : Operand)
 (ho : o.op = .call { callee := .builtin .append, args := #[s, x], argTypes := #[24, 24] })
 (B : Nat) (v : Value) (L : List SL) (hs : a.eval s = v) (HO : Hd (RV w B v L)) (y : SL)
 (ad : Addr) (c : Nat) (hx : a.eval x = .slice (some ad) 1 c) (HN : Hd (∀ j u, ([y.v] : List Value)[j]? = some u → w.cell? (ad.add j) = some u)) (hle : L.length ≤ 1048576) (hB : B ≤ w.heap.size)
 (h : ∀ g cap w', Hd (RV w' B (.slice (some ⟨g, 0, none⟩) (L.length + 1) cap) (L ++ [y])) → Hd (Kp v w (.slice (some ⟨g, 0, none⟩) (L.length + 1) cap) w') → wpList Tryz.prog ops Q rest (a.put o.dst (.slice (some ⟨g, 0, none⟩) (L.length + 1) cap)) w') :
 wpList Tryz.prog ops Q (o :: rest) a w := by
 obtain ⟨i0, hi0, hzz⟩ := Option.map_eq_some_iff.1 Tryz.infoB42
 simp only [Prod.mk.injEq] at hzz
 obtain ⟨hi2, hi1, hi3⟩ := hzz
 refine wpList_append_lies _ hgd s x 24 ho B 42 i0 (.slice none 0 0) 1 24 Tryz.underlying24 hi0 hi2 hi1 hi3 rfl (by omega) v L.length (L.map SL.v) hs HO.o.own ad 1 c [y.v] hx rfl HN.o (fun u hu => by simp only [List.mem_cons, List.not_mem_nil, or_false] at hu; rw [hu]; rfl) (by omega) (by unfold maxLen; omega) (by omega) hB _ rfl ?_
 intro g cap w' hown hgr hat hlt
 refine h g cap w' ⟨?_, fun g' hg' => ?_⟩ ⟨hgr.os, hgr.tape, hgr.output, hgr.size, fun b hb hn => hgr.block b hb (fun e => hn e.symm), fun g' hg' => ?_⟩
 · rw [List.map_append, List.length_append]
   exact hown
 · have : g = g' := by simpa [Value.ownBlock] using hg'
   subst this
   rcases hown.2 with ⟨hv, _⟩ | ⟨g0, c0, cur, hv, hb, _⟩
   · cases hv
   cases hv; exact ⟨hb, hlt⟩
 have : g = g' := by simpa [Value.ownBlock] using hg'
 subst this
 rcases hat with e | e
 · exact .inl e
 exact .inr (by rw [e]; exact nR)
def TO1 (w : World) (B : Nat) (v : Value) (x : SL) : Prop := ∃ g, x.a = some ⟨g, 0, none⟩ ∧ v.ownBlock ≠ some g ∧ B ≤ g ∧ g < w.heap.size ∧ Tz w B x.a x.len x.cap x.b
structure TOs (w : World) (B : Nat) (v : Value) (L : List SL) : Prop where
 t : ∀ x ∈ L, TO1 w B v x
 d : L.Pairwise (fun x y => x.a ≠ y.a)
theorem TOs.nil (w : World) (B : Nat) (v : Value) : TOs w B v [] := ⟨fun x hx => (by cases hx), List.Pairwise.nil⟩
theorem Tz.keep {w w' : World} {B : Nat} {a : Option Addr} {len cap g : Nat} {bs : List Int} (h : Tz w B a len cap bs) (ha : a = some ⟨g, 0, none⟩) (hs : w.heap.size ≤ w'.heap.size) (hb : w'.heap[g]? = w.heap[g]?) : Tz w' B a len cap bs := by
 have ec : ∀ j, w'.cell? ⟨g, j, none⟩ = w.cell? ⟨g, j, none⟩ := fun j => World.cell?_of_block (w := w) (a := ⟨g, j, none⟩) hb
 have ef : ∀ j, w'.frozen? ⟨g, j, none⟩ = w.frozen? ⟨g, j, none⟩ := fun j => World.frozen?_of_block (w := w) (a := ⟨g, j, none⟩) hb
 obtain ⟨⟨h1, h2, h3, h4⟩, h5⟩ := h
 subst ha
 refine ⟨⟨h1, h2, h3, ?_⟩, ?_⟩
 · rcases h4 with h4 | ⟨b, off, e, hlt, hc⟩
   · exact .inl h4
   cases e
   exact .inr ⟨g, 0, rfl, Nat.lt_of_lt_of_le hlt hs, fun i hi => (ec _).trans (hc i hi)⟩
 rcases h5 with ⟨e, _⟩ | ⟨g', e, hB, hlt, hl, hc⟩
 · cases e
 cases e
 exact .inr ⟨g, rfl, hB, Nat.lt_of_lt_of_le hlt hs, hl, fun j hj => by rw [ec, ef]; exact hc j hj⟩
theorem TO1.kp {w w' : World} {B : Nat} {v v' : Value} {x : SL} (h : TO1 w B v x) (k : Kp v w v' w') : TO1 w' B v' x := by
 obtain ⟨g, ha, hn, hB, hlt, ht⟩ := h
 refine ⟨g, ha, fun e => ?_, hB, Nat.lt_of_lt_of_le hlt k.size, ht.keep ha k.size (k.block g hlt hn)⟩
 rcases k.blk g e with h | h
 · exact hn h
 omega
theorem TO1.below {w w' : World} {B C : Nat} {v : Value} {x : SL} (h : TO1 w B v x) (hb : Below C w w') (hC : w.heap.size ≤ C) : TO1 w' B v x := by
 obtain ⟨g, ha, hn, hB, hlt, ht⟩ := h
 exact ⟨g, ha, hn, hB, Nat.lt_of_lt_of_le hlt hb.size, ht.keep ha hb.size (hb.block g (by omega))⟩
theorem one_cell {w : World} (v : Value) (t : TypeId) : ∀ j u, ([v] : List Value)[j]? = some u → (w.alloc (.cells #[v] t)).cell? ((⟨w.heap.size, 0, none⟩ : Addr).add j) = some u := by
 intro j u hu
 have hj : j = 0 := by
  have h := (List.getElem?_eq_some_iff.1 hu).1
  simp only [List.length_cons, List.length_nil] at h
  omega
 subst hj
 have hv : v = u := by simpa using hu
 subst hv
 simp [go_sem]
theorem TOs.kept {w w' : World} {B C : Nat} {v : Value} {L : List SL} (h : TOs w B v L) (hb : Below C w w') (hC : w.heap.size ≤ C) : TOs w' B v L := ⟨fun x hx => (h.t x hx).below hb hC, h.d⟩
theorem TOs.app {w w' : World} {B : Nat} {v v' : Value} {L : List SL} {y : SL} (h : TOs w B v L) (hy : TO1 w B v y) (hd : ∀ x ∈ L, x.a ≠ y.a) (k : Kp v w v' w') : TOs w' B v' (L ++ [y]) := by
 refine ⟨fun x hx => ?_, ?_⟩
 · rcases List.mem_append.1 hx with hx | hx
   · exact (h.t x hx).kp k
   rw [List.mem_singleton.1 hx]
   exact hy.kp k
 refine List.pairwise_append.2 ⟨h.d, List.pairwise_singleton _ _, fun x hx z hz => ?_⟩
 rw [List.mem_singleton.1 hz]
 exact hd x hx
theorem Tz.new0v (w : World) : Tz (w.alloc (.cells #[] 5)) w.heap.size (some ⟨w.heap.size, 0, none⟩) 0 0 [] :=
 ⟨⟨rfl, by omega, by simp, .inl rfl⟩, .inr ⟨_, rfl, nR, by simp, nR, fun j hj => by omega⟩⟩
def OwnVs (w : World) (R : List (List Int)) (e : Ending) (w' : World) : Prop := ∃ v' L', e = .returned v' ∧ RV w' w.heap.size v' L' ∧ TOs w' w.heap.size v' L' ∧ L'.map SL.b = R ∧ Bl w w'
theorem l4own_any (v : Value) (L : List SL) (B0 : Nat) (w0 w : World) (h : VL w0 w B0 v L) (hw : Bl w0 w) (hn : L.length ≤ 1000) (hl : ∀ x ∈ L, x.len ≤ 1000) :
 Calls Tryz.prog 26 #[v] w (OwnVs w (L.map SL.b)) := by
 obtain ⟨a, cap, rfl, hf⟩ := h.form
 have HT : Hd (∀ x ∈ L, BsF 0 w x) := fun x hx => BsF.upper (h.txt x hx) (uB hw)
 have HL := iH hl
 obtain ⟨n, hnn⟩ : ∃ n, n = L.length := ⟨_, rfl⟩
 have HN := iH hnn
 rw [← hnn] at hn ⊢
 by_cases h0 : n = 0
 · have e0 : L = [] := List.eq_nil_of_length_eq_zero (by omega)
   have HE : Hd (L.map SL.b = []) := (show _ = _ by rw [e0]; rfl)
   subst h0
   clear hf h hw HT HL hl e0 hnn HN
   go_in
   go_wp2
   refine wp_loop_rounds 1 ?_
   rw [rounds_succ]
   go_wp2
   go_ret
   exact ⟨_, [], rfl, RV.nil _ _, TOs.nil _ _ _, HE.o.symm, Below.refl _ _⟩
 rcases hf with hf | ⟨g, rfl, hg1, hg2, hc⟩
 · exact absurd (by rw [hnn, hf]; rfl) h0
 have HC := iH hc
 clear h hw hl hnn hc
 go_in
 go_wp2_with fail
 go_loopw [3, 4] (fun o i wr => ∃ (j : Nat) (v' : Value) (L' : List SL), j ≤ n ∧ o = v' ∧ i = .int .i64 j ∧ Hd (L'.length = j) ∧ Hd (RV wr w.heap.size v' L') ∧ Hd (TOs wr w.heap.size v' L') ∧ Hd (L'.map SL.b = (L.take j).map SL.b) ∧ Hd (Bl w wr))
  (fun _ i _ => n - (intOf i).toNat)
 case atStart => exact ⟨0, _, [], nZ, rfl, rfl, rfl, RV.nil _ _, TOs.nil _ _ _, rfl, Below.refl _ _⟩
 obtain ⟨j, v', L', hj, rfl, rfl, HLN, HRV, HTO, HLB, HB⟩ := hrel
 by_cases hlt : j < n
 · obtain ⟨x, hx⟩ : ∃ x, L[j]? = some x := ⟨_, List.getElem?_eq_getElem (by rw [← HN.o]; exact hlt)⟩
   have HXJ := iH hx
   have hmx := List.mem_of_getElem? hx
   have hxl := HL.o x hmx
   have hcx : (wr.alloc (.cells #[] 5)).cell? ⟨g, j, none⟩ = some (.slice x.a x.len x.cap) := ((bl_a (w := wr) _).cell (p := ⟨g, j, none⟩) (Nat.lt_of_lt_of_le hg2 HB.o.size)).trans ((HB.o.cell (p := ⟨g, j, none⟩) hg2).trans (HC.o j x hx))
   have HBX := iH (BsF.upper (HT.o x hmx) (uB (bl_trans HB.o (bl_a (.cells #[] 5)))))
   have HTX := iH (Tz.new0v wr)
   have HSX : Hd (Src Tryz.prog 1 42 (.slice x.a x.len x.cap) x.len (x.b.map (Value.int .u8)) (wr.alloc (.cells #[] 5))) := src_bs HBX.o.1
   have HYX : Hd (Byt ([] ++ x.b)) := Byt.of HBX.o.1.2.2.1
   have hBX : wr.heap.size ≤ (wr.alloc (.cells #[] 5)).heap.size := by simp
   clear hx hmx
   have hle : L'.length ≤ 1048576 := by have h := HLN.o; omega
   go_wp2_with (first | (refine list_app8z rfl (.tmp 12) (.tmp 16) 42 rfl wr.heap.size 0 0 (some ⟨wr.heap.size, 0, none⟩) [] rfl HTX (.slice x.a x.len x.cap) x.len x.b rfl (fun h => by cases h) HSX HYX x.len (Nat.zero_add _) x.b (List.nil_append _) (by omega) hBX ?_; intro g4 c4 w4 HT4 HD4; have HW4 := iH ((bl_a (w := wr) (.cells #[] 5)).trans HD4.o); have HRo := iH (fun o => (HRV.o.below HW4.o).below (bl_a o)); have HON : Hd (∀ j u, ([SL.v ⟨some ⟨g4, 0, none⟩, x.len, c4, x.b⟩] : List Value)[j]? = some u → (w4.alloc (.cells #[.slice (some ⟨g4, 0, none⟩) x.len c4] 42)).cell? ((⟨w4.heap.size, 0, none⟩ : Addr).add j) = some u) := one_cell _ _; have hB4 : w.heap.size ≤ (w4.alloc (.cells #[.slice (some ⟨g4, 0, none⟩) x.len c4] 42)).heap.size := Nat.le_trans (Nat.le_trans HB.o.size HW4.o.size) (bl_a (w := w4) (.cells #[.slice (some ⟨g4, 0, none⟩) x.len c4] 42)).size) | (refine appR rfl (.tmp 11) (.tmp 18) rfl w.heap.size _ L' rfl (HRo.o _) ⟨some ⟨g4, 0, none⟩, x.len, c4, x.b⟩ ⟨w4.heap.size, 0, none⟩ 1 rfl HON hle hB4 ?_; intro g9 c9 w9 HO9 HK9))
   go_roundw
   case rel =>
    have hz := HT4.o
    have hgg : wr.heap.size ≤ g4 ∧ g4 < w4.heap.size := by
     rcases hz.2 with ⟨e, _⟩ | ⟨g', e, h1, h2, _⟩
     · cases e
     cases e
     exact ⟨h1, h2⟩
    refine ⟨j + 1, _, L' ++ [⟨some ⟨g4, 0, none⟩, x.len, c4, x.b⟩], by omega, rfl, by go_num, ?_, HO9, ?_, ?_, ?_⟩
    · show (L' ++ _).length = j + 1
      rw [List.length_append, HLN.o]
      rfl
    · refine TOs.app (w := w4.alloc (.cells #[.slice (some ⟨g4, 0, none⟩) x.len c4] 42)) ((HTO.o.kept HW4.o nR).kept (bl_a _) nR) ?_ ?_ HK9.o
      · refine TO1.below (w := w4) ⟨g4, rfl, fun e => ?_, Nat.le_trans HB.o.size hgg.1, hgg.2, ?_⟩ (bl_a _) nR
        · have := (HRV.o.lo g4 e).2
          omega
        refine ⟨hz.1, hz.2.imp id ?_⟩
        rintro ⟨g', e, h1, h2⟩
        exact ⟨g', e, Nat.le_trans HB.o.size h1, h2⟩
      intro z hz2 e
      obtain ⟨gz, ez, _, _, hl2, _⟩ := HTO.o.t z hz2
      rw [ez] at e
      have : gz = g4 := by cases e; rfl
      omega
    · show (L' ++ _).map SL.b = _
      rw [List.map_append, HLB.o, List.take_add_one, HXJ.o, List.map_append]
      rfl
    exact ((bl_trans HB.o (HW4.o.trans (bl_a (w := w4) (.cells #[.slice (some ⟨g4, 0, none⟩) x.len c4] 42) |>.mono HW4.o.size))).trans (HK9.o.low (fun g' hg' => (HRV.o.lo g' hg').1) hB4))
   case measure => simp [intOf]; omega
 obtain rfl : j = n := by omega
 go_wp2
 go_ret
 refine ⟨_, L', rfl, HRV.o, HTO.o, ?_, HB.o⟩
 rw [HLB.o, HN.o, List.take_length]
theorem clone_any (x : SL) (w : World) (hx : BsF 0 w x) (hl : x.len ≤ 1000) (h0 : x.len ≠ 0) :
 Calls Tryz.prog 33 #[.slice x.a x.len x.cap] w fun e w' => ∃ g c, e = .returned (.slice (some ⟨g, 0, none⟩) x.len c) ∧ Tz w' w.heap.size (some ⟨g, 0, none⟩) x.len c x.b ∧ Bl w w' := by
 obtain ⟨b, off, ha, _, _⟩ := hx.1.2.2.2.resolve_left h0
 have HBX := iH (BsF.upper hx (uB (bl_a (.cells #[] 5))))
 rw [ha]
 have HBS : Hd (Bs (w.alloc (.cells #[] 5)) (some ⟨b, off, none⟩) x.len x.b) := (show Bs _ _ _ _ by have h := HBX.o.1; rwa [ha] at h)
 have HTX := iH (Tz.new0v w)
 have HSX : Hd (Src Tryz.prog 1 42 (.slice (some ⟨b, off, none⟩) x.len x.cap) x.len (x.b.map (Value.int .u8)) (w.alloc (.cells #[] 5))) := src_bs HBS.o
 have HYX : Hd (Byt ([] ++ x.b)) := Byt.of HBS.o.2.2.1
 have hBX : w.heap.size ≤ (w.alloc (.cells #[] 5)).heap.size := by simp
 clear hx ha
 have hq : ∀ (w : World) (a : Option Addr) (n c n' c' : Nat), (binOp .eql 42 (.slice a n c) (.slice none n' c')).run Tryz.prog w = .ok (.bool a.isNone) w := fun w a n c n' c' => Lib.run_eql_slice_nil w _ _ a n c n' c' Tryz.underlying42
 go_in
 go_wp2_with (refine list_app8z rfl (.tmp 5) (.tmp 6) 42 rfl w.heap.size 0 0 (some ⟨w.heap.size, 0, none⟩) [] rfl HTX (.slice (some ⟨b, off, none⟩) x.len x.cap) x.len x.b rfl (fun h => by cases h) HSX HYX x.len (Nat.zero_add _) x.b (List.nil_append _) (by omega) hBX ?_; intro g4 c4 w4 HT4 HD4)
 go_ret
 exact ⟨g4, c4, rfl, HT4.o, (bl_a (w := w) (.cells #[] 5)).trans HD4.o⟩
def SL.lies (B : Nat) (w : World) (x : SL) : Prop := BsF B w x
def SL.came (w : World) (x : SL) : Prop := Cm w x
def SL.small (x : SL) : Prop := x.len ≤ 1048576
def SL.same (x y : SL) : Prop := x.b = y.b
def SL.cells (x : SL) : List Value := [.slice x.a x.len x.cap]
theorem SL.lies.upper {B : Nat} {w w' : World} {x : SL} (h : x.lies B w) (hu : Upper B w w') : x.lies B w' := BsF.upper h hu
theorem SL.lies.base {B B' : Nat} {w : World} {x : SL} (h : x.lies B w) (hB : B' ≤ B) : x.lies B' w := BsF.base h hB
structure UN where
 k : Int
 p : PB
 e : ET
 v : SL
 ta : Option Addr
 tc : Nat
 tb : List TB
 aa : Option Addr
 ac : Nat
 an : Nat
 ba : Option Addr
 bc : Nat
 bn : Nat
def UN.cells (d : UN) : List Value := [.int .i64 d.k, .slice d.p.s.v.a d.p.s.v.len d.p.s.v.cap, .int .i64 d.p.s.t.t.k, .slice d.p.s.t.t.a d.p.s.t.t.len d.p.s.t.t.cap, .int .i64 d.p.s.t.t.n, .int .i64 d.p.s.t.t.s, .slice d.p.p.v.a d.p.p.v.len d.p.p.v.cap, .int .i64 d.p.p.t.t.k, .slice d.p.p.t.t.a d.p.p.t.t.len d.p.p.t.t.cap, .int .i64 d.p.p.t.t.n, .int .i64 d.p.p.t.t.s, .slice d.p.o.v.a d.p.o.v.len d.p.o.v.cap, .int .i64 d.p.o.t.t.k, .slice d.p.o.t.t.a d.p.o.t.t.len d.p.o.t.t.cap, .int .i64 d.p.o.t.t.n, .int .i64 d.p.o.t.t.s, .int .i64 d.e.d.k, .int .i64 d.e.d.op, .slice d.e.d.v.a d.e.d.v.len d.e.d.v.cap, .int .i64 d.e.d.t.t.k, .slice d.e.d.t.t.a d.e.d.t.t.len d.e.d.t.t.cap, .int .i64 d.e.d.t.t.n, .int .i64 d.e.d.t.t.s, .slice d.e.d.ka d.e.d.n d.e.d.kc, .slice d.v.a d.v.len d.v.cap, .slice d.ta d.tb.length d.tc, .slice d.aa d.an d.ac, .slice d.ba d.bn d.bc]
abbrev UN.cl (d : UN) : List Value := [.int .i64 d.k, .slice d.p.s.v.a d.p.s.v.len d.p.s.v.cap, .int .i64 d.p.s.t.t.k, .slice d.p.s.t.t.a d.p.s.t.t.len d.p.s.t.t.cap, .int .i64 d.p.s.t.t.n, .int .i64 d.p.s.t.t.s, .slice d.p.p.v.a d.p.p.v.len d.p.p.v.cap, .int .i64 d.p.p.t.t.k, .slice d.p.p.t.t.a d.p.p.t.t.len d.p.p.t.t.cap, .int .i64 d.p.p.t.t.n, .int .i64 d.p.p.t.t.s, .slice d.p.o.v.a d.p.o.v.len d.p.o.v.cap, .int .i64 d.p.o.t.t.k, .slice d.p.o.t.t.a d.p.o.t.t.len d.p.o.t.t.cap, .int .i64 d.p.o.t.t.n, .int .i64 d.p.o.t.t.s, .int .i64 d.e.d.k, .int .i64 d.e.d.op, .slice d.e.d.v.a d.e.d.v.len d.e.d.v.cap, .int .i64 d.e.d.t.t.k, .slice d.e.d.t.t.a d.e.d.t.t.len d.e.d.t.t.cap, .int .i64 d.e.d.t.t.n, .int .i64 d.e.d.t.t.s, .slice d.e.d.ka d.e.d.n d.e.d.kc, .slice d.v.a d.v.len d.v.cap, .slice d.ta d.tb.length d.tc, .slice d.aa d.an d.ac, .slice d.ba d.bn d.bc]
abbrev UN.ar (d : UN) : Array Value := #[.int .i64 d.k, .slice d.p.s.v.a d.p.s.v.len d.p.s.v.cap, .int .i64 d.p.s.t.t.k, .slice d.p.s.t.t.a d.p.s.t.t.len d.p.s.t.t.cap, .int .i64 d.p.s.t.t.n, .int .i64 d.p.s.t.t.s, .slice d.p.p.v.a d.p.p.v.len d.p.p.v.cap, .int .i64 d.p.p.t.t.k, .slice d.p.p.t.t.a d.p.p.t.t.len d.p.p.t.t.cap, .int .i64 d.p.p.t.t.n, .int .i64 d.p.p.t.t.s, .slice d.p.o.v.a d.p.o.v.len d.p.o.v.cap, .int .i64 d.p.o.t.t.k, .slice d.p.o.t.t.a d.p.o.t.t.len d.p.o.t.t.cap, .int .i64 d.p.o.t.t.n, .int .i64 d.p.o.t.t.s, .int .i64 d.e.d.k, .int .i64 d.e.d.op, .slice d.e.d.v.a d.e.d.v.len d.e.d.v.cap, .int .i64 d.e.d.t.t.k, .slice d.e.d.t.t.a d.e.d.t.t.len d.e.d.t.t.cap, .int .i64 d.e.d.t.t.n, .int .i64 d.e.d.t.t.s, .slice d.e.d.ka d.e.d.n d.e.d.kc, .slice d.v.a d.v.len d.v.cap, .slice d.ta d.tb.length d.tc, .slice d.aa d.an d.ac, .slice d.ba d.bn d.bc]
abbrev UN.ck (d : UN) (k : Int) : List Value := [.int .i64 k, .slice d.p.s.v.a d.p.s.v.len d.p.s.v.cap, .int .i64 d.p.s.t.t.k, .slice d.p.s.t.t.a d.p.s.t.t.len d.p.s.t.t.cap, .int .i64 d.p.s.t.t.n, .int .i64 d.p.s.t.t.s, .slice d.p.p.v.a d.p.p.v.len d.p.p.v.cap, .int .i64 d.p.p.t.t.k, .slice d.p.p.t.t.a d.p.p.t.t.len d.p.p.t.t.cap, .int .i64 d.p.p.t.t.n, .int .i64 d.p.p.t.t.s, .slice d.p.o.v.a d.p.o.v.len d.p.o.v.cap, .int .i64 d.p.o.t.t.k, .slice d.p.o.t.t.a d.p.o.t.t.len d.p.o.t.t.cap, .int .i64 d.p.o.t.t.n, .int .i64 d.p.o.t.t.s, .int .i64 d.e.d.k, .int .i64 d.e.d.op, .slice d.e.d.v.a d.e.d.v.len d.e.d.v.cap, .int .i64 d.e.d.t.t.k, .slice d.e.d.t.t.a d.e.d.t.t.len d.e.d.t.t.cap, .int .i64 d.e.d.t.t.n, .int .i64 d.e.d.t.t.s, .slice d.e.d.ka d.e.d.n d.e.d.kc, .slice d.v.a d.v.len d.v.cap, .slice d.ta d.tb.length d.tc, .slice d.aa d.an d.ac, .slice d.ba d.bn d.bc]
abbrev UN.ca (d : UN) (k : Int) : Array Value := #[.int .i64 k, .slice d.p.s.v.a d.p.s.v.len d.p.s.v.cap, .int .i64 d.p.s.t.t.k, .slice d.p.s.t.t.a d.p.s.t.t.len d.p.s.t.t.cap, .int .i64 d.p.s.t.t.n, .int .i64 d.p.s.t.t.s, .slice d.p.p.v.a d.p.p.v.len d.p.p.v.cap, .int .i64 d.p.p.t.t.k, .slice d.p.p.t.t.a d.p.p.t.t.len d.p.p.t.t.cap, .int .i64 d.p.p.t.t.n, .int .i64 d.p.p.t.t.s, .slice d.p.o.v.a d.p.o.v.len d.p.o.v.cap, .int .i64 d.p.o.t.t.k, .slice d.p.o.t.t.a d.p.o.t.t.len d.p.o.t.t.cap, .int .i64 d.p.o.t.t.n, .int .i64 d.p.o.t.t.s, .int .i64 d.e.d.k, .int .i64 d.e.d.op, .slice d.e.d.v.a d.e.d.v.len d.e.d.v.cap, .int .i64 d.e.d.t.t.k, .slice d.e.d.t.t.a d.e.d.t.t.len d.e.d.t.t.cap, .int .i64 d.e.d.t.t.n, .int .i64 d.e.d.t.t.s, .slice d.e.d.ka d.e.d.n d.e.d.kc, .slice d.v.a d.v.len d.v.cap, .slice d.ta d.tb.length d.tc, .slice d.aa d.an d.ac, .slice d.ba d.bn d.bc]
def UN0 : UN := ⟨0, ⟨⟨⟨none, 0, 0, []⟩, ⟨⟨0, none, 0, 0, 0, 0⟩, []⟩⟩, ⟨⟨none, 0, 0, []⟩, ⟨⟨0, none, 0, 0, 0, 0⟩, []⟩⟩, ⟨⟨none, 0, 0, []⟩, ⟨⟨0, none, 0, 0, 0, 0⟩, []⟩⟩⟩, .nil, ⟨none, 0, 0, []⟩, none, 0, [], none, 0, 0, none, 0, 0⟩
inductive UT where
 | nil
 | mk (d : UN) (ka : Nat → UT) (kb : Nat → UT)
def UT.d : UT → UN
 | .nil => UN0
 | .mk d _ _ => d
def UT.ka : UT → Nat → UT
 | .nil => fun _ => .nil
 | .mk _ f _ => f
def UT.kb : UT → Nat → UT
 | .nil => fun _ => .nil
 | .mk _ _ f => f
def UT.lies (B : Nat) (w : World) : UT → Prop
 | .nil => False
 | .mk d ka kb => d.p.lies B w ∧ d.e.lies B w ∧ BsF B w d.v ∧ TRowF B w d.ta d.tb ∧ d.tb.length ≤ 1048576 ∧ (d.an ≤ 1048576 ∧ KRow B w 28 d.aa d.an (fun i => (ka i).d.cells)) ∧ (d.bn ≤ 1048576 ∧ KRow B w 28 d.ba d.bn (fun i => (kb i).d.cells)) ∧ (∀ i, i < d.an → (ka i).lies B w) ∧ ∀ i, i < d.bn → (kb i).lies B w
def UT.came (w : World) : UT → Prop
 | .nil => False
 | .mk d ka kb => d.p.came w ∧ d.e.came w ∧ Cm w d.v ∧ TCm w d.ta d.tb ∧ (d.an ≤ 9223372036854775807 ∧ KRow 0 w 28 d.aa d.an (fun i => (ka i).d.cells)) ∧ (d.bn ≤ 9223372036854775807 ∧ KRow 0 w 28 d.ba d.bn (fun i => (kb i).d.cells)) ∧ (∀ i, i < d.an → (ka i).came w) ∧ ∀ i, i < d.bn → (kb i).came w
def UT.small : UT → Prop
 | .nil => False
 | .mk d ka kb => d.p.small ∧ d.e.small ∧ d.v.len ≤ 1048576 ∧ (d.tb.length ≤ 1048576 ∧ ∀ x ∈ d.tb, x.t.len ≤ 1048576) ∧ (d.an ≤ 1048576 ∧ ∀ i, i < d.an → (ka i).small) ∧ (d.bn ≤ 1048576 ∧ ∀ i, i < d.bn → (kb i).small)
def UT.same : UT → UT → Prop
 | .mk d ka kb, .mk d' ka' kb' => d.k = d'.k ∧ d.p.same d'.p ∧ d.e.same d'.e ∧ d.v.b = d'.v.b ∧ d.tb.map TB.td = d'.tb.map TB.td ∧ (d.an = d'.an ∧ ∀ i, i < d.an → (ka i).same (ka' i)) ∧ (d.bn = d'.bn ∧ ∀ i, i < d.bn → (kb i).same (kb' i))
 | _, _ => False
theorem UT.lies.upper {B : Nat} {w w' : World} {e : UT} (h : e.lies B w) (hu : Upper B w w') : e.lies B w' := by
 induction e with
 | nil => exact False.elim h
 | mk d ka kb ia ib =>
  obtain ⟨h1, h2, h3, h4, h5, ⟨a1, a2⟩, ⟨b1, b2⟩, h6, h7⟩ := h
  exact ⟨h1.upper hu, ET.lies.upper hu h2, h3.upper hu, h4.upper hu, h5, ⟨a1, a2.upper hu⟩, ⟨b1, b2.upper hu⟩, fun i hi => ia i (h6 i hi), fun i hi => ib i (h7 i hi)⟩
theorem UT.lies.base {B B' : Nat} {w : World} {e : UT} (h : e.lies B w) (hB : B' ≤ B) : e.lies B' w := by
 induction e with
 | nil => exact False.elim h
 | mk d ka kb ia ib =>
  obtain ⟨h1, h2, h3, h4, h5, ⟨a1, a2⟩, ⟨b1, b2⟩, h6, h7⟩ := h
  exact ⟨h1.base hB, ET.lies.base hB h2, h3.base hB, h4.base hB, h5, ⟨a1, a2.base hB⟩, ⟨b1, b2.base hB⟩, fun i hi => ia i (h6 i hi), fun i hi => ib i (h7 i hi)⟩
theorem UT.lies.below {B : Nat} {w w' : World} {e : UT} (h : e.lies B w) (hb : Bl w w') : e.lies B w' := UT.lies.upper h (uB hb)
theorem UT.came.below {w w' : World} {e : UT} (h : e.came w) (hb : Bl w w') : e.came w' := by
 induction e with
 | nil => exact False.elim h
 | mk d ka kb ia ib =>
  obtain ⟨h1, h2, h3, h4, ⟨a1, a2⟩, ⟨b1, b2⟩, h6, h7⟩ := h
  exact ⟨h1.below hb, ET.came.below hb h2, h3.below hb, h4.below hb, ⟨a1, a2.upper (uB hb)⟩, ⟨b1, b2.upper (uB hb)⟩, fun i hi => ia i (h6 i hi), fun i hi => ib i (h7 i hi)⟩
theorem UT.came.lies {w : World} {e : UT} (h : e.came w) (hs : e.small) : e.lies 0 w := by
 induction e with
 | nil => exact False.elim h
 | mk d ka kb ia ib =>
  obtain ⟨h1, h2, h3, h4, ⟨a1, a2⟩, ⟨b1, b2⟩, h6, h7⟩ := h
  obtain ⟨s1, s2, s3, ⟨s4, s5⟩, ⟨s6, s7⟩, ⟨s8, s9⟩⟩ := hs
  exact ⟨PB.came.lies h1 s1, ET.came.lies h2 s2, h3.bs s3, h4.lies s5, s4, ⟨s6, a2⟩, ⟨s8, b2⟩, fun i hi => ia i (h6 i hi) (s7 i hi), fun i hi => ib i (h7 i hi) (s9 i hi)⟩
structure SE where
 fn : Int
 of : SL
 v : SL
def SE.cells (x : SE) : List Value := [.int .i64 x.fn, .slice x.of.a x.of.len x.of.cap, .slice x.v.a x.v.len x.v.cap]
abbrev SE.cl (d : SE) : List Value := [.int .i64 d.fn, .slice d.of.a d.of.len d.of.cap, .slice d.v.a d.v.len d.v.cap]
abbrev SE.ar (d : SE) : Array Value := #[.int .i64 d.fn, .slice d.of.a d.of.len d.of.cap, .slice d.v.a d.v.len d.v.cap]
def SE.lies (B : Nat) (w : World) (x : SE) : Prop := BsF B w x.of ∧ BsF B w x.v
def SE.came (w : World) (x : SE) : Prop := Cm w x.of ∧ Cm w x.v
def SE.small (x : SE) : Prop := x.of.len ≤ 1048576 ∧ x.v.len ≤ 1048576
def SE.same (x y : SE) : Prop := x.fn = y.fn ∧ x.of.b = y.of.b ∧ x.v.b = y.v.b
theorem SE.lies.upper {B : Nat} {w w' : World} {x : SE} (h : x.lies B w) (hu : Upper B w w') : x.lies B w' := ⟨h.1.upper hu, h.2.upper hu⟩
theorem SE.lies.base {B B' : Nat} {w : World} {x : SE} (h : x.lies B w) (hB : B' ≤ B) : x.lies B' w := ⟨h.1.base hB, h.2.base hB⟩
theorem SE.came.below {w w' : World} {x : SE} (h : x.came w) (hb : Bl w w') : x.came w' := ⟨h.1.below hb, h.2.below hb⟩
theorem SE.came.lies {w : World} {x : SE} (h : x.came w) (hs : x.small) : x.lies 0 w := ⟨h.1.bs hs.1, h.2.bs hs.2⟩
structure KY where
 v : SL
 down : Bool
def KY.cells (x : KY) : List Value := [.slice x.v.a x.v.len x.v.cap, .bool x.down]
def KY.lies (B : Nat) (w : World) (x : KY) : Prop := BsF B w x.v
def KY.came (w : World) (x : KY) : Prop := Cm w x.v
def KY.small (x : KY) : Prop := x.v.len ≤ 1048576
def KY.same (x y : KY) : Prop := x.v.b = y.v.b ∧ x.down = y.down
theorem KY.lies.upper {B : Nat} {w w' : World} {x : KY} (h : x.lies B w) (hu : Upper B w w') : x.lies B w' := BsF.upper h hu
theorem KY.lies.base {B B' : Nat} {w : World} {x : KY} (h : x.lies B w) (hB : B' ≤ B) : x.lies B' w := BsF.base h hB
theorem KY.came.below {w w' : World} {x : KY} (h : x.came w) (hb : Bl w w') : x.came w' := Cm.below h hb
theorem KY.came.lies {w : World} {x : KY} (h : x.came w) (hs : x.small) : x.lies 0 w := Cm.bs h hs
structure QY where
 ask : Bool
 dis : Bool
 sa : Option Addr
 sc : Nat
 sn : Nat
 sel : Nat → SE
 ba : Option Addr
 bc : Nat
 bn : Nat
 body : Nat → UT
 ga : Option Addr
 gc : Nat
 gn : Nat
 grp : Nat → SL
 oa : Option Addr
 oc : Nat
 on : Nat
 key : Nat → KY
 lim : Int
 off : Int
def QY.cells (x : QY) : List Value := [.bool x.ask, .bool x.dis, .slice x.sa x.sn x.sc, .slice x.ba x.bn x.bc, .slice x.ga x.gn x.gc, .slice x.oa x.on x.oc, .int .i64 x.lim, .int .i64 x.off]
abbrev QY.cl (d : QY) : List Value := [.bool d.ask, .bool d.dis, .slice d.sa d.sn d.sc, .slice d.ba d.bn d.bc, .slice d.ga d.gn d.gc, .slice d.oa d.on d.oc, .int .i64 d.lim, .int .i64 d.off]
abbrev QY.ar (d : QY) : Array Value := #[.bool d.ask, .bool d.dis, .slice d.sa d.sn d.sc, .slice d.ba d.bn d.bc, .slice d.ga d.gn d.gc, .slice d.oa d.on d.oc, .int .i64 d.lim, .int .i64 d.off]
abbrev qL (x : QY) (a b c d : Nat) : List Value := [.bool x.ask, .bool x.dis, .slice (some ⟨a, 0, none⟩) x.sn x.sn, .slice (some ⟨b, 0, none⟩) x.bn x.bn, .slice (some ⟨c, 0, none⟩) x.gn x.gn, .slice (some ⟨d, 0, none⟩) x.on x.on, .int .i64 x.lim, .int .i64 x.off]
abbrev qB (b : Bool) (x : QY) : List Value := [.bool b, .bool x.dis, .slice x.sa x.sn x.sc, .slice x.ba x.bn x.bc, .slice x.ga x.gn x.gc, .slice x.oa x.on x.oc, .int .i64 x.lim, .int .i64 x.off]
abbrev qC2 (b : Bool) (x : QY) : Array Value := #[.bool b, .bool x.dis, .slice x.sa x.sn x.sc, .slice x.ba x.bn x.bc, .slice x.ga x.gn x.gc, .slice x.oa x.on x.oc, .int .i64 x.lim, .int .i64 x.off]
structure QY.lies (B : Nat) (w : World) (x : QY) : Prop where
 s : KRow B w 3 x.sa x.sn (fun i => (x.sel i).cells) ∧ (∀ i, i < x.sn → (x.sel i).lies B w) ∧ x.sn ≤ 1048576
 b : KRow B w 28 x.ba x.bn (fun i => (x.body i).d.cells) ∧ (∀ i, i < x.bn → (x.body i).lies B w) ∧ x.bn ≤ 1048576
 g : KRow B w 1 x.ga x.gn (fun i => (x.grp i).cells) ∧ (∀ i, i < x.gn → (x.grp i).lies B w) ∧ x.gn ≤ 1048576
 o : KRow B w 2 x.oa x.on (fun i => (x.key i).cells) ∧ (∀ i, i < x.on → (x.key i).lies B w) ∧ x.on ≤ 1048576
structure QY.came (w : World) (x : QY) : Prop where
 s : KRow 0 w 3 x.sa x.sn (fun i => (x.sel i).cells) ∧ (∀ i, i < x.sn → (x.sel i).came w) ∧ x.sn ≤ 9223372036854775807
 b : KRow 0 w 28 x.ba x.bn (fun i => (x.body i).d.cells) ∧ (∀ i, i < x.bn → (x.body i).came w) ∧ x.bn ≤ 9223372036854775807
 g : KRow 0 w 1 x.ga x.gn (fun i => (x.grp i).cells) ∧ (∀ i, i < x.gn → (x.grp i).came w) ∧ x.gn ≤ 9223372036854775807
 o : KRow 0 w 2 x.oa x.on (fun i => (x.key i).cells) ∧ (∀ i, i < x.on → (x.key i).came w) ∧ x.on ≤ 9223372036854775807
def QY.small (x : QY) : Prop := (x.sn ≤ 1048576 ∧ ∀ i, i < x.sn → (x.sel i).small) ∧ (x.bn ≤ 1048576 ∧ ∀ i, i < x.bn → (x.body i).small) ∧ (x.gn ≤ 1048576 ∧ ∀ i, i < x.gn → (x.grp i).small) ∧ x.on ≤ 1048576 ∧ ∀ i, i < x.on → (x.key i).small
structure QY.same (x y : QY) : Prop where
 ask : x.ask = y.ask
 dis : x.dis = y.dis
 s : x.sn = y.sn ∧ ∀ i, i < x.sn → (x.sel i).same (y.sel i)
 b : x.bn = y.bn ∧ ∀ i, i < x.bn → (x.body i).same (y.body i)
 g : x.gn = y.gn ∧ ∀ i, i < x.gn → (x.grp i).same (y.grp i)
 o : x.on = y.on ∧ ∀ i, i < x.on → (x.key i).same (y.key i)
 lim : x.lim = y.lim
 off : x.off = y.off
theorem QY.lies.upper {B : Nat} {w w' : World} {x : QY} (h : x.lies B w) (hu : Upper B w w') : x.lies B w' := ⟨⟨h.s.1.upper hu, fun i hi => (h.s.2.1 i hi).upper hu, h.s.2.2⟩, ⟨h.b.1.upper hu, fun i hi => (h.b.2.1 i hi).upper hu, h.b.2.2⟩, ⟨h.g.1.upper hu, fun i hi => (h.g.2.1 i hi).upper hu, h.g.2.2⟩, ⟨h.o.1.upper hu, fun i hi => (h.o.2.1 i hi).upper hu, h.o.2.2⟩⟩
theorem QY.lies.base {B B' : Nat} {w : World} {x : QY} (h : x.lies B w) (hB : B' ≤ B) : x.lies B' w := ⟨⟨h.s.1.base hB, fun i hi => (h.s.2.1 i hi).base hB, h.s.2.2⟩, ⟨h.b.1.base hB, fun i hi => (h.b.2.1 i hi).base hB, h.b.2.2⟩, ⟨h.g.1.base hB, fun i hi => (h.g.2.1 i hi).base hB, h.g.2.2⟩, ⟨h.o.1.base hB, fun i hi => (h.o.2.1 i hi).base hB, h.o.2.2⟩⟩
theorem QY.lies.below {B : Nat} {w w' : World} {x : QY} (h : x.lies B w) (hb : Bl w w') : x.lies B w' := h.upper (uB hb)
theorem QY.came.below {w w' : World} {x : QY} (h : x.came w) (hb : Bl w w') : x.came w' := ⟨⟨h.s.1.upper (uB hb), fun i hi => (h.s.2.1 i hi).below hb, h.s.2.2⟩, ⟨h.b.1.upper (uB hb), fun i hi => (h.b.2.1 i hi).below hb, h.b.2.2⟩, ⟨h.g.1.upper (uB hb), fun i hi => Cm.below (h.g.2.1 i hi) hb, h.g.2.2⟩, ⟨h.o.1.upper (uB hb), fun i hi => (h.o.2.1 i hi).below hb, h.o.2.2⟩⟩
theorem QY.came.lies {w : World} {x : QY} (h : x.came w) (hs : x.small) : x.lies 0 w := ⟨⟨h.s.1, fun i hi => (h.s.2.1 i hi).lies (hs.1.2 i hi), hs.1.1⟩, ⟨h.b.1, fun i hi => (h.b.2.1 i hi).lies (hs.2.1.2 i hi), hs.2.1.1⟩, ⟨h.g.1, fun i hi => Cm.bs (h.g.2.1 i hi) (hs.2.2.1.2 i hi), hs.2.2.1.1⟩, ⟨h.o.1, fun i hi => (h.o.2.1 i hi).lies (hs.2.2.2.2 i hi), hs.2.2.2.1⟩⟩
theorem wpq_at {P : Program} {ops : Array Oper} {rest : List Oper} {op : Oper} {a : Act} {w : World} {Q : Exit → Act → World → Prop} (h : wpList P ops Q (op :: rest) a w) : wpList P ops Q (op :: rest) a w := h
def hasX (k : Int) : Prop := k = 4 ∨ k = 5
def hasN (k : Int) : Prop := k = 5 ∨ k = 6
def hasG (k : Int) : Prop := k = 1 ∨ k = 2 ∨ k = 3
structure NodeU (d : UN) : Prop where
 k0 : 0 ≤ d.k
 k6 : d.k ≤ 6
 p1 : d.k = 0 → ptOk d.p
 p0 : d.k ≠ 0 → zeroP d.p
 e0 : ¬ hasX d.k → zeroE d.e
 v1 : hasN d.k → nameOk d.v.b = true
 v0 : ¬ hasN d.k → d.v.b = []
 t0 : d.k ≠ 6 → d.tb = []
 tn : d.tb.length ≤ 8
 tm : ∀ x ∈ d.tb, x.td.ok = true
 a0 : ¬ hasG d.k → d.an = 0
 b0 : d.k ≠ 2 → d.bn = 0
def cellsU (d : UN) (k : Int) (nt : Nat) : List Value := [.int .i64 k, .slice d.p.s.v.a d.p.s.v.len d.p.s.v.cap, .int .i64 d.p.s.t.t.k, .slice d.p.s.t.t.a d.p.s.t.t.len d.p.s.t.t.cap, .int .i64 d.p.s.t.t.n, .int .i64 d.p.s.t.t.s, .slice d.p.p.v.a d.p.p.v.len d.p.p.v.cap, .int .i64 d.p.p.t.t.k, .slice d.p.p.t.t.a d.p.p.t.t.len d.p.p.t.t.cap, .int .i64 d.p.p.t.t.n, .int .i64 d.p.p.t.t.s, .slice d.p.o.v.a d.p.o.v.len d.p.o.v.cap, .int .i64 d.p.o.t.t.k, .slice d.p.o.t.t.a d.p.o.t.t.len d.p.o.t.t.cap, .int .i64 d.p.o.t.t.n, .int .i64 d.p.o.t.t.s, .int .i64 d.e.d.k, .int .i64 d.e.d.op, .slice d.e.d.v.a d.e.d.v.len d.e.d.v.cap, .int .i64 d.e.d.t.t.k, .slice d.e.d.t.t.a d.e.d.t.t.len d.e.d.t.t.cap, .int .i64 d.e.d.t.t.n, .int .i64 d.e.d.t.t.s, .slice d.e.d.ka d.e.d.n d.e.d.kc, .slice d.v.a d.v.len d.v.cap, .slice d.ta nt d.tc, .slice d.aa d.an d.ac, .slice d.ba d.bn d.bc]
def ownU (d : UN) : Nat := 1 + (if d.k = 4 ∨ d.k = 5 then esz d.e else 0)
def uOk : UT → Int → Prop
 | .nil, _ => False
 | .mk d ka kb, deep => deep ≤ 10 ∧ NodeU d ∧ (hasX d.k → eOk 10 d.e (deep + 1)) ∧ (∀ i, i < d.an → uOk (ka i) (deep + 1)) ∧ ∀ i, i < d.bn → uOk (kb i) (deep + 1)
def usz : UT → Nat
 | .nil => 0
 | .mk d ka kb => ownU d + (sumN d.an (fun i => usz (ka i)) + sumN d.bn (fun i => usz (kb i)))
theorem usz_mk (d : UN) (ka kb : Nat → UT) : usz (.mk d ka kb) = ownU d + (sumN d.an (fun i => usz (ka i)) + sumN d.bn (fun i => usz (kb i))) := rfl
def GIH (w0 : World) (g : Nat) (deep : Int) (a : Option Addr) (n c : Nat) (k : Nat → UT) : Prop := ∀ (L' : Int) (W : World), Bl w0 W → Ctr W g L' → 0 ≤ L' → L' ≤ 100000 → deep ≤ 10 → Calls Tryz.prog 63 #[.slice a n c, .int .i64 (deep + 1), .pointer (some ⟨g, 0, none⟩)] W (CtrAns (∀ i, i < n → uOk (k i) (deep + 1)) (sumN n (fun i => usz (k i))) g L' W)
theorem uOk_no {deep : Int} {d : UN} {ka kb : Nat → UT} {L : Int} {s : Nat} (h : ¬ NodeU d) : ¬ (uOk (.mk d ka kb) deep ∧ (s : Int) ≤ L) := fun hh => h hh.1.2.1
end Go.Proofs.YthljoojcpbignaaGreatDoor
