import Derived.Test.YtoloadogihbdeaaGreatMk16
import Derived.Deep.AppendSrc
import Derived.Laws.IdiomCopy
namespace Go.Proofs.YtoloadogihbdeaaGreat
open Go.RowKit Go.Deep
set_option maxHeartbeats 40000000
set_option maxRecDepth 100000
theorem tqB {P : Program} {md : Region.Mode} {ops : Array Oper} {Q : Exit → Act → World → Prop} {S : World → Prop} (i d : Nat) {oi : Oper} {v : Value} {fuel : Nat} {listed : Array Bool} {a a' : Act} {w : World}
 (h : wpAnyH P md ops Q S fuel (listed.setIfInBounds i true) a' w) (hS : S w := by assumption) (hi : ops[i]? = some oi := by rfl) (hd : oi.dst = some d := by rfl) (hk : (Region.noSelect ops && (Region.free md ops listed i && (Region.ready md ops listed).contains i)) = true := by kernel_rfl)
 (hQ : ∀ c a w, Q (.panic c) (a.put (some d) v) w → Q (.panic c) a w := by exact fun _ _ _ h => h) (hg : Region.wanted oi (yielded ops a.tmps) = true := by rfl) (hy : ∀ w, S w → (execOp a.eval oi).run P w = .ok (.value v) w := by intro w' hSw; go_simp; (try with_reducible rfl)) (ha : a.put (some d) v = a' := by (try simp only [Act.put, sA, zA, cA]); rfl) : wpAnyH P md ops Q S (fuel + 1) listed a w := by
 simp only [Bool.and_eq_true] at hk
 exact takeq d hi hd hk.1 hk.2.1 hk.2.2 hQ (Or.inl ⟨hg, hy⟩) hS (ha ▸ h)
theorem ldq {P : Program} {md : Region.Mode} {ops : Array Oper} {Q : Exit → Act → World → Prop} {S : World → Prop} (i d : Nat) {oi : Oper} {fuel : Nat} {listed : Array Bool} {a a' : Act} {w : World} {ty : TypeId} {x : Operand} {b o : Nat} {cs : List Value} {dd : TypeDesc}
 (hu : P.underlying ty = some dd) (hc : ∀ w, S w → w.rangeAt b o cs) (h : wpAnyH P md ops Q S fuel (listed.setIfInBounds i true) a' w) (hS : S w := by assumption) (hi : ops[i]? = some oi := by rfl) (hd : oi.dst = some d := by rfl) (ho : oi.op = .load ty x := by rfl) (hx : a.eval x = .pointer (some ⟨b, o, none⟩) := by rfl) (hr : dd.isRow = true := by rfl) (hsz : (P.info? ty).map (·.size) = some cs.length := by kernel_rfl) (hk : (Region.noSelect ops && (Region.free md ops listed i && (Region.ready md ops listed).contains i)) = true := by kernel_rfl)
 (hQ : ∀ c a w, Q (.panic c) (a.put (some d) (.agg cs.toArray)) w → Q (.panic c) a w := by exact fun _ _ _ h => h) (hg : Region.wanted oi (yielded ops a.tmps) = true := by rfl) (ha : a.put (some d) (.agg cs.toArray) = a' := by (try simp only [Act.put, sA, zA, cA]); rfl) : wpAnyH P md ops Q S (fuel + 1) listed a w := by
 simp only [Bool.and_eq_true] at hk
 exact takeq d hi hd hk.1 hk.2.1 hk.2.2 hQ (yieldsIf_load_mid hg ty x ho b o hx cs dd hc hu hr hsz) hS (ha ▸ h)
theorem rqA {P : Program} {md : Region.Mode} {ops : Array Oper} {Q : Exit → Act → World → Prop} {S : World → Prop} (i : Nat) {o : Oper} {fuel : Nat} {listed : Array Bool} {a : Act} {w : World}
 (h : ∀ K' : Act → World → Prop, Shut (∀ a w, S w → (S w → wpAnyH P md ops Q S fuel (listed.setIfInBounds i true) a w) → K' a w) → if Region.wanted o (yielded ops a.tmps) = true then Oper.wp P o a w K' Q else K' (a.put o.dst undef) w)
 (hr : Region.ready md ops listed = [i] := by kernel_rfl) (ho : ops[i]? = some o := by rfl) : wpAnyH P md ops Q S (fuel + 1) listed a w := wpAnyH_ready hr (by simp) (AllReadyH.cons ho h AllReadyH.nil)
theorem wqd {P : Program} {ops : Array Oper} {Q : Exit → Act → World → Prop} (S : World → Prop) {id : Nat} {a : Act} {w : World} (hS : S w.drew) (h : S w.drew → wpAnyH P .any ops Q S ops.size (Array.replicate ops.size false) a w.drew) (hm : P.follows .mixedOrders = true := by kernel_rfl) : (Code.region id ops true).wp P Q a w := wp_region_held_drew hm hS h
theorem step_storeV {ops : Array Oper} {op : Oper} {a : Act} {w : World} {K : Act → World → Prop} {Q : Exit → Act → World → Prop} {E : Prop} (ty : TypeId) (b o : Nat) (cells : Array Value) (ht : w.there b o cells.size) (h1 : cells.all (·.oneCell') = true) {x y : Operand}
 (h : K (a.put op.dst undef) (w.setCells b o cells.toList)) (hgd : op.guard = none := by rfl) (ho : op.op = .store ty x y := by rfl) (hx : a.eval x = .pointer (some ⟨b, o, none⟩) := by rfl) (hy : a.eval y = .agg cells := by rfl) (hi : (Tryz.prog.info? ty).map (·.size) = some cells.size := by kernel_rfl) : if Region.wanted op (yielded ops a.tmps) = true then Oper.wp Tryz.prog op a w K Q else E := by
 have hw : Region.wanted op (yielded ops a.tmps) = true := by simp [Region.wanted, hgd]
 rw [if_pos hw]
 exact wp_store_mid ty x y ho b o cells hx hy ht hi h1 h
theorem results_cell2 {P : Program} {fn : Func} {tmps : Array Value} {w : World} {a b : Nat} {t : TypeId} {ad : Addr} {v u : Value} (hf : fn.results = #[.cell a t, .tmp b]) (ht : tmps.getD a undef = .pointer (some ad)) (hq : tmps.getD b undef = u) (hl : (loadVar t ad).run P w = .ok v w) : (results fn tmps).run P w = .ok (.tuple #[v, u]) w := by
 have h2 : tmps[a]?.getD undef = .pointer (some ad) := by simpa using ht
 have h3 : tmps[b]?.getD undef = u := by simpa using hq
 simp [results, hf, h2, h3, asAddr, hl]
theorem below_setCells {w0 : World} {B b : Nat} (hB : B ≤ b) : ∀ (vs : List Value) (o : Nat) (w : World), Below B w0 w → Below B w0 (w.setCells b o vs)
 | [], _, _, h => h
 | v :: r, o, w, h => by
  rw [World.setCells]
  exact below_setCells hB r (o + 1) _ (h.setCell (p := ⟨b, o, none⟩) hB v)
theorem bs_of_cells {w : World} {g n : Nat} {bs : List Int} (hl : bs.length = n) (hn : n ≤ 1048576) (hb : Byt bs) (hg : g < w.heap.size) (hc : ∀ i, i < n → w.cell? ⟨g, i, none⟩ = some (.int .u8 (bs[i]?.getD 0))) : Bs w (some ⟨g, 0, none⟩) n bs :=
 ⟨hl, hn, fun i => hb.get i, .inr ⟨g, 0, rfl, hg, fun i hi => by rw [Nat.zero_add]; exact hc i hi⟩⟩
theorem oneCell_map (bs : List Int) : ∀ u ∈ bs.map (Value.int .u8), u.oneCell' = true := by
 intro u hu
 obtain ⟨x, _, rfl⟩ := List.mem_map.1 hu
 rfl
def Tz (w : World) (B : Nat) (a : Option Addr) (len cap : Nat) (bs : List Int) : Prop :=
 Bs w a len bs ∧ ((a = none ∧ len = 0 ∧ cap = 0) ∨ ∃ g, a = some ⟨g, 0, none⟩ ∧ B ≤ g ∧ g < w.heap.size ∧ len ≤ cap ∧ ∀ j, j < cap → (w.cell? ⟨g, j, none⟩).isSome = true ∧ w.frozen? ⟨g, j, none⟩ = false)
theorem wp_app8r {o : Oper} {a : Act} {K : Act → World → Prop} {Q : Exit → Act → World → Prop} {w : World} (s x : Operand) (tx : TypeId)
 (ho : o.op = .call { callee := .builtin .append, args := #[s, x], argTypes := #[23, tx] })
 (B n cap : Nat) (a0 : Option Addr) (us : List Int) (hs : a.eval s = .slice a0 n cap) (HT : Tz w B a0 n cap us)
 (xv : Value) (m : Nat) (bs : List Int) (hx : a.eval x = xv) (hml : bs.length = m) (h0 : a0 = none → 0 < m)
 (hrR : ∀ g, a0 = some ⟨g, 0, none⟩ → n + m ≤ cap → (Builtin.append_ #[23, tx] o.type #[.slice (some ⟨g, 0, none⟩) n cap, xv]).run Tryz.prog w = .ok (.slice (some ⟨g, 0, none⟩) (n + m) cap) (w.setCells g n (bs.map (Value.int .u8))))
 (hrG : cap < n + m → (Builtin.append_ #[23, tx] o.type #[.slice a0 n cap, xv]).run Tryz.prog w = .ok (.slice (some ⟨w.heap.size, 0, none⟩) (n + m) (grownCap w (n + m) cap 5)) (w.drew.alloc (.cells ((us.map (Value.int .u8) ++ bs.map (Value.int .u8)).toArray ++ Builtin.zeroCells (Value.int IntKind.u8 0).cells (grownCap w (n + m) cap 5 - (n + m))) 5)))
 (HY : Byt (us ++ bs)) (hle : n + m ≤ 1048576) (hB : B ≤ w.heap.size)
 (h : ∀ g' cap' w', Hd (Tz w' B (some ⟨g', 0, none⟩) (n + m) cap' (us ++ bs)) → Hd (Below B w w') → K (a.put o.dst (.slice (some ⟨g', 0, none⟩) (n + m) cap')) w') :
 Oper.wp Tryz.prog o a w K Q := by
 obtain ⟨hBs, hh⟩ := HT
 have hul : us.length = n := hBs.1
 by_cases hroom : n + m ≤ cap
 · rcases hh with ⟨e0, e1, e2⟩ | ⟨g, hg', hBg, hgl, hnc, hcells⟩
   · have := h0 e0
     omega
   subst hg'
   have hr := hrR g rfl hroom
   have hold : ∀ i, i < n → w.cell? ⟨g, i, none⟩ = some (.int .u8 (us[i]?.getD 0)) := fun i hi => by
    rcases hBs.2.2.2 with h0 | ⟨b, off, e, _, hc⟩
    · omega
    cases e
    have := hc i hi
    rwa [Nat.zero_add] at this
   have hsome : ∀ j, j < (bs.map (Value.int .u8)).length → (w.cell? ⟨g, n + j, none⟩).isSome = true := fun j hj => by
    rw [List.length_map] at hj
    exact (hcells (n + j) (by omega)).1
   have hin := World.cell?_setCells_in g (bs.map (Value.int .u8)) n w hsome
   have hout := World.cell?_setCells_out g (bs.map (Value.int .u8)) n w
   have hfz := World.frozen?_setCells g (bs.map (Value.int .u8)) n w
   have hbl := below_setCells (B := B) hBg (bs.map (Value.int .u8)) n w (Below.refl B w)
   have hcell : ∀ i, i < n + m → (w.setCells g n (bs.map (Value.int .u8))).cell? ⟨g, i, none⟩ = some (.int .u8 ((us ++ bs)[i]?.getD 0)) := fun i hi => by
    by_cases hin' : i < n
    · rw [hout ⟨g, i, none⟩ (fun _ _ => .inl hin'), hold i hin', List.getElem?_append_left (by omega)]
    obtain ⟨j, rfl⟩ : ∃ j, i = n + j := ⟨i - n, by omega⟩
    rw [hin j (by rw [List.length_map]; omega), List.getElem?_append_right (by omega), hul, Nat.add_sub_cancel_left, List.getElem?_eq_getElem (by omega)]
    simp
   unfold Oper.wp execOp
   simp only [ho, resolve, invoke, builtin, Sem.run_bind, Sem.run_pure, Result.andThen_ok, List.map_toArray, List.map_cons, List.map_nil, hs, hx, hr]
   refine (h g cap _ ⟨bs_of_cells (by rw [List.length_append]; omega) (by omega) HY (Nat.lt_of_lt_of_le hgl hbl.size) hcell, .inr ⟨g, rfl, hBg, Nat.lt_of_lt_of_le hgl hbl.size, hroom, fun j hj => ⟨?_, (hfz _).trans (hcells j hj).2⟩⟩⟩ hbl)
   by_cases hjm : j < n + m
   · rw [hcell j hjm]
     rfl
   rw [hout ⟨g, j, none⟩ (fun _ _ => .inr (by rw [List.length_map]; show n + bs.length ≤ j; omega))]
   exact (hcells j hj).1
 have hr := hrG (by omega)
 have hge := grownCap_ge w (n + m) cap 5
 unfold Oper.wp execOp
 simp only [ho, resolve, invoke, builtin, Sem.run_bind, Sem.run_pure, Result.andThen_ok, List.map_toArray, List.map_cons, List.map_nil, hs, hx, hr]
 obtain ⟨C, hC⟩ : ∃ C, grownCap w (n + m) cap 5 = C := ⟨_, rfl⟩
 rw [hC] at hge ⊢
 have hat : ∀ j, (w.drew.alloc (.cells ((us.map (Value.int .u8) ++ bs.map (Value.int .u8)).toArray ++ Builtin.zeroCells (Value.int IntKind.u8 0).cells (C - (n + m))) 5)).cell? ⟨w.heap.size, j, none⟩ = ((us.map (Value.int .u8) ++ bs.map (Value.int .u8)).toArray ++ Builtin.zeroCells (Value.int IntKind.u8 0).cells (C - (n + m)))[j]? := fun j => by
  simp [go_sem]
 have hbl : Below B w (w.drew.alloc (.cells ((us.map (Value.int .u8) ++ bs.map (Value.int .u8)).toArray ++ Builtin.zeroCells (Value.int IntKind.u8 0).cells (C - (n + m))) 5)) := (Below.drew (Below.refl B w)).alloc hB _
 have hcell : ∀ i, i < n + m → (w.drew.alloc (.cells ((us.map (Value.int .u8) ++ bs.map (Value.int .u8)).toArray ++ Builtin.zeroCells (Value.int IntKind.u8 0).cells (C - (n + m))) 5)).cell? ⟨w.heap.size, i, none⟩ = some (.int .u8 ((us ++ bs)[i]?.getD 0)) := fun i hi => by
  rw [hat, Array.getElem?_append_left (by simp; omega), ← List.map_append, List.getElem?_toArray, List.getElem?_map, List.getElem?_eq_getElem (by rw [List.length_append]; omega)]
  simp
 refine (h w.heap.size C _ ⟨bs_of_cells (by rw [List.length_append]; omega) (by omega) HY (by simp) hcell, .inr ⟨w.heap.size, rfl, hB, by simp, hge, fun j hj => ⟨?_, by simp [go_sem]⟩⟩⟩ hbl)
 rw [hat, Array.getElem?_eq_getElem (by simp [Builtin.zeroCells, Value.cells]; omega)]
 rfl
theorem tz_first {w : World} {B : Nat} {a0 : Option Addr} {n cap : Nat} {us : List Int} (h : Tz w B a0 n cap us) (z : Nat) (hz : z = 1) : (Builtin.firstCells z n (.slice a0 n cap)).run Tryz.prog w.drew = .ok (us.map (Value.int .u8)).toArray w.drew := by
 subst hz
 rcases h.2 with ⟨rfl, rfl, rfl⟩ | ⟨g, rfl, _⟩
 · have : us = [] := List.eq_nil_of_length_eq_zero h.1.1
   subst this
   exact run_firstCells_none w.drew 1 0 0 0
 have hul := h.1.1
 refine run_firstCells_some w.drew 1 n ⟨g, 0, none⟩ n cap _ (by rw [List.length_map]; omega) fun j v hv => ?_
 have hj : j < n := by have := (List.getElem?_eq_some_iff.1 hv).1; simpa [hul] using this
 have e : w.drew.cell? ((⟨g, 0, none⟩ : Addr).add j) = w.cell? ⟨g, j, none⟩ := by
  rw [Addr.add_lit, Nat.zero_add]
  rfl
 rw [e]
 rcases h.1.2.2.2 with h0 | ⟨b, off, e, _, hc⟩
 · omega
 cases e
 have hx := hc j hj
 rw [Nat.zero_add] at hx
 rw [hx]
 rw [List.getElem?_map, List.getElem?_eq_getElem (by omega)] at hv
 rw [List.getElem?_eq_getElem (by omega)]
 simpa using hv
theorem wp_app8z {o : Oper} {a : Act} {K : Act → World → Prop} {Q : Exit → Act → World → Prop} {w : World} (s x : Operand) (tx : TypeId)
 (ho : o.op = .call { callee := .builtin .append, args := #[s, x], argTypes := #[23, tx] })
 (B n cap : Nat) (a0 : Option Addr) (us : List Int) (hs : a.eval s = .slice a0 n cap) (HT : Hd (Tz w B a0 n cap us))
 (xv : Value) (m : Nat) (bs : List Int) (hx : a.eval x = xv) (h0 : a0 = none → 0 < m) (HS : Hd (Src Tryz.prog 1 tx xv m (bs.map (Value.int .u8)) w)) (HY : Hd (Byt (us ++ bs))) (N : Nat) (hN : n + m = N) (zs : List Int) (hz : us ++ bs = zs) (hle : N ≤ 1048576) (hB : B ≤ w.heap.size)
 (h : ∀ g' cap' w', Hd (Tz w' B (some ⟨g', 0, none⟩) N cap' zs) → Hd (Below B w w') → K (a.put o.dst (.slice (some ⟨g', 0, none⟩) N cap')) w') :
 Oper.wp Tryz.prog o a w K Q := by
 obtain ⟨i0, hi0, hzz⟩ := Option.map_eq_some_iff.1 Tryz.info5
 simp only [Prod.mk.injEq] at hzz
 obtain ⟨hi2, hi1, hi3⟩ := hzz
 subst hN hz
 have hsrc : Src Tryz.prog i0.size tx xv m (bs.map (Value.int .u8)) w := by rw [hi1]; exact HS.o
 have hml : bs.length = m := by have := HS.o.newsLen; simpa using this
 refine wp_app8r s x tx ho B n cap a0 us hs HT.o xv m bs hx hml h0 (fun g hg hroom => ?_) (fun hno => ?_) HY.o hle hB h
 · subst hg
   rcases HT.o.2 with ⟨e0, _⟩ | ⟨g', hg', hBg, hgl, hnc, hcells⟩
   · cases e0
   cases hg'
   have hr := run_append_room_src (P := Tryz.prog) w 23 tx o.type 5 i0 Tryz.underlying23 hi0 g 0 n cap xv m (bs.map (Value.int .u8)) hsrc hroom (fun j hj => by
    rw [List.length_map] at hj
    rw [hi1, Nat.zero_add, Nat.mul_one]
    exact (hcells (n + j) (by omega)).1) (fun j hj => by
    rw [List.length_map] at hj
    rw [hi1, Nat.zero_add, Nat.mul_one]
    exact (hcells (n + j) (by omega)).2)
   rwa [hi1, Nat.zero_add, Nat.mul_one] at hr
 exact run_append_grow_src (P := Tryz.prog) w 23 tx o.type 5 i0 (.int .u8 0) Tryz.underlying23 hi0 hi2 a0 n cap (us.map (Value.int .u8)) (tz_first HT.o _ hi1) xv m (bs.map (Value.int .u8)) hsrc (by omega) (by omega) (growslice_fits (by omega) (by rw [hi3]; omega))
theorem step_app8z {ops : Array Oper} {o : Oper} {a : Act} {K : Act → World → Prop} {Q : Exit → Act → World → Prop} {w : World} {E : Prop} (hgd : o.guard = none) (s x : Operand) (tx : TypeId)
 (ho : o.op = .call { callee := .builtin .append, args := #[s, x], argTypes := #[23, tx] })
 (B n cap : Nat) (a0 : Option Addr) (us : List Int) (hs : a.eval s = .slice a0 n cap) (HT : Hd (Tz w B a0 n cap us))
 (xv : Value) (m : Nat) (bs : List Int) (hx : a.eval x = xv) (h0 : a0 = none → 0 < m) (HS : Hd (Src Tryz.prog 1 tx xv m (bs.map (Value.int .u8)) w)) (HY : Hd (Byt (us ++ bs))) (N : Nat) (hN : n + m = N) (zs : List Int) (hz : us ++ bs = zs) (hle : N ≤ 1048576) (hB : B ≤ w.heap.size)
 (h : ∀ g' cap' w', Hd (Tz w' B (some ⟨g', 0, none⟩) N cap' zs) → Hd (Below B w w') → K (a.put o.dst (.slice (some ⟨g', 0, none⟩) N cap')) w') :
 if Region.wanted o (yielded ops a.tmps) = true then Oper.wp Tryz.prog o a w K Q else E := by
 have hw : Region.wanted o (yielded ops a.tmps) = true := by simp [Region.wanted, hgd]
 rw [if_pos hw]
 exact wp_app8z s x tx ho B n cap a0 us hs HT xv m bs hx h0 HS HY N hN zs hz hle hB h
theorem list_app8z {ops : Array Oper} {rest : List Oper} {o : Oper} {a : Act} {Q : Exit → Act → World → Prop} {w : World} (hgd : o.guard = none) (s x : Operand) (tx : TypeId)
 (ho : o.op = .call { callee := .builtin .append, args := #[s, x], argTypes := #[23, tx] })
 (B n cap : Nat) (a0 : Option Addr) (us : List Int) (hs : a.eval s = .slice a0 n cap) (HT : Hd (Tz w B a0 n cap us))
 (xv : Value) (m : Nat) (bs : List Int) (hx : a.eval x = xv) (h0 : a0 = none → 0 < m) (HS : Hd (Src Tryz.prog 1 tx xv m (bs.map (Value.int .u8)) w)) (HY : Hd (Byt (us ++ bs))) (N : Nat) (hN : n + m = N) (zs : List Int) (hz : us ++ bs = zs) (hle : N ≤ 1048576) (hB : B ≤ w.heap.size)
 (h : ∀ g' cap' w', Hd (Tz w' B (some ⟨g', 0, none⟩) N cap' zs) → Hd (Below B w w') → wpList Tryz.prog ops Q rest (a.put o.dst (.slice (some ⟨g', 0, none⟩) N cap')) w') :
 wpList Tryz.prog ops Q (o :: rest) a w :=
 wpList_plain hgd fun _ hK => wp_app8z s x tx ho B n cap a0 us hs HT xv m bs hx h0 HS HY N hN zs hz hle hB fun g' cap' w' h1 h2 => hK _ _ (h g' cap' w' h1 h2)
theorem src_bs {w : World} {a : Option Addr} {n c : Nat} {bs : List Int} (h : Bs w a n bs) : Src Tryz.prog 1 23 (.slice a n c) n (bs.map (Value.int .u8)) w := by
 cases a with
 | some p =>
  refine Src.ofSlice w Tryz.underlying23 p n c _ (by rw [List.length_map, h.1, Nat.mul_one]) (fun j u hu => ?_) (oneCell_map bs)
  have hj : j < n := by have := (List.getElem?_eq_some_iff.1 hu).1; simpa [h.1] using this
  rcases h.2.2.2 with h0 | ⟨b, off, e, _, hc⟩
  · omega
  cases e
  have e2 : (⟨b, off, none⟩ : Addr).add j = ⟨b, off + j, none⟩ := Addr.add_lit _ _ _
  rw [e2, hc j hj]
  rw [List.getElem?_map] at hu
  have hjl : j < bs.length := by rw [h.1]; exact hj
  rw [List.getElem?_eq_getElem hjl] at hu ⊢
  simpa using hu
 | none =>
  have h0 : n = 0 := by
   rcases h.2.2.2 with h0 | ⟨b, off, e, _, hc⟩
   · exact h0
   cases e
  subst h0
  have hb : bs = [] := List.eq_nil_of_length_eq_zero h.1
  subst hb
  exact Src.ofNil w Tryz.underlying23 c
theorem Tz.new0v (w : World) : Tz (w.alloc (.cells #[] 5)) w.heap.size (some ⟨w.heap.size, 0, none⟩) 0 0 [] :=
 ⟨⟨rfl, by omega, by simp, .inl rfl⟩, .inr ⟨_, rfl, nR, by simp, nR, fun j hj => by omega⟩⟩
structure QS (w0 w : World) (B g : Nat) (v0 v : Value) (L : List SL) (cs : List Value) (W : World) : Prop where
 vq : VQ w0 W B g v L
 kq : KQ g v0 w v W
 bx : Box W w.heap.size cs
 ne : v.ownBlock ≠ some w.heap.size
 gw : g < w.heap.size
theorem QS.new {w0 w : World} {B g : Nat} {v : Value} {L : List SL} (h : VQ w0 w B g v L) (cs : Array Value) (t : TypeId) : QS w0 w B g v v L cs.toList (w.alloc (.cells cs t)) :=
 ⟨h.below (bl_a _), KQ.of_below (bl_a _), Box.new w cs t (0, 0), fun e => by have := (h.vl.lo _ e).2; omega, h.lt⟩
theorem QS.below {w0 w : World} {B g : Nat} {v0 v : Value} {L : List SL} {cs : List Value} {W W' : World} (h : QS w0 w B g v0 v L cs W) (hb : Bl W W') : QS w0 w B g v0 v L cs W' :=
 ⟨h.vq.below hb, h.kq.trans (KQ.of_below hb), h.bx.below hb, h.ne, h.gw⟩
theorem QS.step {w0 w : World} {B g : Nat} {v0 v v' : Value} {L L' : List SL} {cs : List Value} {W W' : World} (h : QS w0 w B g v0 v L cs W) (hV : VQ w0 W' B g v' L') (hK : KQ g v W v' W') : QS w0 w B g v0 v' L' cs W' :=
 ⟨hV, h.kq.trans hK, hK.box h.bx (by have := h.gw; omega) h.ne, fun e => by
  rcases hK.blk _ e with e | e
  · exact h.ne e
  have := h.bx.1
  omega, h.gw⟩
theorem addPat_any (v : Value) (L : List SL) (x : PB) (B g : Nat) (w0 w : World) (h : VQ w0 w B g v L) (hx : x.lies 0 w0) (hn : L.length + 3 ≤ 1000000) :
 Calls Tryz.prog 118 #[.pointer (some ⟨g, 0, none⟩), .agg x.ar] w (AddQ w0 B g v (ptV x (L.map SL.b)) w) := by
 have HQ0 := iH (QS.new h x.ar 39)
 have HX := iH hx
 have HL1 : Hd (L.length ≤ 1000000) := (show L.length ≤ _ by omega)
 clear h hx
 go_in
 go_wp2_with fail
 refine (add_any v L x.s.v B g w0 _ HQ0.o.vq HX.o.1.1 HL1.o).mono ?_
 rintro e z1 ⟨v1, L1, rfl, hV1, hR1, hK1⟩
 have HQ1 := iH (HQ0.o.step hV1 hK1)
 have HR1 := iH hR1
 have HL2 : Hd (L1.length ≤ 1000000) := (show L1.length ≤ _ by have h1 := congrArg List.length hR1; have h2 := addV_len (L.map SL.b) x.s.v.b; rw [List.length_map] at h1 h2; omega)
 have HL3 : Hd (L1.length ≤ L.length + 1) := (show L1.length ≤ _ by have h1 := congrArg List.length hR1; have h2 := addV_len (L.map SL.b) x.s.v.b; rw [List.length_map] at h1 h2; omega)
 have y1 := HQ1.o.bx.2 5 _ rfl
 clear hV1 hR1 hK1 HQ0
 go_wp2_with fail
 refine (add_any v1 L1 x.p.v B g w0 _ HQ1.o.vq HX.o.2.1.1 HL2.o).mono ?_
 rintro e z2 ⟨v2, L2, rfl, hV2, hR2, hK2⟩
 have HQ2 := iH (HQ1.o.step hV2 hK2)
 have HR2 : Hd (L2.map SL.b = addV (addV (L.map SL.b) x.s.v.b) x.p.v.b) := (show _ = _ by rw [hR2, HR1.o])
 have HL4 : Hd (L2.length ≤ 1000000) := (show L2.length ≤ _ by have h1 := congrArg List.length hR2; have h2 := addV_len (L1.map SL.b) x.p.v.b; have h3 := HL3.o; rw [List.length_map] at h1 h2; omega)
 have y2 := HQ2.o.bx.2 10 _ rfl
 clear hV2 hR2 hK2 HQ1 y1
 go_wp2_with fail
 refine (add_any v2 L2 x.o.v B g w0 _ HQ2.o.vq HX.o.2.2.1 HL4.o).mono ?_
 rintro e z3 ⟨v3, L3, rfl, hV3, hR3, hK3⟩
 have HQ3 := iH (HQ2.o.step hV3 hK3)
 have HR3 : Hd (L3.map SL.b = ptV x (L.map SL.b)) := (show _ = _ by rw [hR3, HR2.o]; rfl)
 clear hV3 hR3 hK3 HQ2 y2
 go_wp2
 go_end0
 exact ⟨v3, L3, rfl, HQ3.o.vq, HR3.o, HQ3.o.kq⟩
theorem addExpr_any (e : ET) : ∀ (v : Value) (L : List SL) (B g : Nat) (w0 w : World), e.lies 0 w0 → VQ w0 w B g v L → L.length + esz e ≤ 1000000 →
 Calls Tryz.prog 119 #[.pointer (some ⟨g, 0, none⟩), .agg e.d.ar] w (AddQ w0 B g v (eV e (L.map SL.b)) w) := by
 induction e with
 | nil => exact fun _ _ _ _ _ _ h => False.elim h
 | mk d kid ih =>
  intro v L B g w0 w hl h hn
  show Calls Tryz.prog 119 #[.pointer (some ⟨g, 0, none⟩), .agg d.ar] w (AddQ w0 B g v (eV (.mk d kid) (L.map SL.b)) w)
  obtain ⟨hv, _, _, hn20, hR, hk⟩ := hl
  have hsz : esz (.mk d kid) = 1 + sumN d.n (fun i => esz (kid i)) := rfl
  have HIH := iH (fun i (hi : i < d.n) (v' : Value) (L' : List SL) (W : World) (hV : VQ w0 W B g v' L') (hL : L'.length + esz (kid i) ≤ 1000000) => ih i v' L' B g w0 W (hk i hi) hV hL)
  have HQ0 := iH (QS.new h d.ar 42)
  have HVX := iH hv
  have HKR := iH hR
  have HL1 : Hd (L.length ≤ 1000000) := (show L.length ≤ _ by omega)
  have HLK : Hd (∀ k, k < d.n → (foldN k (fun i acc => eV (kid i) acc) (addV (L.map SL.b) d.v.b)).length + esz (kid k) ≤ 1000000) := fun k hk => by
   have h1 := foldN_len (f := (fun i acc => eV (kid i) acc)) (c := fun i => esz (kid i)) (n := k) (fun i l _ => eV_len (kid i) l) (addV (L.map SL.b) d.v.b)
   have h2 := addV_len (L.map SL.b) d.v.b
   rw [List.length_map] at h2
   have h3 := sumN_mono (f := fun i => esz (kid i)) (show k + 1 ≤ d.n by omega)
   have h4 : sumN (k + 1) (fun i => esz (kid i)) = sumN k (fun i => esz (kid i)) + esz (kid k) := rfl
   omega
  clear h hv hR hk ih hn hsz
  go_in
  go_wp2_with fail
  refine (add_any v L d.v B g w0 _ HQ0.o.vq HVX.o HL1.o).mono ?_
  rintro e z1 ⟨v1, L1, rfl, hV1, hR1, hK1⟩
  have HQ1 := iH (HQ0.o.step hV1 hK1)
  have HR1 := iH hR1
  have y7 := HQ1.o.bx.2 7 _ rfl
  clear hV1 hR1 hK1 HQ0
  obtain ⟨n, hnn⟩ : ∃ n, n = d.n := ⟨_, rfl⟩
  have HNN := iH hnn
  rw [← hnn] at y7
  by_cases hn1 : n = 0
  · have HR0 : Hd (L1.map SL.b = eV (.mk d kid) (L.map SL.b)) := (show _ = foldN d.n _ _ by rw [← hnn, hn1, HR1.o]; rfl)
    rw [hn1] at y7
    clear hn1 hnn
    go_wp2_with fail
    clear y7
    go_loopw [13] (fun i wr => i = .int .i64 0 ∧ Hd (QS w0 w B g v v1 L1 [.int .i64 d.k, .int .i64 d.op, .slice d.v.a d.v.len d.v.cap, .int .i64 d.t.t.k, .slice d.t.t.a d.t.t.len d.t.t.cap, .int .i64 d.t.t.n, .int .i64 d.t.t.s, .slice d.ka d.n d.kc] wr)) (fun _ _ => 0)
    case atStart => exact ⟨rfl, HQ1⟩
    obtain ⟨rfl, HQr⟩ := hrel
    go_wp2
    go_end0
    exact ⟨v1, L1, rfl, HQr.o.vq, HR0.o, HQr.o.kq⟩
  obtain ⟨b, off, eK, _, hbk, hck⟩ := HKR.o.resolve_left (by omega)
  have HCK := iH hck
  have hbk' : b < w0.heap.size := hbk
  have hn2 : n ≤ 1048576 := by omega
  rw [eK] at y7
  clear eK hck hnn hbk HKR
  go_wp2_with fail
  clear y7
  go_loopw [13] (fun i wr => ∃ (k : Nat) (v' : Value) (L' : List SL), k ≤ n ∧ i = .int .i64 k ∧ Hd (L'.map SL.b = foldN k (fun i acc => eV (kid i) acc) (addV (L.map SL.b) d.v.b)) ∧ Hd (QS w0 w B g v v' L' [.int .i64 d.k, .int .i64 d.op, .slice d.v.a d.v.len d.v.cap, .int .i64 d.t.t.k, .slice d.t.t.a d.t.t.len d.t.t.cap, .int .i64 d.t.t.n, .int .i64 d.t.t.s, .slice d.ka d.n d.kc] wr)) (fun i _ => n - (intOf i).toNat)
  case atStart => exact ⟨0, v1, L1, nZ, rfl, HR1, HQ1⟩
  clear HQ1
  obtain ⟨k, v', L', hk, rfl, HRr, HQr⟩ := hrel
  by_cases hlk : k < n
  rotate_left
  · obtain rfl : k = n := by omega
    have hlkz : ¬ (k : Int) < (k : Int) := by omega
    have HR2 : Hd (L'.map SL.b = eV (.mk d kid) (L.map SL.b)) := (show _ = foldN d.n _ _ by rw [← HNN.o]; exact HRr.o)
    go_wp2
    go_end0
    exact ⟨v', L', rfl, HQr.o.vq, HR2.o, HQr.o.kq⟩
  have hlkz : (k : Int) < (n : Int) := by omega
  have hcx : wr.rangeAt b (off + k * 8) (kid k).d.cl := fun c u hu => (HQr.o.vq.bl.cell (p := ⟨b, off + k * 8 + c, none⟩) hbk').trans (HCK.o k (by rw [← HNN.o]; exact hlk) c u hu)
  have HLl : Hd (L'.length + esz (kid k) ≤ 1000000) := (show _ ≤ 1000000 by have h1 := HLK.o k (by rw [← HNN.o]; exact hlk); have h2 := congrArg List.length HRr.o; rw [List.length_map] at h2; omega)
  go_wp2_with (with_reducible refine wpl_at ?_; refine wpList_load_mid rfl 42 _ rfl _ _ rfl (kid k).d.cl _ hcx Tryz.underlying42 rfl (by kernel_rfl) ?_; try simp only [Act.put, sA, zA, cA])
  refine (HIH.o k (by rw [← HNN.o]; exact hlk) v' L' _ (HQr.o.vq.below (bl_a _)) HLl.o).mono ?_
  rintro e z5 ⟨v5, L5, rfl, hV5, hR5, hK5⟩
  have HQ5 := iH ((HQr.o.below (bl_a _)).step hV5 hK5)
  have HR5 : Hd (L5.map SL.b = foldN (k + 1) (fun i acc => eV (kid i) acc) (addV (L.map SL.b) d.v.b)) := (show _ = eV (kid k) _ by rw [hR5, HRr.o])
  clear hV5 hR5 hK5 hcx HQr
  go_wp2
  go_roundw
  case rel => exact ⟨k + 1, v5, L5, by omega, by go_num, HR5, HQ5⟩
  case measure => simp [intOf]; omega
end Go.Proofs.YtoloadogihbdeaaGreat
