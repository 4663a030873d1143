import Derived.Test.YtoloadogihbdeaaGreatMk15
namespace Go.Proofs.YtoloadogihbdeaaGreat
open Go.RowKit Go.Deep
set_option maxHeartbeats 40000000
set_option maxRecDepth 100000
variable {a : Act} {K : Act → World → Prop} {Q : Exit → Act → World → Prop} {k : Int} {L : List Value} {B b g hi lo : Nat} {o p : Oper} {w w' : World}
def ownTsR (w : World) (n : Nat) (kid : Nat → TB) (e : Ending) (w' : World) : Prop := ∃ (a' : Option Addr) (c' : Nat) (k' : Nat → TB), e = .returned (.slice a' n c') ∧ n ≤ c' ∧ KRow w.heap.size w' 4 a' n (fun i => enc4 (k' i).t) ∧ RoZ w.heap.size w' a' n 4 ∧ (∀ i, i < n → (k' i).own w.heap.size w') ∧ (∀ i, i < n → (kid i).td = (k' i).td) ∧ Cp w.heap.size w'.heap.size (rfp a' n ++ catB (fun i => (k' i).fp) n) ∧ Bl w w'
theorem infoT5 : (Tryz.prog.info? 35).map (fun i => (i.zero, i.size, i.bytes)) = some (some (.agg #[.int .i64 0, .slice none 0 0, .int .i64 0, .int .i64 0]), 4, 48) := by kernel_rfl
theorem ownTs (a : Option Addr) (cap n : Nat) (kid : Nat → TB) (w : World) (hn : n ≤ 1048576) (hR : KRow 0 w 4 a n (fun i => enc4 (kid i).t))
 (IH : ∀ i, i < n → ∀ W, Bl w W → Calls Tryz.prog 116 #[.agg #[.int .i64 (kid i).t.k, .slice (kid i).t.a (kid i).t.len (kid i).t.cap, .int .i64 (kid i).t.n, .int .i64 (kid i).t.s]] W fun e w' => ∃ y : TB, e = .returned (.agg #[.int .i64 y.t.k, .slice y.t.a y.t.len y.t.cap, .int .i64 y.t.n, .int .i64 y.t.s]) ∧ y.own W.heap.size w' ∧ Cp W.heap.size w'.heap.size y.fp ∧ (kid i).td = y.td ∧ Bl W w') :
 Calls Tryz.prog 79 #[.slice a n cap] w (ownTsR w n kid) := by
 have HI := iH IH;by_cases h0 : n = 0
 · subst h0
   clear hR HI IH;go_in;go_wp2;refine wl1 ?_;go_wp2;go_ret;exact ⟨none, 0, kid, rfl, nR, .inl rfl, .inl rfl, fun i hi => absurd hi nN, fun i hi => absurd hi nN, Cp.nil _ _, Below.refl _ _⟩
 obtain ⟨b, off, rfl, _, hlt, hc⟩ := hR.resolve_left h0;have HC := iH hc;clear hR hc IH h0;go_in;go_wp2_with fail
 go_loopw [3, 4] (fun o i wr => ∃ (j : Nat) (v : Value) (k' : Nat → TB), j ≤ n ∧ v = o ∧ i = .int .i64 j ∧ Hd (RowO 35 4 w wr v j (fun i => enc4 (k' i).t) (fun i => (k' i).fp)) ∧ Hd (∀ i, i < j → (k' i).own w.heap.size wr) ∧ Hd (∀ i, i < j → (kid i).td = (k' i).td))
  (fun _ i _ => n - (intOf i).toNat)
 case atStart => exact ⟨0, _, kid, nZ, rfl, rfl, RowO.nil _ _ _ _ brf, fun i hi => absurd hi nN, fun i hi => absurd hi nN⟩
 obtain ⟨j, v, k', hj, rfl, rfl, HR, HO, HS⟩ := hrel;by_cases hlj : j < n
 · have hcx : wr.rangeAt b (off + j * 4) [.int .i64 (kid j).t.k, .slice (kid j).t.a (kid j).t.len (kid j).t.cap, .int .i64 (kid j).t.n, .int .i64 (kid j).t.s] := fun c u hu => (HR.o.bel.cell (p := ⟨b, off + j * 4 + c, none⟩) hlt).trans (HC.o j hlj c u hu)
   go_wp2_with (with_reducible refine wpv_at ?_; refine ldr rfl rfl rfl Tryz.underlying35 hcx rfl ?_; try simp only [Act.put, sA, zA, cA])
   refine (HI.o j hlj _ HR.o.bel).mono ?_;rintro e w2 ⟨y, rfl, hy, hcp, hsm, hb2⟩;have HY := iH hy;have HCP := iH hcp;have HSM := iH hsm;have HRo := iH (HR.o.below hb2);have hsz := hb2.size;have HB2 := iH hb2;clear hy hcp hsm hb2 hcx;have HOB := iH (HRo.o.below (bl_a (w := w2) (.cells #[.int .i64 y.t.k, .slice y.t.a y.t.len y.t.cap, .int .i64 y.t.n, .int .i64 y.t.s] 35)));have HOW := iH HOB.o.own;have HN : Hd (∀ j u, ([.int .i64 y.t.k, .slice y.t.a y.t.len y.t.cap, .int .i64 y.t.n, .int .i64 y.t.s] : List Value)[j]? = some u → (w2.alloc (.cells #[.int .i64 y.t.k, .slice y.t.a y.t.len y.t.cap, .int .i64 y.t.n, .int .i64 y.t.s] 35)).cell? ((⟨w2.heap.size, 0, none⟩ : Addr).add j) = some u) := fun j u hu => World.news_of_block (Go.heap_alloc_new _ _) j u hu;have H1 := iH (show ∀ u ∈ ([.int .i64 y.t.k, .slice y.t.a y.t.len y.t.cap, .int .i64 y.t.n, .int .i64 y.t.s] : List Value), u.oneCell' = true by intro u hu; simp only [List.mem_cons, List.not_mem_nil, or_false] at hu; rcases hu with rfl | rfl | rfl | rfl <;> rfl);have hBB := HOB.o.bel.size;obtain ⟨kn, hk1, hk2⟩ : ∃ kn : Nat → TB, (∀ i, i < j → kn i = k' i) ∧ kn j = y := ⟨fun i => if i = j then y else k' i, fun i hi => if_neg (by omega), if_pos rfl⟩;have HK1 := iH hk1;have HK2 := iH hk2;have HC1 := iH (fun i (hi : i < j) => (show enc4 (kn i).t = _ by rw [HK1.o i hi]));have HC2 : Hd ((fun i => enc4 (kn i).t) j = [.int .i64 y.t.k, .slice y.t.a y.t.len y.t.cap, .int .i64 y.t.n, .int .i64 y.t.s]) := (show enc4 _ = _ by rw [HK2.o]; rfl);clear hk1 hk2;go_wp2_with (with_reducible refine wpv_at ?_; refine app_stopC (.tmp 11) (.tmp 17) 43 rfl ?_)
   change wpList _ _ _ _ _ _;refine appC rfl (.tmp 11) (.tmp 17) 43 35 4 48 (.agg #[.int .i64 0, .slice none 0 0, .int .i64 0, .int .i64 0]) rfl Tryz.underlying43 infoT5 rfl (by omega) (by omega) w.heap.size _ j (fun i => enc4 (k' i).t) rfl HOW ⟨w2.heap.size, 0, none⟩ 1 [.int .i64 y.t.k, .slice y.t.a y.t.len y.t.cap, .int .i64 y.t.n, .int .i64 y.t.s] rfl rfl HN H1 (by omega) hBB (fun i => enc4 (kn i).t) HC1 HC2 ?_;intro g9 c9 w9 HO9 HA9 HG9 HD9;go_wp2;go_roundw
   case rel =>
    have hgr := HG9.o;have hst : ∀ L : List Nat, (∀ q ∈ L, q < w2.heap.size) → (∀ g, v.ownBlock = some g → g ∉ L) → Stay L w2 w9 := fun L h1 h2 => ⟨fun q hq => (hgr.block q (by have := h1 q hq; simp; omega) (fun e => h2 q e.symm hq)).trans ((bl_a (w := w2) (.cells #[.int .i64 y.t.k, .slice y.t.a y.t.len y.t.cap, .int .i64 y.t.n, .int .i64 y.t.s] 35)).block q (h1 q hq)), Nat.le_trans (bl_a (w := w2) (.cells #[.int .i64 y.t.k, .slice y.t.a y.t.len y.t.cap, .int .i64 y.t.n, .int .i64 y.t.s] 35)).size hgr.size⟩;refine ⟨j + 1, _, kn, by omega, rfl, by go_num, ?_, ?_, ?_⟩
    · refine RowO.add (w1 := wr) (m := wr.heap.size) (w2 := w2) (v := v) (L := y.fp) (f := (fun i => (k' i).fp)) (C := (fun i => enc4 (k' i).t)) HR.o nR HCP.o hsz (HOB.o.bel.trans HD9.o) HO9.o (HA9.o.imp id fun e => by rw [e]; simp) (Nat.le_trans (bl_a (w := w2) (.cells #[.int .i64 y.t.k, .slice y.t.a y.t.len y.t.cap, .int .i64 y.t.n, .int .i64 y.t.s] 35)).size hgr.size) (fun i hi => ?_) ?_
      · show (kn i).fp = _
        rw [HK1.o i hi]
      show (kn j).fp = _;rw [HK2.o]
    · intro i hi
      show (kn i).own w.heap.size w9;by_cases e : i = j
      · rw [e, HK2.o]
        refine TB.own.keep (w := w2) (HY.o.base HR.o.bel.size) (hst _ (fun q hq => (HCP.o.i q hq).2) fun g hg hm => ?_)
        have z1 := (HCP.o.i g hm).1;have z2 := (HR.o.own.blk g hg).2;omega
      rw [HK1.o i (by omega)];have hm : ∀ q, q ∈ (k' i).fp → q ∈ catB (fun i => (k' i).fp) j := fun q hq => catB_mem (f := (fun i => (k' i).fp)) (by omega) hq;exact (TB.own.keep (w := w2) ((HO.o i (by omega)).upper (uB HB2.o)) (hst _ (fun q hq => Nat.lt_of_lt_of_le (HR.o.cp.i q (hm q hq)).2 hsz) fun g hg hq => HR.o.o g hg (hm g hq)))
    intro i hi;show (kid i).td = (kn i).td;by_cases e : i = j
    · rw [e, HK2.o]
      exact HSM.o
    rw [HK1.o i (by omega)];exact HS.o i (by omega)
   case measure => simp [intOf]; omega
 obtain rfl : j = n := by omega
 go_wp2_with fail
 obtain ⟨a', c', rfl, hcc, hK, hZ, hCp⟩ := HR.o.fin;go_ret;exact ⟨a', c', k', rfl, hcc, hK, hZ, HO.o, HS.o, hCp, HR.o.bel⟩
theorem l4ownTs (a : Option Addr) (cap : Nat) (tb : List TB) (w : World) (hn : tb.length ≤ 1048576) (h : TRowF 0 w a tb) :
 Calls Tryz.prog 79 #[.slice a tb.length cap] w fun e w' => ∃ y : TR, e = .returned (.slice y.a y.l.length y.c) ∧ y.own w.heap.size w' ∧ Cp w.heap.size w'.heap.size (tfp y.a y.l) ∧ tb.map TB.td = y.l.map TB.td ∧ Bl w w' := by
 refine (ownTs a cap tb.length (tbG tb) w hn (trow_krow h) fun i hi W hW => ?_).mono ?_
 · have hm := (tbG_at hi)
   have h2 := h.2.2 _ hm.2;rw [← hm.1] at h2;exact l2ownT (tbG tb i) W (h2.1.upper (uB hW)) h2.2
 rintro e w' ⟨a', c', f, rfl, h1, h2, h3, h4, h5, h6, h7⟩;have el : ((List.range tb.length).map f).length = tb.length := by simp
 refine ⟨⟨a', c', (List.range tb.length).map f⟩, by rw [el], ⟨by rw [el]; exact h1, krow_trowZ h2 h3 (fun i hi => (h4 i hi).1), by rw [el]; exact h3, fun x hx => ?_⟩, ?_, ?_, h7⟩
 · obtain ⟨i, hi, rfl⟩ := List.mem_map.1 hx
   exact (h4 i (List.mem_range.1 hi)).2
 · unfold tfp
   rw [el, catB_congr (f := fun i => (f i).fp) fun i hi => (by show (tbN _ i).fp = _; rw [tbN_map hi])];exact h6
 apply List.ext_getElem
 · simp
 intro i hi hi';have hi1 : i < tb.length := by simpa using hi
 have := h5 i hi1;rw [(tbG_at hi1).1] at this;simpa using this
theorem wp_app80 (s x : Operand)
 (ho : o.op = .call { callee := .builtin .append, args := #[s, x], argTypes := #[23, 23] })
 (g0 : Nat) (hg0 : g0 < w.heap.size) (hs : a.eval s = .slice (some ⟨g0, 0, none⟩) 0 0) (v : SL) (hx : a.eval x = .slice v.a v.len v.cap) (hv : Hd (BsF 0 w v))
 (h : ∀ (y : SL) (w' : World), Hd (y.own w.heap.size w') → Hd (Cp w.heap.size w'.heap.size y.fp) → Hd (y.b = v.b) → Hd (Bl w w') → K (a.put o.dst (.slice y.a y.len y.cap)) w') :
 Oper.wp Tryz.prog o a w K Q := by
 obtain ⟨i0, hi0, hzz⟩ := Option.map_eq_some_iff.1 Tryz.info5;simp only [Prod.mk.injEq] at hzz;obtain ⟨hi2, hi1, hi3⟩ := hzz;have hB := hv.o.1;have hl := hB.2.1;have hsrc : Src Tryz.prog i0.size 23 (.slice v.a v.len v.cap) v.len (v.b.map (Value.int .u8)) w := by rw [hi1]; exact src_bs hB
 have hbl := hB.1;by_cases hm : v.len = 0
 · have hb : v.b = [] := List.eq_nil_of_length_eq_zero (by omega)
   have hr := run_append_room_src (P := Tryz.prog) w 23 23 o.type 5 i0 Tryz.underlying23 hi0 g0 0 0 0 (.slice v.a v.len v.cap) v.len (v.b.map (Value.int .u8)) hsrc (by omega) (fun j hj => by rw [hb] at hj; simp at hj) (fun j hj => by rw [hb] at hj; simp at hj);rw [hb, hm] at hr;unfold Oper.wp execOp;rw [hm] at hx;simp only [ho, resolve, invoke, builtin, Sem.run_bind, Sem.run_pure, Result.andThen_ok, List.map_toArray, List.map_cons, List.map_nil, hs, hx, hr];refine h ⟨some ⟨g0, 0, none⟩, 0, 0, []⟩ w ⟨⟨⟨rfl, nZ, fun i => ?_, .inl rfl⟩, .inl rfl⟩, .inl rfl⟩ (Cp.nil _ _) hb.symm brf;show 0 ≤ ([] : List Int)[i]?.getD 0 ∧ ([] : List Int)[i]?.getD 0 ≤ 255;simp
 have HT : Tz w 0 (some ⟨g0, 0, none⟩) 0 0 [] := ⟨⟨rfl, nZ, fun i => (by show 0 ≤ ([] : List Int)[i]?.getD 0 ∧ ([] : List Int)[i]?.getD 0 ≤ 255; simp), .inl rfl⟩, .inr ⟨g0, rfl, nZ, hg0, nR, fun j hj => by omega⟩⟩
 have hr := run_append_grow_src (P := Tryz.prog) w 23 23 o.type 5 i0 (.int .u8 0) Tryz.underlying23 hi0 hi2 (some ⟨g0, 0, none⟩) 0 0 ([] : List Value) (tz_first HT _ hi1) (.slice v.a v.len v.cap) v.len (v.b.map (Value.int .u8)) hsrc (by omega) (by omega) (growslice_fits (by omega) (by rw [hi3]; omega));have hge := grownCap_ge w (0 + v.len) 0 5;unfold Oper.wp execOp;simp only [ho, resolve, invoke, builtin, Sem.run_bind, Sem.run_pure, Result.andThen_ok, List.map_toArray, List.map_cons, List.map_nil, hs, hx, hr];obtain ⟨C, hC⟩ : ∃ C, grownCap w (0 + v.len) 0 5 = C := ⟨_, rfl⟩;rw [hC] at hge ⊢;have hat : ∀ j, (w.drew.alloc (.cells (([] ++ v.b.map (Value.int .u8)).toArray ++ Builtin.zeroCells (Value.int IntKind.u8 0).cells (C - (0 + v.len))) 5)).cell? ⟨w.heap.size, j, none⟩ = (([] ++ v.b.map (Value.int .u8)).toArray ++ Builtin.zeroCells (Value.int IntKind.u8 0).cells (C - (0 + v.len)))[j]? := fun j => by
  simp [go_sem]
 have hcell : ∀ i, i < v.len → (w.drew.alloc (.cells (([] ++ v.b.map (Value.int .u8)).toArray ++ Builtin.zeroCells (Value.int IntKind.u8 0).cells (C - (0 + v.len))) 5)).cell? ⟨w.heap.size, i, none⟩ = some (.int .u8 (v.b[i]?.getD 0)) := fun i hi => by
  rw [hat, Array.getElem?_append_left (by simp; omega), List.nil_append, List.getElem?_toArray, List.getElem?_map, List.getElem?_eq_getElem (by omega)];simp
 have hTz : Tz (w.drew.alloc (.cells (([] ++ v.b.map (Value.int .u8)).toArray ++ Builtin.zeroCells (Value.int IntKind.u8 0).cells (C - (0 + v.len))) 5)) w.heap.size (some ⟨w.heap.size, 0, none⟩) v.len C v.b := by
  refine ⟨bs_of_cells hbl (by omega) (Byt.of hB.2.2.1) (by simp) hcell, .inr ⟨w.heap.size, rfl, nR, by simp, by omega, fun j hj => ⟨?_, by simp [go_sem]⟩⟩⟩
  rw [hat, Array.getElem?_eq_getElem (by simp [Builtin.zeroCells, Value.cells]; omega)];rfl
 have ho2 := hTz.owns;rw [Nat.zero_add] at ho2 ⊢;exact h ⟨some ⟨w.heap.size, 0, none⟩, v.len, C, v.b⟩ _ ho2.1 ho2.2 rfl ((Below.drew (Below.refl _ w)).alloc nR _)
theorem step_app80 {ops : Array Oper} {E : Prop} (hgd : o.guard = none) (s x : Operand) (dd : Nat) (hdd : o.dst = some dd)
 (ho : o.op = .call { callee := .builtin .append, args := #[s, x], argTypes := #[23, 23] })
 (g0 : Nat) (hg0 : g0 < w.heap.size) (hs : a.eval s = .slice (some ⟨g0, 0, none⟩) 0 0) (v : SL) (hx : a.eval x = .slice v.a v.len v.cap) (hv : Hd (BsF 0 w v))
 (h : ∀ (y : SL) (w' : World), Hd (y.own w.heap.size w') → Hd (Cp w.heap.size w'.heap.size y.fp) → Hd (y.b = v.b) → Hd (Bl w w') → K (a.put (some dd) (.slice y.a y.len y.cap)) w') :
 if Region.wanted o (yielded ops a.tmps) = true then Oper.wp Tryz.prog o a w K Q else E := by
 have hw : Region.wanted o (yielded ops a.tmps) = true := by simp [Region.wanted, hgd]
 rw [if_pos hw];exact wp_app80 s x ho g0 hg0 hs v hx hv fun y w' a b c d => by rw [hdd]; exact h y w' a b c d
theorem OwnCC.but {ty : TypeId} {sz : Nat} {v : Value} {n : Nat} {C : Nat → List Value} (h : OwnCC ty sz w B v n C) (hb : But g w w') (hg : g < B) : OwnCC ty sz w' B v n C := by
 obtain ⟨⟨h1, h2⟩, hl, hk⟩ := h;refine ⟨⟨h1, ?_⟩, hl, fun g' hg' => by rw [hb.size]; exact hk g' hg'⟩
 rcases h2 with h2 | ⟨g', cap', cur, hv, hB, hh, r⟩
 · exact .inl h2
 refine .inr ⟨g', cap', cur, hv, hB, ?_, r⟩;rw [hb.block g' (by omega)];exact hh
theorem Stay.refl (L : List Nat) (w : World) : Stay L w w := ⟨fun _ _ => rfl, nR⟩
theorem Stay.trans {L : List Nat} {w'' : World} (h : Stay L w w') (k : Stay L w' w'') : Stay L w w'' := ⟨fun q hq => (k.1 q hq).trans (h.1 q hq), Nat.le_trans h.2 k.2⟩
theorem Stay.below {L : List Nat} {M : Nat} (hb : Below M w w') (hL : ∀ q ∈ L, q < M) : Stay L w w' := ⟨fun q hq => hb.block q (hL q hq), hb.size⟩
theorem Stay.but {L : List Nat} (hb : But g w w') (hg : ∀ q ∈ L, q ≠ g) : Stay L w w' := ⟨fun q hq => hb.block q (hg q hq), by rw [hb.size]; exact nR⟩
theorem Stay.grown {L : List Nat} {o : Option Nat} (hg : w.grownBy w' o) (hL : ∀ q ∈ L, q < w.heap.size) (ho : ∀ g, o = some g → g ∉ L) : Stay L w w' := ⟨fun q hq => hg.block q (hL q hq) (fun e => ho q e.symm hq), hg.size⟩
theorem OB.bel8 (h : OB w b L) (hb : Below B w w') (hB : b < B) : OB w' b L := ⟨Nat.lt_of_lt_of_le h.1 hb.size, fun c u hu => ⟨(hb.cell (p := ⟨b, c, none⟩) hB).trans (h.2 c u hu).1, (hb.frozen (p := ⟨b, c, none⟩) hB).trans (h.2 c u hu).2⟩⟩
theorem Box.bel8 (h : Box w b L) (hb : Below B w w') (hB : b < B) : Box w' b L := ⟨Nat.lt_of_lt_of_le h.1 hb.size, fun c u hu => (hb.cell (p := ⟨b, c, none⟩) hB).trans (h.2 c u hu)⟩
structure Gath {α : Type} (c : α → List Value) (fp : α → List Nat) (ok : α → World → Prop) (ty : TypeId) (sz M gz ix : Nat) (L0 : List Value) (FP : List Nat) (w0 wx W : World) (v : Value) (j : Nat) (k : Nat → α) : Prop where
 bel : Bl w0 W
 box : OB W gz (L0.set ix v)
 own : OwnCC ty sz W M v j (fun i => c (k i))
 cp : Cp M W.heap.size (catB (fun i => fp (k i)) j)
 o : ∀ g, v.ownBlock = some g → g ∉ catB (fun i => fp (k i)) j
 ok : ∀ i, i < j → ok (k i) W
 st : Stay FP wx W
 g0 : w0.heap.size ≤ gz
 gM : gz < M
 hM : M ≤ W.heap.size
 fM : ∀ q ∈ FP, q < M ∧ q ≠ gz
structure GathY {α : Type} (c : α → List Value) (fp : α → List Nat) (ok : α → World → Prop) (ty : TypeId) (sz M gz ix : Nat) (L0 : List Value) (FP : List Nat) (w0 wx W : World) (v : Value) (j : Nat) (k : Nat → α) (y : α) : Prop where
 g : Gath c fp ok ty sz M gz ix L0 FP w0 wx W v j k
 oky : ok y W
 cpy : Cp M W.heap.size (catB (fun i => fp (k i)) j ++ fp y)
 outy : ∀ g, v.ownBlock = some g → g ∉ catB (fun i => fp (k i)) j ++ fp y
section
variable {α : Type} {c : α → List Value} {fp : α → List Nat} {ok : α → World → Prop} {ty : TypeId} {sz M gz ix : Nat} {L0 : List Value} {FP : List Nat} {w0 wx W N : World} {v : Value} {j : Nat} {k : Nat → α}
theorem Gath.below (K : ∀ x w w', ok x w → Stay (fp x) w w' → ok x w') (h : Gath c fp ok ty sz M gz ix L0 FP w0 wx W v j k) (hb : Bl W N) : Gath c fp ok ty sz M gz ix L0 FP w0 wx N v j k :=
 ⟨bl_trans h.bel hb, h.box.below hb, h.own.below hb, h.cp.mono nR hb.size, h.o, fun i hi => K _ _ _ (h.ok i hi) (Stay.below hb fun q hq => (h.cp.i q (catB_mem (f := fun i => fp (k i)) hi hq)).2), h.st.trans (Stay.below hb fun q hq => Nat.lt_of_lt_of_le (h.fM q hq).1 h.hM), h.g0, h.gM, Nat.le_trans h.hM hb.size, h.fM⟩
theorem Gath.call (K : ∀ x w w', ok x w → Stay (fp x) w w' → ok x w') (h : Gath c fp ok ty sz M gz ix L0 FP w0 wx W v j k) (hb : Bl W N) {y : α} (hy : ok y N) (hc : Cp W.heap.size N.heap.size (fp y)) : GathY c fp ok ty sz M gz ix L0 FP w0 wx N v j k y := by
 refine ⟨h.below K hb, hy, h.cp.app hc h.hM hb.size, fun g hg hm => ?_⟩;rcases List.mem_append.1 hm with hm | hm
 · exact h.o g hg hm
 have := (hc.i g hm).1;have := (h.own.blk g hg).2;omega
theorem GathY.below (K : ∀ x w w', ok x w → Stay (fp x) w w' → ok x w') {y : α} (h : GathY c fp ok ty sz M gz ix L0 FP w0 wx W v j k y) (hb : Bl W N) : GathY c fp ok ty sz M gz ix L0 FP w0 wx N v j k y :=
 ⟨h.g.below K hb, K _ _ _ h.oky (Stay.below hb fun q hq => (h.cpy.i q (List.mem_append_right _ hq)).2), h.cpy.mono nR hb.size, h.outy⟩
theorem GathY.add (K : ∀ x w w', ok x w → Stay (fp x) w w' → ok x w') {y : α} (h : GathY c fp ok ty sz M gz ix L0 FP w0 wx W v j k y) {w9 : World} {g9 c9 : Nat} {kn : Nat → α} (hk1 : ∀ i, i < j → kn i = k i) (hk2 : kn j = y)
 (ho : OwnCC ty sz w9 M (.slice (some ⟨g9, 0, none⟩) (j + 1) c9) (j + 1) (fun i => c (kn i))) (hat : v.ownBlock = some g9 ∨ g9 = W.heap.size) (hgr : W.grownBy w9 v.ownBlock) (hb9 : Below M W w9) :
 Gath c fp ok ty sz M gz ix L0 FP w0 wx (w9.setCell ⟨gz, ix, none⟩ (.slice (some ⟨g9, 0, none⟩) (j + 1) c9)) (.slice (some ⟨g9, 0, none⟩) (j + 1) c9) (j + 1) kn := by
 have hB : But gz w9 (w9.setCell ⟨gz, ix, none⟩ (.slice (some ⟨g9, 0, none⟩) (j + 1) c9)) := (But.refl gz w9).set ix _;have e : catB (fun i => fp (kn i)) (j + 1) = catB (fun i => fp (k i)) j ++ fp y := by
  show catB (fun i => fp (kn i)) j ++ fp (kn j) = _;rw [catB_congr (f := fun i => fp (k i)) fun i hi => (by show fp (kn i) = _; rw [hk1 i hi]), hk2]
 have hs := hgr.size;have h0 := h.g.g0;have hM := h.g.gM;have hst : ∀ L : List Nat, (∀ q ∈ L, M ≤ q ∧ q < W.heap.size) → (∀ g, v.ownBlock = some g → g ∉ L) → Stay L W (w9.setCell ⟨gz, ix, none⟩ (.slice (some ⟨g9, 0, none⟩) (j + 1) c9)) := fun L h1 h2 => (Stay.grown hgr (fun q hq => (h1 q hq).2) h2).trans (Stay.but hB fun q hq => by have := (h1 q hq).1; omega);refine ⟨bl_set (h.g.bel.trans (hb9.mono (by omega))) (by show w0.heap.size ≤ gz; exact h0) _, ?_, ho.but hB hM, ?_, fun g hg hm => ?_, fun i hi => ?_, (h.g.st.trans (Stay.below hb9 fun q hq => (h.g.fM q hq).1)).trans (Stay.but hB fun q hq => (h.g.fM q hq).2), h0, hM, by rw [hB.size]; exact Nat.le_trans h.g.hM hs, h.g.fM⟩
 · have h5 := (h.g.box.bel8 hb9 hM).set ix (.slice (some ⟨g9, 0, none⟩) (j + 1) c9)
   rwa [List.set_set] at h5
 · rw [e, hB.size]
   exact h.cpy.mono nR hs
 · have eg : g9 = g := by simpa [Value.ownBlock] using hg
   subst eg;rw [e] at hm;rcases hat with hat | hat
   · exact h.outy g9 hat hm
   have := (h.cpy.i g9 hm).2;omega
 by_cases ej : i = j
 · rw [ej, hk2]
   exact K _ _ _ h.oky (hst _ (fun q hq => h.cpy.i q (List.mem_append_right _ hq)) fun g hg hm => h.outy g hg (List.mem_append_right _ hm))
 have hi2 : i < j := by omega
 rw [hk1 i hi2];exact K _ _ _ (h.g.ok i hi2) (hst _ (fun q hq => h.g.cp.i q (catB_mem (f := fun i => fp (k i)) hi2 hq)) fun g hg hm => h.g.o g hg (catB_mem (f := fun i => fp (k i)) hi2 hm))
theorem Gath.fin (h : Gath c fp ok ty sz M gz ix L0 FP w0 wx W v j k) :
 ∃ a cap, v = .slice a j cap ∧ j ≤ cap ∧ KRow M W sz a j (fun i => c (k i)) ∧ RoZ M W a j sz ∧ Cp M W.heap.size (rfp a j ++ catB (fun i => fp (k i)) j) := by
 have ho := h.own;obtain ⟨a, cap, rfl, hK, hZ, hc, hg⟩ := h.own.form;refine ⟨a, cap, rfl, hc, hK, hZ, ?_⟩;unfold rfp;by_cases h0 : j = 0
 · rw [if_pos h0]
   exact h.cp
 rw [if_neg h0];rcases hZ with hz | ⟨g, rfl, _⟩
 · exact absurd hz h0
 have hb := ho.blk g rfl;refine ⟨List.nodup_cons.2 ⟨h.o g rfl, h.cp.nd⟩, fun b hb' => ?_⟩;rcases List.mem_cons.1 hb' with e | e
 · rw [e]; exact hb
 exact h.cp.i b e
theorem Gath.nil (hb : Bl w0 W) (ho : OB W gz (L0.set ix (.slice none 0 0))) (h0 : w0.heap.size ≤ gz) (hF : ∀ q ∈ FP, q < W.heap.size ∧ q ≠ gz) : Gath c fp ok ty sz W.heap.size gz ix L0 FP w0 W W (.slice none 0 0) 0 k :=
 ⟨hb, ho, OwnCC.nil _ _ _ _ _, Cp.nil _ _, (fun g h => by cases h), (fun i hi => absurd hi nN), Stay.refl _ _, h0, ho.1, nR, hF⟩
end
theorem okET (M : Nat) (x : ET) (w w' : World) (h : x.ow M w) (k : Stay x.fp w w') : x.ow M w' := h.keep k
theorem stepCC {ops : Array Oper} {Q : Exit → Act → World → Prop} {E : Prop} (s x : Operand) (dd : Nat) (t ty : TypeId) (sz by_ : Nat) (z : Value)
 (ht : Tryz.prog.underlying t = some (.slice ty)) (hin : (Tryz.prog.info? ty).map (fun i => (i.zero, i.size, i.bytes)) = some (some z, sz, by_)) (B : Nat) (v : Value) (n : Nat) (C : Nat → List Value) (HO : Hd (OwnCC ty sz w B v n C))
 (ad : Addr) (c : Nat) (cs : List Value) (HN : Hd (∀ j u, cs[j]? = some u → w.cell? (ad.add j) = some u)) (h1 : ∀ u ∈ cs, u.oneCell' = true) (hle : n ≤ 1048576) (hB : B ≤ w.heap.size) (C' : Nat → List Value) (hC : Hd (∀ i, i < n → C' i = C i)) (hCn : Hd (C' n = cs))
 (h : ∀ g cap w', Hd (OwnCC ty sz w' B (.slice (some ⟨g, 0, none⟩) (n + 1) cap) (n + 1) C') → Hd (v.ownBlock = some g ∨ g = w.heap.size) → Hd (w.grownBy w' v.ownBlock) → Hd (Below B w w') → K (a.put (some dd) (.slice (some ⟨g, 0, none⟩) (n + 1) cap)) w')
 (hgd : o.guard = none := by rfl) (hdd : o.dst = some dd := by rfl) (ho : o.op = .call { callee := .builtin .append, args := #[s, x], argTypes := #[t, t] } := by rfl) (hs : a.eval s = v := by rfl) (hx : a.eval x = .slice (some ad) 1 c := by rfl) (hl : cs.length = sz := by rfl) (hzs : z.cells.size = sz := by rfl) (hsz : 0 < sz := by omega) (hby : by_ ≤ 1000 := by omega) :
 if Region.wanted o (yielded ops a.tmps) = true then Oper.wp Tryz.prog o a w K Q else E := by
 have hw : Region.wanted o (yielded ops a.tmps) = true := by simp [Region.wanted, hgd]
 rw [if_pos hw];obtain ⟨i0, hi0, hzz⟩ := Option.map_eq_some_iff.1 hin;simp only [Prod.mk.injEq] at hzz;obtain ⟨hi2, hi1, hi3⟩ := hzz;have hb2 : (n + 1) * by_ ≤ (n + 1) * 1000 := Nat.mul_le_mul_left _ hby
 refine wp_append_lies _ s x t ho B ty i0 z sz by_ ht hi0 hi2 hi1 hi3 hzs hsz v n (catV C n) hs HO.o.row ad 1 c cs hx (by rw [hl, Nat.one_mul]) HN.o h1 (by omega) (by unfold maxLen; omega) (by omega) hB _ rfl ?_;intro g cap w' hown hgr hat hlt;have e : catV C' (n + 1) = catV C n ++ cs := by
  show catV C' n ++ C' n = _;rw [catV_congr hC.o, hCn.o]
 rw [hdd];refine h g cap w' ⟨by rw [e]; exact hown, fun i hi => ?_, fun g' hg' => ?_⟩ hat hgr ?_
 · by_cases en : i = n
   · rw [en, hCn.o, hl]
   rw [hC.o i (by omega)];exact HO.o.len i (by omega)
 · have : g = g' := by simpa [Value.ownBlock] using hg'
   subst this;rcases hown.2 with ⟨hv, _⟩ | ⟨g0, c0, cur, hv, hb, _⟩
   · cases hv
   cases hv; exact ⟨hb, hlt⟩
 refine ⟨hgr.os, hgr.tape, hgr.output, hgr.size, fun b hb => hgr.block b (by omega) fun e => ?_⟩;have := (HO.o.blk b e.symm).1;omega
structure Tg (i : Nat) : Prop where
 t : True
def EvR (P : Program) (md : Region.Mode) (ops : Array Oper) (Q : Exit → Act → World → Prop) (S : World → Prop) (fuel : Nat) (listed : Array Bool) (a : Act) (w : World) (i : Nat) (o : Oper) : Prop :=
 ∀ K' : Act → World → Prop, Shut (∀ a w, S w → (S w → wpAnyH P md ops Q S fuel (listed.setIfInBounds i true) a w) → K' a w) → if Region.wanted o (yielded ops a.tmps) = true then Oper.wp P o a w K' Q else K' (a.put o.dst undef) w
section
variable {P : Program} {md : Region.Mode} {ops : Array Oper} {Q : Exit → Act → World → Prop} {S : World → Prop} {fuel : Nat} {listed : Array Bool} {a : Act} {w : World}
theorem rd1 (i : Nat) (h : Tg i → EvR P md ops Q S fuel listed a w i o) (hr : Region.ready md ops listed = [i] := by decide +kernel) (ho : ops[i]? = some o := by rfl) : wpAnyH P md ops Q S (fuel + 1) listed a w :=
 wpAnyH_ready hr (by simp) (AllReadyH.cons ho (h ⟨trivial⟩) AllReadyH.nil)
theorem rd2 (i j : Nat) (h : Tg i → EvR P md ops Q S fuel listed a w i o) (k : Tg j → EvR P md ops Q S fuel listed a w j p) (hr : Region.ready md ops listed = [i, j] := by decide +kernel) (ho : ops[i]? = some o := by rfl) (hp : ops[j]? = some p := by rfl) : wpAnyH P md ops Q S (fuel + 1) listed a w :=
 wpAnyH_ready hr (by simp) (AllReadyH.cons ho (h ⟨trivial⟩) (AllReadyH.cons hp (k ⟨trivial⟩) AllReadyH.nil))
theorem rd3 (i j l : Nat) {q : Oper} (h : Tg i → EvR P md ops Q S fuel listed a w i o) (k : Tg j → EvR P md ops Q S fuel listed a w j p) (m : Tg l → EvR P md ops Q S fuel listed a w l q) (hr : Region.ready md ops listed = [i, j, l] := by decide +kernel) (ho : ops[i]? = some o := by rfl) (hp : ops[j]? = some p := by rfl) (hq : ops[l]? = some q := by rfl) : wpAnyH P md ops Q S (fuel + 1) listed a w :=
 wpAnyH_ready hr (by simp) (AllReadyH.cons ho (h ⟨trivial⟩) (AllReadyH.cons hp (k ⟨trivial⟩) (AllReadyH.cons hq (m ⟨trivial⟩) AllReadyH.nil)))
end
theorem Cp.new {L : List Nat} (h : Cp lo hi L) : ∀ q ∈ L, q ≠ hi := fun q hq => Nat.ne_of_lt (h.i q hq).2
theorem nz_app {L A : List Nat} (h : ∀ q ∈ L, q ≠ g) (hc : Cp lo hi A) (hg : g < lo) : ∀ q ∈ L ++ A, q ≠ g := fun q hq => (List.mem_append.1 hq).elim (h q) fun hq => Nat.ne_of_gt (Nat.lt_of_lt_of_le hg (hc.i q hq).1)
structure TwoY (B : Nat) (w : World) (g : Nat) (y1 : SL) (y2 : TB) : Prop where
 o1 : y1.own B w
 o2 : y2.own B w
 cp : Cp B w.heap.size (y1.fp ++ y2.fp)
 n : g ∉ y1.fp ++ y2.fp
theorem fp_ne {x : SL} (hx : x.own B w) (ho : OB w g (.int .i64 k :: L)) : g ∉ x.fp := by
 intro hm;unfold SL.fp at hm;by_cases h0 : x.len = 0
 · rw [if_pos h0] at hm
   cases hm
 rw [if_neg h0, List.mem_singleton] at hm;obtain ⟨b, off, ha, _, hc⟩ := hx.1.1.2.2.2.resolve_left h0;obtain ⟨g', hg', _⟩ := hx.2.resolve_left h0;rw [ha] at hg' hm;cases hg';have h1 := hc 0 (by omega);have h2 := (ho.2 0 _ rfl).1;have hm' : g = b := hm;rw [hm'] at h2;rw [Nat.zero_add, h2] at h1;cases h1
theorem exprOut {y1 : SL} {y2 : TB} (ho : OB w g (.int .i64 k :: L)) (h1 : y1.own B w) (h2 : y2.own B w) (hb : But g w w') (hc : Cp B w.heap.size (y1.fp ++ y2.fp)) : TwoY B w' g y1 y2 := by
 have n1 := fp_ne h1 ho;have n2 := fp_ne (x := y2.sl) ⟨h2.1.1, h2.2⟩ ho;have hn : g ∉ y1.fp ++ y2.fp := fun h => (List.mem_append.1 h).elim n1 n2;have hs : Stay (y1.fp ++ y2.fp) w w' := ⟨fun b hb' => hb.block b (fun e => hn (e ▸ hb')), by rw [hb.size]; exact nR⟩
 exact ⟨h1.keep hs.left, h2.keep hs.right, by rw [hb.size]; exact hc, hn⟩
theorem l4ownE_of (d : EN) (kid : Nat → ET) (w : World) (h : (ET.mk d kid).lies 0 w)
 (IH : ∀ i, i < d.n → ∀ W, Bl w W → Calls Tryz.prog 78 #[.agg (kid i).d.ar] W fun r w' => ∃ y : ET, r = .returned (.agg y.d.ar) ∧ y.ow W.heap.size w' ∧ Cp W.heap.size w'.heap.size y.fp ∧ (kid i).same y ∧ Bl W w') :
 Calls Tryz.prog 78 #[.agg d.ar] w fun r w' => ∃ y : ET, r = .returned (.agg y.d.ar) ∧ y.ow w.heap.size w' ∧ Cp w.heap.size w'.heap.size y.fp ∧ (ET.mk d kid).same y ∧ Bl w w' := by
 try unfold EN.ar EN.cl
 obtain ⟨hv, ht, hf, hn, hR, hk⟩ := h;have HV := iH hv;have HT := iH (fun W (hb : Bl w W) => l2ownT d.t W (ht.upper (uB hb)) hf);have HI := iH IH;have HN := iH hn;have HX := iH ((Box.new w d.ar 42 (0, 0)).below (bl_a (.cells zEa 42)));have HO := iH (show OB _ _ _ by have h := OB.new (w.alloc (.cells d.ar 42)) zEa 42; simpa using h);have HB : Hd (Bl w ((w.alloc (.cells d.ar 42)).alloc (.cells zEa 42))) := bl_alloc (bl_a _) _;have HR := iH hR;clear hv ht hf hk IH hR;go_in;go_upto_region 1 with fail
 generalize ((w.alloc _).alloc _) = W1 at *;have HG := iH HO.o.1;go_cut [3] from 5 to 16 (fun s wx => ∃ (g : Nat) (y1 : SL) (y2 : TB), s = .pointer (some ⟨g, 0, none⟩) ∧ Hd (OB wx g [.int .i64 d.k, .int .i64 d.op, .slice y1.a y1.len y1.cap, .int .i64 y2.t.k, .slice y2.t.a y2.t.len y2.t.cap, .int .i64 y2.t.n, .int .i64 y2.t.s, .slice none 0 0]) ∧ Hd (TwoY W1.heap.size wx g y1 y2) ∧ Hd (W1.heap.size ≤ g) ∧ Hd (y1.b = d.v.b) ∧ Hd (d.t.td = y2.td) ∧ Hd (Bl W1 wx))
 case first =>
  go_wp2_with fail
  refine wqd (fun w' => Bl w w' ∧ Box w' w.heap.size d.cl) ?_ fun hHeld => ?_
  · exact ⟨Below.drew HB.o, HX.o.below bdr⟩
  refine tqB 0 5 ?_;refine tqB 1 6 (v := .int .i64 d.k) (hy := by intro w' hSw; have c0 := hSw.2.2 0 _ rfl; go_simp; (try with_reducible rfl)) ?_;refine tqB 2 7 ?_;refine tqB 3 8 (v := .int .i64 d.op) (hy := by intro w' hSw; have c0 := hSw.2.2 1 _ rfl; go_simp; (try with_reducible rfl)) ?_;refine tqB 5 10 ?_;refine tqB 6 11 (v := .slice d.v.a d.v.len d.v.cap) (hy := by intro w' hSw; have c0 := hSw.2.2 2 _ rfl; go_simp; (try with_reducible rfl)) ?_;refine tqB 8 13 ?_;refine ldq 9 14 Tryz.underlying35 (fun w' h => h.2.range 3 [.int .i64 d.t.t.k, .slice d.t.t.a d.t.t.len d.t.t.cap, .int .i64 d.t.t.n, .int .i64 d.t.t.s] rfl) ?_;replace HB := iH (Below.drew HB.o);replace HX := iH (HX.o.below bdr);replace HO := iH (HO.o.below bdr);replace HZ : Hd (Bl W1 W1.drew) := Below.drew brf;generalize W1.drew = w_ at *;have HC := iH (Cp.nil W1.heap.size w_.heap.size);repeat' first
   | refine rd2 4 12 ?_ ?_
   | refine rd2 7 12 ?_ ?_
   | refine rd2 10 12 ?_ ?_
   | refine rd1 4 ?_
   | refine rd1 7 ?_
   | refine rd1 10 ?_
   | refine rd1 12 ?_
   |
    intro tg K hK;have tq : Tg 7 := tg;clear tq tg;refine step_app80 rfl (.tmp 9) (.tmp 11) 12 rfl rfl bs HS.o rfl d.v rfl (iH (HV.o.upper (uB HB.o))) ?_;intro y1 w_ hy hc0 he hb;have hb2 := hb.o;have hc := hc0.o;clear hHeld;refine rhK hK ⟨bl_trans HB.o hb2, HX.o.below hb2⟩ fun hHeld => ?_;clear hK K;have HY1 := iH (hy.o.base HZ.o.size);have HE1 := he;replace HC := iH (HC.o.app hc HZ.o.size hb2.size);try replace HB := iH (bl_trans HB.o hb2)
    try replace HX := iH (HX.o.below hb2)
    try replace HO := iH (HO.o.below hb2)
    try replace HZ := iH (bl_trans HZ.o hb2)
    try replace HOZ := iH (HOZ.o.below hb2)
    clear hb2 hb hy hc hc0 he HS
   |
    intro tg K hK;have tq : Tg 10 := tg;clear tq tg;go_simp;refine (HT.o _ HB.o).mono ?_;rintro r w_ ⟨y2, rfl, hy, hc, he, hb2⟩;clear hHeld;have HE2 := iH he;have HY2 := iH (hy.base HZ.o.size);replace HC := iH (HC.o.app hc HZ.o.size hb2.size);try replace HB := iH (bl_trans HB.o hb2)
    try replace HX := iH (HX.o.below hb2)
    try replace HO := iH (HO.o.below hb2)
    try replace HZ := iH (bl_trans HZ.o hb2)
    try replace HY1 := iH (HY1.o.upper (uB hb2))
    try replace HOZ := iH (HOZ.o.below hb2)
    go_wp2_with fail
    refine rhK hK ⟨HB.o, HX.o⟩ fun hHeld => ?_;clear hK K;clear hb2 hy hc he;refine tqB 11 16 (v := .agg (eA d.k d.op y1 y2 (.slice none 0 0))) ?_
   |
    intro tg K hK;have tq : Tg 4 := tg;clear tq tg;clear hHeld;go_simp;refine rhK hK ⟨bl_alloc HB.o _, HX.o.below (bl_a _)⟩ fun hHeld => ?_;clear hK K;have hb2 : Bl w_ (w_.alloc (.cells #[] 5)) := bl_a _;obtain ⟨bs, hbs⟩ : ∃ b, b = w_.heap.size := ⟨_, rfl⟩;have HS : Hd (bs < (w_.alloc (.cells #[] 5)).heap.size) := (show bs < _ by rw [hbs]; simp);rw [← hbs];clear hbs;generalize w_.alloc (.cells #[] 5) = w_ at *;try replace HB := iH (bl_trans HB.o hb2)
    try replace HX := iH (HX.o.below hb2)
    try replace HO := iH (HO.o.below hb2)
    try replace HZ := iH (bl_trans HZ.o hb2)
    try replace HY1 := iH (HY1.o.upper (uB hb2))
    try replace HY2 := iH (HY2.o.upper (uB hb2))
    try replace HOZ := iH (HOZ.o.below hb2)
    try replace HC := iH (HC.o.mono nR hb2.size)
    clear hb2
   |
    intro tg K hK;have tq := tg;clear tq tg;clear hHeld;go_simp;refine rhK hK ⟨bl_alloc HB.o _, HX.o.below (bl_a _)⟩ fun hHeld => ?_;clear hK K;have hb2 : Bl w_ (w_.alloc (.cells zEa 42)) := bl_a _;have HOZ := iH (OB.new w_ zEa 42);have HGZ := iH HZ.o.size;obtain ⟨gz, hgz⟩ : ∃ b, b = w_.heap.size := ⟨_, rfl⟩;rw [← hgz] at HOZ HGZ ⊢;clear hgz;generalize w_.alloc (.cells zEa 42) = w_ at *;try replace HB := iH (bl_trans HB.o hb2)
    try replace HX := iH (HX.o.below hb2)
    try replace HO := iH (HO.o.below hb2)
    try replace HZ := iH (bl_trans HZ.o hb2)
    try replace HY1 := iH (HY1.o.upper (uB hb2))
    try replace HY2 := iH (HY2.o.upper (uB hb2))
    try replace HS := iH (Nat.lt_of_lt_of_le HS.o hb2.size)
    try replace HC := iH (HC.o.mono nR hb2.size)
    clear hb2
   | fail
  all_goals
   have st := HOZ.o.there 0 8 (by simp);have on := all_oneCell_toArray (cs := (eL d.k d.op y1 y2 (.slice none 0 0))) (by simp [Value.oneCell']);have hob := iH (HOZ.o.put (eL d.k d.op y1 y2 (.slice none 0 0)) 0 (eL d.k d.op y1 y2 (.slice none 0 0)) (by simp) rfl);have hpa := iH (but_sets gz (eL d.k d.op y1 y2 (.slice none 0 0)) 0 w_);refine rqA 13 fun K hK => ?_;refine step_storeV 42 gz 0 (eA d.k d.op y1 y2 (.slice none 0 0)) st on ?_;clear hHeld;have hgw := Nat.lt_of_lt_of_le HG.o HGZ.o;refine hK.out _ _ ?_ fun hHeld => ?_
   · exact ⟨below_sets (w0 := w) gz (by omega) _ 0 _ HB.o, HX.o.upper hpa.o (by omega)⟩
   clear hK K st on hHeld;try simp only [Act.put]
   have hbz := iH (below_sets (w0 := W1) gz HGZ.o (eL d.k d.op y1 y2 (.slice none 0 0)) 0 w_ HZ.o);generalize w_.setCells _ _ _ = W5 at *;refine wpAnyH_done (by kernel_rfl) ?_ _;go_wp2_with fail
   go_meet;exact ⟨gz, y1, y2, rfl, hob, exprOut HOZ.o HY1.o HY2.o hpa.o HC.o, HGZ, HE1, HE2, hbz⟩
 obtain ⟨g, y1, y2, rfl, HOB, HTW, HGZ, HE1, HE2, HZ2⟩ := hcut;obtain ⟨W2, hW2⟩ : ∃ W, W = wc := ⟨_, rfl⟩;subst hW2;have HN0 := HN;go_wp2_with fail
 go_loopw [4] (fun i wr => ∃ (j : Nat) (v : Value) (k' : Nat → ET), j ≤ d.n ∧ i = .int .i64 j ∧ Hd (Gath (fun x : ET => x.d.cells) ET.fp (fun x W => x.ow W2.heap.size W) 42 8 W2.heap.size g 7 [.int .i64 d.k, .int .i64 d.op, .slice y1.a y1.len y1.cap, .int .i64 y2.t.k, .slice y2.t.a y2.t.len y2.t.cap, .int .i64 y2.t.n, .int .i64 y2.t.s, .slice none 0 0] (y1.fp ++ y2.fp) W1 W2 wr v j k') ∧ Hd (∀ i, i < j → (kid i).same (k' i)))
  (fun i _ => d.n - (intOf i).toNat)
 case atStart => exact ⟨0, _, kid, nZ, rfl, Gath.nil HZ2.o HOB.o HGZ.o (fun q hq => ⟨(HTW.o.cp.i q hq).2, fun e => HTW.o.n (e ▸ hq)⟩), fun i hi => absurd hi nN⟩
 obtain ⟨j, v, k', hj, rfl, HQ, HS⟩ := hrel;have HXr := iH (HX.o.below HQ.o.bel);have HBr := iH (bl_trans HB.o HQ.o.bel);have cx := HXr.o.2 7 _ rfl;by_cases hlj : j < d.n
 · obtain ⟨b, off, hka, _, hlt, hc⟩ := HR.o.resolve_left (by omega)
   have HC : Hd (∀ W, Bl w W → W.rangeAt b (off + j * 8) (kid j).d.cl) := fun W hb c u hu => (hb.cell (p := ⟨b, off + j * 8 + c, none⟩) hlt).trans (hc j hlj c u hu);have HXs := iH (show Box _ _ _ by have h := HXr.o; (try unfold EN.cl at h); rwa [hka] at h);rw [hka] at cx;clear hc hlt hka HXr;go_wp2_with fail
   clear cx;refine wqd (fun w' => Bl w w' ∧ Box w' w.heap.size (eL d.k d.op d.v d.t (.slice (some ⟨b, off, none⟩) d.n d.kc))) ?_ fun hHeld => ?_
   · exact ⟨Below.drew HBr.o, HXs.o.below bdr⟩
   replace HQ := iH (HQ.o.below (okET _) bdr);have HB2 := iH (Below.drew HBr.o);have HX2 := iH (HXs.o.below bdr);clear HBr HXs;generalize wr.drew = w_ at *;refine tqB 0 24 ?_;refine tqB 2 26 ?_;refine tqB 3 27 (v := .slice (some ⟨b, off, none⟩) d.n d.kc) (hy := by intro w' hSw; have c0 := hSw.2.2 7 _ rfl; go_simp; (try with_reducible rfl)) ?_;refine tqB 4 28 (v := .int .i64 j) ?_;refine tqB 5 29 (v := .pointer (some ⟨b, off + j * 8, none⟩)) ?_;refine ldq 6 30 Tryz.underlying42 (fun w' h => HC.o w' h.1) ?_;repeat' first
    | refine rd2 1 7 ?_ ?_
    | refine rd2 1 8 ?_ ?_
    | refine rd1 1 ?_
    | refine rd1 7 ?_
    | refine rd1 8 ?_
    |
     intro tg K hK;have tq : Tg 8 := tg;clear tq tg;clear hHeld;go_simp;refine rhK hK ⟨bl_alloc HB2.o _, HX2.o.below (bl_a _)⟩ fun hHeld => ?_;clear hK K;have HN : Hd (∀ j u, (y.d.cl : List Value)[j]? = some u → (w_.alloc (.cells y.d.ar 42)).cell? ((⟨w_.heap.size, 0, none⟩ : Addr).add j) = some u) := fun j u hu => World.news_of_block (Go.heap_alloc_new _ _) j u hu;try replace HY := iH (HY.o.below (okET _) (bl_a (w := w_) (.cells #[.int .i64 y.d.k, .int .i64 y.d.op, .slice y.d.v.a y.d.v.len y.d.v.cap, .int .i64 y.d.t.t.k, .slice y.d.t.t.a y.d.t.t.len y.d.t.t.cap, .int .i64 y.d.t.t.n, .int .i64 y.d.t.t.s, .slice y.d.ka y.d.n y.d.kc] 42)))
     try replace HB2 := iH (bl_alloc HB2.o (.cells #[.int .i64 y.d.k, .int .i64 y.d.op, .slice y.d.v.a y.d.v.len y.d.v.cap, .int .i64 y.d.t.t.k, .slice y.d.t.t.a y.d.t.t.len y.d.t.t.cap, .int .i64 y.d.t.t.n, .int .i64 y.d.t.t.s, .slice y.d.ka y.d.n y.d.kc] 42))
     try replace HX2 := iH (HX2.o.below (bl_a (w := w_) (.cells #[.int .i64 y.d.k, .int .i64 y.d.op, .slice y.d.v.a y.d.v.len y.d.v.cap, .int .i64 y.d.t.t.k, .slice y.d.t.t.a y.d.t.t.len y.d.t.t.cap, .int .i64 y.d.t.t.n, .int .i64 y.d.t.t.s, .slice y.d.ka y.d.n y.d.kc] 42)))
     obtain ⟨gb, hgb⟩ : ∃ b, b = w_.heap.size := ⟨_, rfl⟩;rw [← hgb] at HN ⊢;clear hgb;generalize w_.alloc (.cells y.d.ar 42) = w_ at *
    |
     intro tg K hK;have tq : Tg 7 := tg;clear tq tg;go_simp;refine (HI.o j hlj _ HB2.o).mono ?_;rintro r w_ ⟨y, rfl, hy, hc, he, hb2⟩;clear hHeld;have HE := iH he;have HY := iH (HQ.o.call (okET _) hb2 (hy.base HQ.o.hM) hc);try replace HB2 := iH (bl_trans HB2.o hb2)
     try replace HX2 := iH (HX2.o.below hb2)
     clear hy hc he hb2 HQ;refine rhK hK ⟨HB2.o, HX2.o⟩ fun hHeld => ?_;clear hK K
    |
     intro tg K hK;have tq := tg;clear tq tg;clear hHeld;(first | have cv := (HQ.o.box.2 7 v rfl).1 | have cv := (HY.o.g.box.2 7 v rfl).1)
     go_simp;refine rhK hK ⟨HB2.o, HX2.o⟩ fun hHeld => ?_;clear hK K cv
    | fail
   all_goals
    obtain ⟨kn, hk1, hk2⟩ : ∃ kn : Nat → ET, (∀ i, i < j → kn i = k' i) ∧ kn j = y := ⟨fun i => if i = j then y else k' i, fun i hi => if_neg (by omega), if_pos rfl⟩;have HK1 := iH hk1;have HK2 := iH hk2;clear hk1 hk2;have HC1 := iH (fun i (hi : i < j) => (show (kn i).d.cells = _ by rw [HK1.o i hi]));have HC2 : Hd ((fun i => (kn i).d.cells) j = y.d.cl) := (show (kn j).d.cells = _ by rw [HK2.o]; rfl);have one1 : ∀ u ∈ (y.d.cl : List Value), u.oneCell' = true := (by intro u hu; simp only [List.mem_cons, List.not_mem_nil, or_false] at hu; rcases hu with rfl | rfl | rfl | rfl | rfl | rfl | rfl | rfl <;> rfl);have HOW := iH HY.o.g.own;have hMs := HY.o.g.hM;have hjn : j ≤ 1048576 := by have := HN0.o; omega
    clear hHeld;refine rqA 9 fun K hK => ?_;refine stepCC (.tmp 25) (.tmp 32) 33 40 42 8 112 (.agg zEa) Tryz.underlying40 infoE9 W2.heap.size v j (fun i => (k' i).d.cells) HOW ⟨gb, 0, none⟩ 1 y.d.cl HN one1 hjn hMs (fun i => (kn i).d.cells) HC1 HC2 ?_;intro g9 c9 w9 HO9 HA9 HG9 HD9;clear one1 HC1 HC2 HN HOW hMs hjn;have HB9 := iH (HB2.o.trans (HD9.o.mono (by have := HB.o.size; have := HY.o.g.g0; have := HY.o.g.gM; omega)));have HX9 := iH (HX2.o.bel8 HD9.o (by have := HX.o.1; have := HY.o.g.g0; have := HY.o.g.gM; omega));refine rhK hK ⟨HB9.o, HX9.o⟩ fun hHeld => ?_;clear hK K;refine tqB 10 34 ?_;clear hHeld;have HGn := iH (HY.o.add (okET _) HK1.o HK2.o HO9.o HA9.o HG9.o HD9.o);have c9 := ((HY.o.g.box.bel8 HD9.o HY.o.g.gM).2 7 v rfl).1;have f9 := ((HY.o.g.box.bel8 HD9.o HY.o.g.gM).2 7 v rfl).2;have HGB := iH (show w.heap.size < g by have := HX.o.1; have := HY.o.g.g0; omega);refine rqA 11 fun K hK => ?_;go_simp;refine rhK hK ⟨bl_set HB9.o (by show w.heap.size ≤ g; have := HGB.o; omega) _, HX9.o.upper ((But.refl g w9).set 7 _) (by have := HGB.o; omega)⟩ fun hHeld => ?_;clear hK K hHeld c9 f9 HY HO9 HA9 HG9 HD9 HB9 HX9 HB2 HX2;generalize w9.setCell ⟨g, 7, none⟩ _ = wS at *;refine wpAnyH_done (by kernel_rfl) ?_ _;have hle9 := HN0.o;go_wp2;go_roundw
    case rel => exact ⟨j + 1, _, kn, by omega, by go_num, HGn.o, fun i hi => (if e : i = j then (by rw [e, HK2.o]; exact HE.o) else (by rw [HK1.o i (by omega)]; exact HS.o i (by omega)))⟩
    case measure => simp [intOf]; omega
 obtain rfl : j = d.n := by omega
 obtain ⟨a', c', rfl, hcc, hK, hZ, hCp⟩ := HQ.o.fin;have HF : Hd (OB wr g (eL d.k d.op y1 y2 (.slice a' d.n c'))) := HQ.o.box;have HO9 := iH (HO.o.below HQ.o.bel);have lf : wr.rangeAt g 0 (eL d.k d.op y1 y2 (.slice a' d.n c')) := HF.o.box.range 0 _ rfl;have hst := HO9.o.there 0 8 (by simp);have on := all_oneCell_toArray (cs := (eL d.k d.op y1 y2 (.slice a' d.n c'))) (by simp [Value.oneCell']);have hrd : (wr.setCells (w.heap.size + 1) 0 (eL d.k d.op y1 y2 (.slice a' d.n c'))).rangeAt (w.heap.size + 1) 0 (eL d.k d.op y1 y2 (.slice a' d.n c')) := World.rangeAt_setCells_same _ _ _ _ hst;have hbf := iH (below_sets (w0 := w) (w.heap.size + 1) (by omega) (eL d.k d.op y1 y2 (.slice a' d.n c')) 0 wr HBr.o);have hsf := iH ((but_sets (w.heap.size + 1) (eL d.k d.op y1 y2 (.slice a' d.n c')) 0 wr).size);have huf := iH (upper_sets (w.heap.size + 1) (eL d.k d.op y1 y2 (.slice a' d.n c')) 0 wr);have HKz := iH hK;have HZz := iH hZ;have HCz := iH hCp;clear hK hZ hCp hcc HI hj hlj HXr;go_wp2_with (first | (with_reducible refine wpv_at ?_; refine ldr rfl rfl rfl Tryz.underlying42 lf rfl ?_; try simp only [Act.put, sA, zA, cA]) | (with_reducible refine wpv_at ?_; refine store_stopV 42 (.tmp 2) (.tmp 35) rfl ?_))
 change wpList _ _ _ _ _ _;refine wpList_store_mid rfl 42 _ _ rfl (w.heap.size + 1) 0 (eA d.k d.op y1 y2 (.slice a' d.n c')) rfl rfl hst (by kernel_rfl) on ?_;try simp only [Act.put]
 generalize wr.setCells _ _ _ = W5 at *;go_wp2;try simp only [Exit.inBlock, Exit.then]
 refine bodyPost_ret (v := .agg (eA d.k d.op y1 y2 (.slice a' d.n c'))) ?hr rfl ?hp
 case hr => exact results_cell rfl rfl (run_loadVar_mid (P := Tryz.prog) _ (w.heap.size + 1) 0 42 (eL d.k d.op y1 y2 (.slice a' d.n c')) _ hrd Tryz.underlying42 rfl (by kernel_rfl))
 have hw1 : w.heap.size ≤ W1.heap.size := by have := HG.o; omega
 have hw2 := HZ2.o.size;have hw3 := HQ.o.hM;have hU : Upper W1.heap.size wr W5 := huf.o.mono (by have := HG.o; omega);have q1 := (((HTW.o.o1.keep HQ.o.st.left).upper hU).base hw1);have q2 := (((HTW.o.o2.keep HQ.o.st.right).upper hU).base hw1);have q3 := fun i hi => ((HQ.o.ok i hi).upper (hU.mono hw2)).base (Nat.le_trans hw1 hw2);exact ⟨ET.mk ⟨d.k, d.op, y1, y2, a', c', d.n⟩ k', rfl, ⟨⟨q1.1, q2.1.1, q2.1.2, HN0.o, (HKz.o.upper (hU.mono hw2)).base (Nat.le_trans hw1 hw2), fun i hi => (q3 i hi).l⟩, ⟨q1.2, q2.2, (HZz.o.upper (hU.mono hw2)).base (Nat.le_trans hw1 hw2), fun i hi => (q3 i hi).z⟩⟩, (HTW.o.cp.app HCz.o hw2 hw3).mono hw1 (Nat.le_of_eq hsf.o.symm), ⟨rfl, rfl, HE1.o.symm, HE2.o, rfl, HS.o⟩, hbf.o⟩
theorem ET0_ow (B : Nat) (w : World) : ET0.ow B w := ⟨⟨⟨⟨rfl, nZ, fun i => by show 0 ≤ ([] : List Int)[i]?.getD 0 ∧ ([] : List Int)[i]?.getD 0 ≤ 255; simp, .inl rfl⟩, .inl rfl⟩, ⟨⟨rfl, nZ, fun i => by show 0 ≤ ([] : List Int)[i]?.getD 0 ∧ ([] : List Int)[i]?.getD 0 ≤ 255; simp, .inl rfl⟩, .inl rfl⟩, ⟨by decide, by decide, by decide, by decide⟩, nZ, .inl rfl, fun i hi => absurd hi nN⟩, ⟨.inl rfl, .inl rfl, .inl rfl, fun i hi => absurd hi nN⟩⟩
def SL0 : SL := ⟨none, 0, 0, []⟩
theorem SL0_own (B : Nat) (w : World) : SL0.own B w := ⟨⟨⟨rfl, nZ, fun i => by show 0 ≤ ([] : List Int)[i]?.getD 0 ∧ ([] : List Int)[i]?.getD 0 ≤ 255; simp, .inl rfl⟩, .inl rfl⟩, .inl rfl⟩
theorem TRow0 (B : Nat) (w : World) : TRowF B w none [] := ⟨.inl rfl, .inl rfl, fun x hx => by cases hx⟩
theorem l4ownE (e : ET) : ∀ (w : World), e.lies 0 w → Calls Tryz.prog 78 #[.agg e.d.ar] w fun r w' => ∃ y : ET, r = .returned (.agg y.d.ar) ∧ y.ow w.heap.size w' ∧ Cp w.heap.size w'.heap.size y.fp ∧ (e).same y ∧ Bl w w' := by
 induction e with
 | nil => exact fun _ h => False.elim h
 | mk d kid ih => exact fun w h => l4ownE_of d kid w h fun i hi W hb => ih i W (ET.lies.upper (uB hb) (h.2.2.2.2.2 i hi))
theorem TR.own.keep {y : TR} (h : y.own B w) (hk : Stay (tfp y.a y.l) w w') : y.own B w' := by
 have h2 := terms_keep h.row h.z h.t hk;exact ⟨h.le, h2.1, h2.2.1, h2.2.2⟩
end Go.Proofs.YtoloadogihbdeaaGreat
