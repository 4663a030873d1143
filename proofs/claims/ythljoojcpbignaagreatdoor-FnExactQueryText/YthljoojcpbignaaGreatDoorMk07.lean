import Derived.Test.YthljoojcpbignaaGreatDoorMk06
namespace Go.Proofs.YthljoojcpbignaaGreatDoor
open Go.RowKit Go.Deep
set_option maxHeartbeats 40000000
set_option maxRecDepth 100000
theorem l4group_of (a : Option Addr) (cap n : Nat) (kid : Nat → UT) (deep L : Int) (g : Nat) (w0 w : World) (hn : n ≤ 1048576) (hR : KRow 0 w0 28 a n (fun i => (kid i).d.cells)) (hw : Bl w0 w) (hg : w0.heap.size ≤ g) (hc : Ctr w g L) (hL0 : 0 ≤ L) (hL1 : L ≤ 100000)
 (IH : ∀ i, i < n → ∀ (L' : Int) (W : World), Bl w0 W → Ctr W g L' → 0 ≤ L' → L' ≤ 100000 → Calls Tryz.prog 94 #[.agg (kid i).d.ar, .int .i64 deep, .pointer (some ⟨g, 0, none⟩)] W (CtrAns (uOk (kid i) deep) (usz (kid i)) g L' W)) :
 Calls Tryz.prog 63 #[.slice a n cap, .int .i64 deep, .pointer (some ⟨g, 0, none⟩)] w (CtrAns (∀ i, i < n → uOk (kid i) deep) (sumN n (fun i => usz (kid i))) g L w) := by
 try unfold UN.ar
 have hgw := hc.lt
 by_cases hn0 : n = 0
 · subst hn0
   have HC := iH hc
   clear hR IH hn hc hw
   go_in
   go_wp2_with fail
   refine wp_loop_rounds 1 ?_
   rw [rounds_succ]
   go_wp2_with fail
   go_ret
   exact CtrAns.yes (fun i hi => absurd hi nN) (by show ((0 : Nat) : Int) ≤ L; omega) (by show L = L - ((0 : Nat) : Int); omega) HC.o (Past.of_below brf)
 obtain ⟨b, off, rfl, _, hlt, hck⟩ := hR.resolve_left hn0
 have HC := iH hck
 have HI := iH IH
 have HC0 := iH hc
 have HW := iH hw
 have hsz := hw.size
 clear hR hck IH hc hw
 go_in
 go_wp2_with fail
 go_loopw [7] (fun i wr => ∃ (k : Nat) (Lr : Int), k ≤ n ∧ i = .int .i64 k ∧ 0 ≤ Lr ∧ Lr ≤ 100000 ∧ Hd (Lr = L - (sumN k (fun i => usz (kid i)) : Nat)) ∧ Hd (∀ j, j < k → uOk (kid j) deep) ∧ Hd (Ctr wr g Lr) ∧ Hd (Past g w wr) ∧ Hd (Bl w0 wr)) (fun i _ => n - (intOf i).toNat)
 case atStart => exact ⟨0, L, nZ, rfl, hL0, hL1, (show L = L - ((0 : Nat) : Int) by omega), fun j hj => absurd hj nN, HC0, Past.of_below brf, HW⟩
 clear HC0 HW
 obtain ⟨k, Lr, hk, rfl, hLr0, hLr1, HLR, HOKS, HCr, HPr, HBr⟩ := hrel
 by_cases hlk : k < n
 · have hlkz : (k : Int) < (n : Int) := by omega
   have hcx : wr.rangeAt b (off + k * 28) (kid k).d.cl := fun c u hu => (HBr.o.cell (p := ⟨b, off + k * 28 + c, none⟩) hlt).trans (HC.o k hlk c u hu)
   have Z := HI.o k hlk Lr wr HBr.o HCr.o hLr0 hLr1
   go_wp2_with (with_reducible refine wpq_at ?_; refine wpList_load_mid rfl 103 _ rfl b (off + k * 28) rfl (kid k).d.cl _ hcx Tryz.underlying103 rfl (by kernel_rfl) ?_; try simp only [Act.put, sA, zA, cA])
   refine Z.mono ?_
   rintro e w5 ⟨q5, L5, rfl, hq5, hL5, hc5, hp5⟩
   have HC5 := iH hc5
   have HP5 := iH (HPr.o.trans hp5)
   have HB5 := iH (HBr.o.trans (hp5.below hg (by have := HBr.o.size; omega)))
   have HS : Hd (sumN (k + 1) (fun i => usz (kid i)) = sumN k (fun i => usz (kid i)) + usz (kid k)) := rfl
   clear Z hcx hc5 hp5 HCr HPr HBr
   cases q5
   · have HNO : Hd (¬ ((∀ i, i < n → uOk (kid i) deep) ∧ ((sumN n (fun i => usz (kid i)) : Nat) : Int) ≤ L)) := fun hh => by
      have h1 := hh.1 k hlk
      have h3 := sumN_mono (f := fun i => usz (kid i)) (show k + 1 ≤ n by omega)
      have h4 := HLR.o
      have h5 := HS.o
      have h6 := hh.2
      have h7 := hq5.2 ⟨h1, by omega⟩
      cases h7
     clear hq5 hL5
     go_wp2_with fail
     go_ret
     exact CtrAns.no HNO.o HC5.o HP5.o
   obtain ⟨h51, h52⟩ := hq5.1 rfl
   have h53 := hL5 rfl
   have HN5 := iH h51
   have HL5 : Hd (L5 = L - (sumN (k + 1) (fun i => usz (kid i)) : Nat)) := (show L5 = _ by have h1 := HS.o; have h2 := HLR.o; omega)
   have hL50 : 0 ≤ L5 := by omega
   have hL51 : L5 ≤ 100000 := by omega
   clear h51 h52 h53 hq5 hL5
   go_wp2_with fail
   go_roundw
   case rel =>
    refine ⟨k + 1, L5, by omega, by go_num, hL50, hL51, HL5, fun j hj => ?_, HC5, HP5, HB5⟩
    by_cases e : j = k
    · subst e
      exact HN5.o
    exact HOKS.o j (by omega)
   case measure => simp [intOf]; omega
 obtain rfl : k = n := by omega
 have hlkz : ¬ (k : Int) < (k : Int) := by omega
 have HFL : Hd (((sumN k (fun i => usz (kid i)) : Nat) : Int) ≤ L ∧ Lr = L - (sumN k (fun i => usz (kid i)) : Nat)) := (show _ ∧ _ by have h4 := HLR.o; omega)
 go_wp2_with fail
 go_ret
 exact CtrAns.yes HOKS.o HFL.o.1 HFL.o.2 HCr.o HPr.o
theorem l4elem_out (d : UN) (ka kb : Nat → UT) (hkv : d.k < 0 ∨ 6 < d.k) (deep L : Int) (g : Nat) (w0 w : World) (hw : Bl w0 w) (hg : w0.heap.size ≤ g) (hc : Ctr w g L) (hL0 : 0 ≤ L) (hL1 : L ≤ 100000) :
 Calls Tryz.prog 94 #[.agg d.ar, .int .i64 deep, .pointer (some ⟨g, 0, none⟩)] w (CtrAns (uOk (.mk d ka kb) deep) (usz (.mk d ka kb)) g L w) := by
 have hgw := hc.lt
 have HNO : Hd (¬ NodeU d) := fun hh => by
  have h1 := hh.k0
  have h2 := hh.k6
  omega
 have HCS : Hd (CS w0 w ((w.setCell ⟨g, 0, none⟩ (.int .i64 (L - 1))).alloc (.cells d.ar 103)) g (L - 1) d.cells) := CS.new hw hg hc _ 103 (L - 1)
 have c0 := fun o => ((bl_a (w := w) o).cell (p := ⟨g, 0, none⟩) hgw).trans hc.cell
 have f0 := fun o => ((bl_a (w := w) o).frozen (p := ⟨g, 0, none⟩) hgw).trans hc.fr
 have hwr : IntKind.i64.wrap (L - 1) = L - 1 := by rw [IntKind.wrap_i64]; omega
 clear hw hc
 go_in
 go_upto_region 2 with fail
 generalize ((w.setCell ⟨g, 0, none⟩ (.int .i64 (L - 1))).alloc (.cells d.ar 103)) = W1 at *
 clear c0 f0 hwr
 have cg := HCS.o.ct.cell
 have x0 := HCS.o.bx.2 0 _ rfl
 by_cases hLz : L - 1 < 0
 · clear hkv
   go_wp2_with fail
   go_ret
   exact CtrAns.no (uOk_no HNO.o) HCS.o.ct HCS.o.pa
 by_cases hdz : deep > 10
 · clear hkv
   go_wp2_with fail
   go_ret
   exact CtrAns.no (uOk_no HNO.o) HCS.o.ct HCS.o.pa
 by_cases hk0 : d.k < 0
 · clear hkv
   go_wp2_with fail
   go_ret
   exact CtrAns.no (uOk_no HNO.o) HCS.o.ct HCS.o.pa
 have hk7 : d.k > 6 := by omega
 clear hkv
 go_wp2_with fail
 go_ret
 exact CtrAns.no (uOk_no HNO.o) HCS.o.ct HCS.o.pa
theorem l4elem_any (e : UT) : ∀ (deep L : Int) (g : Nat) (w0 w : World), e.lies 0 w0 → Bl w0 w → w0.heap.size ≤ g → Ctr w g L → 0 ≤ deep → deep ≤ 100000 → 0 ≤ L → L ≤ 100000 →
 Calls Tryz.prog 94 #[.agg e.d.ar, .int .i64 deep, .pointer (some ⟨g, 0, none⟩)] w (CtrAns (uOk e deep) (usz e) g L w) := by
 induction e with
 | nil => exact fun _ _ _ _ _ h => False.elim h
 | mk d ka kb ia ib =>
  intro deep L g w0 w hl hw hg hc hd0 hd1 hL0 hL1
  obtain ⟨_, _, _, _, _, ⟨an, aR⟩, ⟨bn, bR⟩, hka, hkb⟩ := id hl
  have IA := fun (L' : Int) (W : World) (hb : Bl w0 W) (hc' : Ctr W g L') (h0 : 0 ≤ L') (h1 : L' ≤ 100000) (h10 : deep ≤ 10) => l4group_of d.aa d.ac d.an ka (deep + 1) L' g w0 W an aR hb hg hc' h0 h1 fun i hi L2 W2 hb2 hc2 h02 h12 => ia i (deep + 1) L2 g w0 W2 (hka i hi) hb2 hg hc2 (by omega) (by omega) h02 h12
  have IB := fun (L' : Int) (W : World) (hb : Bl w0 W) (hc' : Ctr W g L') (h0 : 0 ≤ L') (h1 : L' ≤ 100000) (h10 : deep ≤ 10) => l4group_of d.ba d.bc d.bn kb (deep + 1) L' g w0 W bn bR hb hg hc' h0 h1 fun i hi L2 W2 hb2 hc2 h02 h12 => ib i (deep + 1) L2 g w0 W2 (hkb i hi) hb2 hg hc2 (by omega) (by omega) h02 h12
  by_cases hout : d.k < 0 ∨ 6 < d.k
  · exact l4elem_out d ka kb hout deep L g w0 w hw hg hc hL0 hL1
  rcases (by omega : d.k = 0 ∨ d.k = 1 ∨ d.k = 2 ∨ d.k = 3 ∨ d.k = 4 ∨ d.k = 5 ∨ d.k = 6) with h | h | h | h | h | h | h
  · exact l4elem_0 d ka kb h deep L g w0 w hl hw hg hc hd0 hd1 hL0 hL1 IA IB
  · exact l4elem_1 d ka kb h deep L g w0 w hl hw hg hc hd0 hd1 hL0 hL1 IA IB
  · exact l4elem_2 d ka kb h deep L g w0 w hl hw hg hc hd0 hd1 hL0 hL1 IA IB
  · exact l4elem_3 d ka kb h deep L g w0 w hl hw hg hc hd0 hd1 hL0 hL1 IA IB
  · exact l4elem_4 d ka kb h deep L g w0 w hl hw hg hc hd0 hd1 hL0 hL1 IA IB
  · exact l4elem_5 d ka kb h deep L g w0 w hl hw hg hc hd0 hd1 hL0 hL1 IA IB
  exact l4elem_6 d ka kb h deep L g w0 w hl hw hg hc hd0 hd1 hL0 hL1 IA IB
def SL.v (x : SL) : Value := .slice x.a x.len x.cap
structure VL (w0 w : World) (B : Nat) (v : Value) (L : List SL) : Prop where
 own : w.ownsRow B 42 1 v L.length (L.map SL.v)
 lo : ∀ g, v.ownBlock = some g → B ≤ g ∧ g < w.heap.size
 txt : ∀ x ∈ L, BsF 0 w0 x
theorem VL.nil (w0 w : World) (B : Nat) : VL w0 w B (.slice none 0 0) [] := ⟨World.ownsRow_nil _ _ _ _, fun g h => (by cases h), fun x hx => (by cases hx)⟩
theorem VL.keep {w0 w w' : World} {B : Nat} {v : Value} {L : List SL} (h : VL w0 w B v L) (hs : w.heap.size ≤ w'.heap.size) (hb : ∀ g, v.ownBlock = some g → w'.heap[g]? = w.heap[g]?) : VL w0 w' B v L := by
 obtain ⟨⟨h1, h2⟩, hl, ht⟩ := h
 refine ⟨⟨h1, ?_⟩, fun c hc => ⟨(hl c hc).1, Nat.lt_of_lt_of_le (hl c hc).2 hs⟩, ht⟩
 rcases h2 with h2 | ⟨g', cap', cur, hv, hB, hh, r⟩
 · exact .inl h2
 refine .inr ⟨g', cap', cur, hv, hB, ?_, r⟩
 rw [hb g' (by rw [hv]; rfl)]
 exact hh
theorem VL.below {w0 w w' : World} {B : Nat} {v : Value} {L : List SL} (h : VL w0 w B v L) (hb : Bl w w') : VL w0 w' B v L := h.keep hb.size fun g hg => hb.block g (h.lo g hg).2
theorem VL.form {w0 w : World} {B : Nat} {v : Value} {L : List SL} (h : VL w0 w B v L) : ∃ a cap, v = .slice a L.length cap ∧ (L = [] ∨ ∃ g, a = some ⟨g, 0, none⟩ ∧ B ≤ g ∧ g < w.heap.size ∧ ∀ i x, L[i]? = some x → w.cell? ⟨g, i, none⟩ = some (.slice x.a x.len x.cap)) := by
 rcases h.own.2 with ⟨hv, h0⟩ | ⟨g, cap, cur, hv, hB, hh, hle, _, hsz, htk⟩
 · have := List.eq_nil_of_length_eq_zero h0
   subst this
   exact ⟨none, 0, hv, .inl rfl⟩
 refine ⟨some ⟨g, 0, none⟩, cap, hv, .inr ⟨g, rfl, hB, (h.lo g (by rw [hv]; rfl)).2, fun i x hx => ?_⟩⟩
 have hi := (List.getElem?_eq_some_iff.1 hx).1
 have hu : (L.map SL.v)[i]? = some (.slice x.a x.len x.cap) := by rw [List.getElem?_map, hx]; rfl
 rw [← htk, List.getElem?_take, if_pos (by omega)] at hu
 simp only [World.cell?, hh]
 simpa using hu
def InL (b : List Int) (L : List SL) : Prop := b ∈ L.map SL.b
def addV (l : List (List Int)) (v : List Int) : List (List Int) := if v = [] ∨ v ∈ l then l else l ++ [v]
theorem addV_len (l : List (List Int)) (v : List Int) : (addV l v).length ≤ l.length + 1 := by
 unfold addV
 split <;> simp
structure Kp (v : Value) (w : World) (v' : Value) (w' : World) : Prop where
 os : w'.os = w.os
 tape : w'.tape = w.tape
 output : w'.output = w.output
 size : w.heap.size ≤ w'.heap.size
 block : ∀ b, b < w.heap.size → v.ownBlock ≠ some b → w'.heap[b]? = w.heap[b]?
 blk : ∀ g, v'.ownBlock = some g → v.ownBlock = some g ∨ w.heap.size ≤ g
theorem Kp.of_below {v : Value} {w w' : World} (h : Bl w w') : Kp v w v w' := ⟨h.os, h.tape, h.output, h.size, fun b hb _ => h.block b hb, fun _ hg => .inl hg⟩
theorem Kp.trans {v v' v'' : Value} {w w' w'' : World} (h : Kp v w v' w') (k : Kp v' w' v'' w'') : Kp v w v'' w'' :=
 ⟨k.os.trans h.os, k.tape.trans h.tape, k.output.trans h.output, Nat.le_trans h.size k.size, fun b hb hn => (k.block b (Nat.lt_of_lt_of_le hb h.size) (fun e => by
  rcases h.blk b e with e' | e'
  · exact hn e'
  · omega)).trans (h.block b hb hn), fun g hg => by
  rcases k.blk g hg with e | e
  · exact h.blk g e
  exact .inr (Nat.le_trans h.size e)⟩
theorem Kp.box {v v' : Value} {w w' : World} {b : Nat} {L : List Value} (h : Kp v w v' w') (hx : Box w b L) (hn : v.ownBlock ≠ some b) : Box w' b L := ⟨Nat.lt_of_lt_of_le hx.1 h.size, fun c u hu => (World.cell?_of_block (w := w) (a := ⟨b, c, none⟩) (h.block b hx.1 hn)).trans (hx.2 c u hu)⟩
theorem Kp.low {v v' : Value} {w w' : World} {B : Nat} (h : Kp v w v' w') (hv : ∀ g, v.ownBlock = some g → B ≤ g) (hB : B ≤ w.heap.size) : Below B w w' := ⟨h.os, h.tape, h.output, h.size, fun b hb => h.block b (by omega) (fun e => by have := hv b e; omega)⟩
theorem Kp.pre {v v' : Value} {w w1 w' : World} (h : Bl w w1) (k : Kp v w1 v' w') : Kp v w v' w' := (Kp.of_below h).trans k
def AddAns (w0 : World) (B : Nat) (v : Value) (R : List (List Int)) (w : World) (e : Ending) (w' : World) : Prop := ∃ v' L', e = .returned v' ∧ VL w0 w' B v' L' ∧ L'.map SL.b = R ∧ Kp v w v' w'
theorem str_ne {a b : List Int} (ha : Byt a) (hb : Byt b) (h : a ≠ b) : strOfNums a ≠ strOfNums b := fun e => h (by rw [← numsOf_nums ha, ← numsOf_nums hb, e])
theorem str_ne2 {a b : List Int} (ha : Byt a) (hb : Byt b) (h : a ≠ b) : (strOfNums a).toList ≠ (strOfNums b).toList := fun e => h (by
 rw [Lib.strOfNums_toList, Lib.strOfNums_toList] at e
 rw [← numsOf_nums ha, ← numsOf_nums hb]
 show (a.map fun n => UInt8.ofNat n.toNat).map _ = (b.map fun n => UInt8.ofNat n.toNat).map _
 exact congrArg _ e)
theorem l4has_any (v : Value) (L : List SL) (x : SL) (B : Nat) (w0 w : World) (h : VL w0 w B v L) (hw : Bl w0 w) (hx : BsF 0 w0 x) (hn : L.length ≤ 1048576) :
 Calls Tryz.prog 84 #[v, .slice x.a x.len x.cap] w (Tells (InL x.b L) w) := by
 obtain ⟨a, cap, rfl, hf⟩ := h.form
 obtain ⟨n, hnn⟩ : ∃ n, n = L.length := ⟨_, rfl⟩
 have HN := iH hnn
 have HT := iH h.txt
 have HX := iH hx
 have HW := iH hw
 have HG := iH hf
 rw [← hnn] at hn ⊢
 clear h hw hx hf hnn
 go_in
 go_wp2_with fail
 go_loopw [5] (fun i wr => ∃ k : Nat, k ≤ n ∧ i = .int .i64 k ∧ Hd (∀ j y, j < k → L[j]? = some y → y.b ≠ x.b) ∧ Hd (Bl w wr)) (fun i _ => n - (intOf i).toNat)
 case atStart => exact ⟨0, nZ, rfl, fun j y hj => absurd hj nN, Below.refl _ _⟩
 obtain ⟨k, hk, rfl, HNE, HB⟩ := hrel
 by_cases hlk : k < n
 · have hlkz : (k : Int) < (n : Int) := by omega
   obtain ⟨y, hy⟩ : ∃ y, L[k]? = some y := ⟨_, List.getElem?_eq_getElem (by rw [← HN.o]; exact hlk)⟩
   obtain ⟨g, ea, _, hg, hc⟩ := HG.o.resolve_left (fun e => by rw [e] at hy; cases hy)
   have hty := HT.o y (List.mem_of_getElem? hy)
   have HY := iH hy
   have HF : Hd (∀ w', Bl wr w' → w'.cell? ⟨g, k, none⟩ = some (.slice y.a y.len y.cap) ∧ (convert 42 9 (.slice y.a y.len y.cap)).run Tryz.prog w' = .ok (.string (strOfNums y.b)) w' ∧ (convert 42 9 (.slice x.a x.len x.cap)).run Tryz.prog w' = .ok (.string (strOfNums x.b)) w') := fun w' hb => ⟨((bl_trans HB.o hb).cell (p := ⟨g, k, none⟩) hg).trans (hc k y hy), (hty.1.below (bl_trans HW.o (bl_trans HB.o hb))).str, (HX.o.1.below (bl_trans HW.o (bl_trans HB.o hb))).str⟩
   subst ea
   clear hc hy
   by_cases hyx : y.b = x.b
   · have HIN : Hd (InL x.b L) := (show x.b ∈ L.map SL.b by rw [← hyx]; exact List.mem_map_of_mem (f := SL.b) (List.mem_of_getElem? HY.o))
     rw [hyx] at HF
     clear hyx hty
     go_wp2_with fail
     refine whd (fun w' => Bl wr w') ?_ fun hHeld => ?_
     · exact Below.drew brf
     refine tkB 0 12 ?_
     refine tkB 1 13 ?_
     refine tkB 2 14 ?_
     refine tkA 3 15 (v := ?v4) ?y4 ?_
     case y4 => (intro w' hSw; obtain ⟨q1, q2, q3⟩ := HF.o w' hSw; go_simp; (try with_reducible rfl))
     refine tkA 4 16 (v := ?v5) ?y5 ?_
     case y5 => (intro w' hSw; obtain ⟨q1, q2, q3⟩ := HF.o w' hSw; go_simp; (try with_reducible rfl))
     refine tkB 5 17 ?_
     refine tkA 6 18 (v := ?v7) ?y7 ?_
     case y7 => (intro w' hSw; obtain ⟨q1, q2, q3⟩ := HF.o w' hSw; go_simp; (try with_reducible rfl))
     refine tkB 7 19 ?_
     refine wpAnyH_done (by kernel_rfl) ?_ _
     have HBq := iH (Below.drew HB.o)
     clear hHeld HF
     go_wp2_with fail
     go_ret
     exact Tells.yes HIN.o HBq.o
   have hs := str_ne hty.1.byt HX.o.1.byt hyx
   have hs0 := str_ne2 hty.1.byt HX.o.1.byt hyx
   have hs1 := beq_false_of_ne hs0
   have hs2 := decide_eq_false hs
   have HYX := iH hyx
   clear hyx hty
   go_wp2_with fail
   refine whd (fun w' => Bl wr w') ?_ fun hHeld => ?_
   · exact Below.drew brf
   refine tkB 0 12 ?_
   refine tkB 1 13 ?_
   refine tkB 2 14 ?_
   refine tkA 3 15 (v := ?v104) ?y104 ?_
   case y104 => (intro w' hSw; obtain ⟨q1, q2, q3⟩ := HF.o w' hSw; go_simp; (try with_reducible rfl))
   refine tkA 4 16 (v := ?v105) ?y105 ?_
   case y105 => (intro w' hSw; obtain ⟨q1, q2, q3⟩ := HF.o w' hSw; go_simp; (try with_reducible rfl))
   refine tkB 5 17 ?_
   refine tkA 6 18 (v := ?v107) ?y107 ?_
   case y107 => (intro w' hSw; obtain ⟨q1, q2, q3⟩ := HF.o w' hSw; go_simp; (try with_reducible rfl))
   refine tkB 7 19 ?_
   refine wpAnyH_done (by kernel_rfl) ?_ _
   have HBq := iH (Below.drew HB.o)
   clear hHeld HF
   clear hs hs0 hs1 hs2
   generalize wr.drew = wq at *
   go_wp2_with fail
   go_roundw
   case rel =>
    refine ⟨k + 1, by omega, by go_num, fun j z hj hz => ?_, HBq⟩
    by_cases e : j = k
    · subst e
      rw [HY.o] at hz
      cases hz
      exact HYX.o
    exact HNE.o j z (by omega) hz
   case measure => simp [intOf]; omega
 obtain rfl : k = n := by omega
 have hlkz : ¬ (k : Int) < (k : Int) := by omega
 have HNI : Hd (¬ InL x.b L) := fun hm => by
  obtain ⟨y, hy, e⟩ := List.mem_map.1 hm
  obtain ⟨j, hj, rfl⟩ := List.mem_iff_getElem.1 hy
  exact HNE.o j _ (by rw [HN.o]; exact hj) (List.getElem?_eq_getElem hj) e
 go_wp2_with fail
 go_ret
 exact Tells.no HNI.o HB.o
theorem Tryz.infoB42 : (Tryz.prog.info? 42).map (fun i => (i.zero, i.size, i.bytes)) = some (some (.slice none 0 0), 1, 24) := by kernel_rfl
theorem appL {ops : Array Oper} {rest : List Oper} {o : Oper} {a : Act} {Q : Exit → Act → World → Prop} {w : World} (hgd : o.guard = none) (s x : Operand)
 (ho : o.op = .call { callee := .builtin .append, args := #[s, x], argTypes := #[24, 24] })
 (w0 : World) (B : Nat) (v : Value) (L : List SL) (hs : a.eval s = v) (HO : Hd (VL w0 w B v L)) (y : SL) (hy : BsF 0 w0 y)
 (ad : Addr) (c : Nat) (hx : a.eval x = .slice (some ad) 1 c) (HN : Hd (∀ j u, ([y.v] : List Value)[j]? = some u → w.cell? (ad.add j) = some u)) (hle : L.length ≤ 1048576) (hB : B ≤ w.heap.size)
 (h : ∀ g cap w', Hd (VL w0 w' B (.slice (some ⟨g, 0, none⟩) (L.length + 1) cap) (L ++ [y])) → Hd (Kp v w (.slice (some ⟨g, 0, none⟩) (L.length + 1) cap) w') → wpList Tryz.prog ops Q rest (a.put o.dst (.slice (some ⟨g, 0, none⟩) (L.length + 1) cap)) w') :
 wpList Tryz.prog ops Q (o :: rest) a w := by
 obtain ⟨i0, hi0, hzz⟩ := Option.map_eq_some_iff.1 Tryz.infoB42
 simp only [Prod.mk.injEq] at hzz
 obtain ⟨hi2, hi1, hi3⟩ := hzz
 refine wpList_append_lies _ hgd s x 24 ho B 42 i0 (.slice none 0 0) 1 24 Tryz.underlying24 hi0 hi2 hi1 hi3 rfl (by omega) v L.length (L.map SL.v) hs HO.o.own ad 1 c [y.v] hx rfl HN.o (fun u hu => by simp only [List.mem_cons, List.not_mem_nil, or_false] at hu; rw [hu]; rfl) (by omega) (by unfold maxLen; omega) (by omega) hB _ rfl ?_
 intro g cap w' hown hgr hat hlt
 refine h g cap w' ⟨?_, fun g' hg' => ?_, fun z hz => ?_⟩ ⟨hgr.os, hgr.tape, hgr.output, hgr.size, fun b hb hn => hgr.block b hb (fun e => hn e.symm), fun g' hg' => ?_⟩
 · rw [List.map_append, List.length_append]
   exact hown
 · have : g = g' := by simpa [Value.ownBlock] using hg'
   subst this
   rcases hown.2 with ⟨hv, _⟩ | ⟨g0, c0, cur, hv, hb, _⟩
   · cases hv
   cases hv; exact ⟨hb, hlt⟩
 · rcases List.mem_append.1 hz with hz | hz
   · exact HO.o.txt z hz
   rw [List.mem_singleton.1 hz]
   exact hy
 have : g = g' := by simpa [Value.ownBlock] using hg'
 subst this
 rcases hat with e | e
 · exact .inl e
 exact .inr (by rw [e]; exact nR)
theorem l4add_any (v : Value) (L : List SL) (x : SL) (B : Nat) (w0 w : World) (h : VL w0 w B v L) (hw : Bl w0 w) (hx : BsF 0 w0 x) (hn : L.length ≤ 1000000) (hB : B ≤ w.heap.size) :
 Calls Tryz.prog 51 #[v, .slice x.a x.len x.cap] w (AddAns w0 B v (addV (L.map SL.b) x.b) w) := by
 have HLX := iH (nil_len hx.1.1)
 have HV := iH h
 have HX := iH hx
 have HAS := l4has_any v L x B w0 w h hw hx (by omega)
 obtain ⟨a, cap, rfl, _⟩ := h.form
 obtain ⟨n, hnn⟩ : ∃ n, n = L.length := ⟨_, rfl⟩
 have HN := iH hnn
 rw [← hnn] at HAS HV ⊢
 clear h hw hx hnn
 by_cases h0 : x.len = 0
 · have HR : Hd (addV (L.map SL.b) x.b = L.map SL.b) := (show addV _ _ = _ by unfold addV; rw [if_pos (.inl (HLX.o.2 h0))])
   go_in
   go_wp2_with fail
   go_ret
   exact ⟨_, L, rfl, HV.o, HR.o.symm, Kp.of_below brf⟩
 have h0b : ((x.len : Int) == 0) = false := by simp; omega
 have H0 : Hd (¬ x.b = []) := fun e => h0 (HLX.o.1 e)
 clear h0
 go_in
 go_wp2_with fail
 refine HAS.mono ?_
 rintro e w1 ⟨q, rfl, hq, hb1⟩
 have HB1 := iH hb1
 clear HAS hb1
 cases q with
 | true =>
  have HR := iH (show addV _ _ = _ by unfold addV; rw [if_pos (.inr (hq.1 rfl))])
  clear hq
  go_wp2_with fail
  go_ret
  exact ⟨_, L, rfl, HV.o.below HB1.o, HR.o.symm, Kp.of_below HB1.o⟩
 | false =>
  have HR : Hd (addV (L.map SL.b) x.b = (L ++ [x]).map SL.b) := (show addV _ _ = _ by
   unfold addV
   rw [if_neg (fun hh => by
    rcases hh with hh | hh
    · exact H0.o hh
    have := hq.2 hh
    cases this), List.map_append]
   rfl)
  clear hq
  have HO1 := iH (fun o => (HV.o.below HB1.o).below (bl_a o))
  have HNW : Hd (∀ j u, ([x.v] : List Value)[j]? = some u → (w1.alloc (.cells #[.slice x.a x.len x.cap] 42)).cell? ((⟨w1.heap.size, 0, none⟩ : Addr).add j) = some u) := by
   intro j u hu
   have h1 : (w1.alloc (.cells #[.slice x.a x.len x.cap] 42)).heap[w1.heap.size]? = some (.cells #[.slice x.a x.len x.cap] 42) := by
    show (w1.heap.push _)[w1.heap.size]? = _
    rw [Array.getElem?_push]
    simp
   exact World.news_of_block h1 j u hu
  have hle1 : L.length ≤ 1048576 := by have := HN.o; omega
  have hB1 := fun o => Nat.le_trans hB (Nat.le_trans HB1.o.size (bl_a (w := w1) o).size)
  go_wp2_with (refine appL rfl (.tmp 14) (.tmp 16) rfl w0 B (.slice a n cap) L rfl (HO1.o _) x HX.o ⟨w1.heap.size, 0, none⟩ 1 rfl HNW hle1 (hB1 _) ?_; intro g9 c9 w9 HO9 HK9)
  go_ret
  exact ⟨_, _, rfl, HO9.o, HR.o.symm, Kp.pre (bl_trans HB1.o (bl_a _)) HK9.o⟩
def foldN {α : Type} : Nat → (Nat → α → α) → α → α
 | 0, _, a => a
 | n + 1, f, a => f n (foldN n f a)
def eV : ET → List (List Int) → List (List Int)
 | .nil, l => l
 | .mk d kid, l => foldN d.n (fun i acc => eV (kid i) acc) (addV l d.v.b)
def ptV (p : PB) (l : List (List Int)) : List (List Int) := addV (addV (addV l p.s.v.b) p.p.v.b) p.o.v.b
def ac : AT → Nat
 | .nil => 0
 | .mk d kid => 3 * d.pn + esz d.e + 1 + sumN d.n (fun i => ac (kid i))
theorem foldN_congr {α : Type} {n : Nat} {f g : Nat → α → α} (h : ∀ i, i < n → ∀ a, f i a = g i a) (a : α) : foldN n f a = foldN n g a := by
 induction n with
 | zero => rfl
 | succ n ih =>
  show f n (foldN n f a) = g n (foldN n g a)
  rw [ih (fun i hi => h i (by omega)), h n (by omega)]
theorem foldN_len {n : Nat} {f : Nat → List (List Int) → List (List Int)} {c : Nat → Nat} (h : ∀ i l, i < n → (f i l).length ≤ l.length + c i) (l : List (List Int)) : (foldN n f l).length ≤ l.length + sumN n c := by
 induction n with
 | zero => exact nR
 | succ n ih =>
  have h1 := ih (fun i l hi => h i l (by omega))
  have h2 := h n (foldN n f l) (by omega)
  show (f n (foldN n f l)).length ≤ l.length + (sumN n c + c n)
  omega
theorem eV_len (e : ET) : ∀ l, (eV e l).length ≤ l.length + esz e := by
 induction e with
 | nil => exact fun l => nR
 | mk d kid ih =>
  intro l
  have h1 := addV_len l d.v.b
  have h2 := foldN_len (f := fun i acc => eV (kid i) acc) (c := fun i => esz (kid i)) (n := d.n) (fun i l _ => ih i l) (addV l d.v.b)
  show (foldN d.n (fun i acc => eV (kid i) acc) (addV l d.v.b)).length ≤ l.length + (1 + sumN d.n (fun i => esz (kid i)))
  omega
theorem ptV_len (p : PB) (l : List (List Int)) : (ptV p l).length ≤ l.length + 3 := by
 have h1 := addV_len l p.s.v.b
 have h2 := addV_len (addV l p.s.v.b) p.p.v.b
 have h3 := addV_len (addV (addV l p.s.v.b) p.p.v.b) p.o.v.b
 unfold ptV
 omega
theorem eV_same {e : ET} : ∀ {e' : ET} {l : List (List Int)}, e.same e' → eV e l = eV e' l := by
 induction e with
 | nil => exact fun h => False.elim h
 | mk d kid ih =>
  intro e' l h
  cases e' with
  | nil => exact False.elim h
  | mk d' kid' =>
  obtain ⟨_, _, h2, _, h4, h5⟩ := h
  show foldN d.n _ (addV l d.v.b) = foldN d'.n _ (addV l d'.v.b)
  rw [← h4, ← h2]
  exact foldN_congr (fun i hi a => ih i (h5 i hi)) _
theorem VL.ne {w0 w : World} {B : Nat} {v : Value} {L : List SL} (h : VL w0 w B v L) : v.ownBlock ≠ some w.heap.size := fun e => by have := (h.lo _ e).2; omega
theorem Kp.ne {v v' : Value} {w W wr : World} {o : Obj} (h : Kp v W v' wr) (hW : W = w.alloc o) (hv : v.ownBlock ≠ some w.heap.size) : v'.ownBlock ≠ some w.heap.size := fun e => by
 rcases h.blk _ e with e' | e'
 · exact hv e'
 rw [hW] at e'
 have : (w.alloc o).heap.size = w.heap.size + 1 := by simp
 omega
theorem l4exprVars_any (e : ET) : ∀ (v : Value) (L : List SL) (B : Nat) (w0 w : World), e.lies 0 w0 → VL w0 w B v L → Bl w0 w → L.length + esz e ≤ 1000000 → B ≤ w.heap.size → w0.heap.size ≤ B →
 Calls Tryz.prog 52 #[v, .agg e.d.ar] w (AddAns w0 B v (eV e (L.map SL.b)) w) := by
 try unfold EN.ar
 induction e with
 | nil => exact fun _ _ _ _ _ h => False.elim h
 | mk d kid ih =>
  intro v L B w0 w hl hV hw hn hB hwB
  show Calls Tryz.prog 52 #[v, .agg d.ar] w (AddAns w0 B v (foldN d.n (fun i acc => eV (kid i) acc) (addV (L.map SL.b) d.v.b)) w)
  obtain ⟨hv, _, _, hn20, hR, hk⟩ := hl
  have hsum : esz (.mk d kid) = 1 + sumN d.n (fun i => esz (kid i)) := rfl
  obtain ⟨W, hW⟩ : ∃ W, W = w.alloc (.cells d.ar 100) := ⟨_, rfl⟩
  have hbW : Bl w W := by rw [hW]; exact bl_a _
  have HX0 : Hd (Box W w.heap.size d.cl) := (show Box _ _ _ by rw [hW]; exact Box.new w _ 100 _)
  have HNV := iH hV.ne
  have HLV := iH (fun g (hg : v.ownBlock = some g) => (hV.lo g hg).1)
  have AD := l4add_any v L d.v B w0 W (hV.below hbW) (hw.trans (hbW.mono hw.size)) hv (by omega) (Nat.le_trans hB hbW.size)
  have HBW : Hd (Bl w W ∧ B ≤ W.heap.size ∧ Bl w0 W) := ⟨hbW, Nat.le_trans hB hbW.size, hw.trans (hbW.mono hw.size)⟩
  have HWE := iH hW
  have HKR := iH hR
  have HIH := iH (fun i (hi : i < d.n) (v' : Value) (L' : List SL) (W' : World) (h1 : VL w0 W' B v' L') (h2 : Bl w0 W') (h3 : L'.length + esz (kid i) ≤ 1000000) (h4 : B ≤ W'.heap.size) => ih i v' L' B w0 W' (hk i hi) h1 h2 h3 h4 hwB)
  have HLEN : Hd (∀ k, k < d.n → (foldN k (fun i acc => eV (kid i) acc) (addV (L.map SL.b) d.v.b)).length + esz (kid k) ≤ 1000000) := fun k hk => by
   have h1 := foldN_len (f := fun i acc => eV (kid i) acc) (c := fun i => esz (kid i)) (n := k) (fun i l _ => eV_len (kid i) l) (addV (L.map SL.b) d.v.b)
   have h2 := addV_len (L.map SL.b) d.v.b
   rw [List.length_map] at h2
   have h3 := sumN_mono (f := fun i => esz (kid i)) (show k + 1 ≤ d.n by omega)
   have h4 : sumN (k + 1) (fun i => esz (kid i)) = sumN k (fun i => esz (kid i)) + esz (kid k) := rfl
   omega
  clear hR hk ih hv hV hw hn hB hbW hsum
  go_in
  go_upto_region 1 with fail
  rw [← hW]
  clear hW
  have c2 := HX0.o.2 2 _ rfl
  go_wp2_with fail
  refine AD.mono ?_
  rintro e w1 ⟨v1, L1, rfl, hV1, hR1, hK1⟩
  have HV1 := iH hV1
  have HR1 : Hd (L1.map SL.b = foldN 0 (fun i acc => eV (kid i) acc) (addV (L.map SL.b) d.v.b)) := hR1
  have HK1 := iH hK1
  clear AD hV1 hR1 hK1 c2
  go_wp2_with fail
  go_loopw [0, 5] (fun lv i wr => ∃ (k : Nat) (v' : Value) (L' : List SL), k ≤ d.n ∧ v' = lv ∧ i = .int .i64 k ∧ Hd (VL w0 wr B v' L') ∧ Hd (L'.map SL.b = foldN k (fun i acc => eV (kid i) acc) (addV (L.map SL.b) d.v.b)) ∧ Hd (Kp v W v' wr)) (fun _ i _ => d.n - (intOf i).toNat)
  case atStart => exact ⟨0, v1, L1, nZ, rfl, rfl, HV1, HR1, HK1⟩
  clear HV1 HR1 HK1
  obtain ⟨k, v', L', hk, rfl, rfl, HVr, HRr, HKr⟩ := hrel
  have x7 := (HKr.o.box HX0.o HNV.o).2 7 _ rfl
  by_cases hlk : k < d.n
  · have hlkz : (k : Int) < (d.n : Int) := by omega
    obtain ⟨b, off, eK, _, hbk, hck⟩ := HKR.o.resolve_left (by omega)
    have hbr := HBW.o.2.2.trans ((HKr.o.low HLV.o HBW.o.2.1).mono hwB)
    have hcx : wr.rangeAt b (off + k * 8) (kid k).d.cl := fun c u hu => (hbr.cell (p := ⟨b, off + k * 8 + c, none⟩) hbk).trans (hck k hlk c u hu)
    have hll : L'.length = (foldN k (fun i acc => eV (kid i) acc) (addV (L.map SL.b) d.v.b)).length := by rw [← HRr.o, List.length_map]
    have Z := HIH.o k hlk v' L' wr HVr.o hbr (by rw [hll]; exact HLEN.o k hlk) (Nat.le_trans HBW.o.2.1 HKr.o.size)
    rw [HRr.o] at Z
    have HS : Hd (foldN (k + 1) (fun i acc => eV (kid i) acc) (addV (L.map SL.b) d.v.b) = eV (kid k) (foldN k (fun i acc => eV (kid i) acc) (addV (L.map SL.b) d.v.b))) := rfl
    rw [eK] at x7
    clear eK hck hbr hll
    go_wp2_with (refine wpList_load_mid rfl 100 _ rfl b (off + k * 8) rfl (kid k).d.cl _ hcx Tryz.underlying100 rfl (by kernel_rfl) ?_; try simp only [Act.put, sA, zA, cA])
    refine Z.mono ?_
    rintro e w5 ⟨v5, L5, rfl, hV5, hR5, hK5⟩
    have HN1 := iH hV5
    have HN2 : Hd (L5.map SL.b = foldN (k + 1) (fun i acc => eV (kid i) acc) (addV (L.map SL.b) d.v.b)) := (show _ = _ by rw [HS.o]; exact hR5)
    have HN3 := iH (HKr.o.trans hK5)
    clear Z hcx hV5 hR5 hK5 x7 HVr HRr HKr
    go_wp2_with fail
    go_roundw
    case rel => exact ⟨k + 1, v5, L5, by omega, rfl, by go_num, HN1, HN2, HN3⟩
    case measure => simp [intOf]; omega
  obtain rfl : k = d.n := by omega
  have hlkz : ¬ (d.n : Int) < (d.n : Int) := by omega
  go_wp2_with fail
  go_ret
  exact ⟨_, L', rfl, HVr.o, HRr.o, Kp.pre HBW.o.1 HKr.o⟩
end Go.Proofs.YthljoojcpbignaaGreatDoor
