import Derived.Test.YthljoojcpbignaaGreatDoorMk46
import Derived.Test.YthljoojcpbignaaGreatDoorMk41
import Derived.Test.YthljoojcpbignaaGreatDoorMk35
namespace Go.Proofs.YthljoojcpbignaaGreatDoor
open Go.RowKit Go.Deep
set_option maxHeartbeats 40000000
set_option maxRecDepth 100000
def OrdA (body : List (List Int)) (x : QY) : Prop := x.on ≤ 4 ∧ ∀ i, i < x.on → (x.key i).v.b ∈ (if x.sn = 0 then body else outs x x.sn)
theorem orderOk_any (x : QY) (vb : Value) (Lb : List SL) (body : List (List Int)) (B : Nat) (w0 w : World) (hx : x.lies 0 w0) (hV : VL w0 w B vb Lb) (hw : Bl w0 w) (hbd : Lb.map SL.b = body) (hl : Lb.length ≤ 1048576) (hN : ∀ v ∈ body, nameOk v = true) (hS : SelsA body x) :
 Calls Tryz.prog 75 #[.agg x.ar, vb] w (Tells (OrdA body x) w) := by
 try unfold QY.ar
 have HCT := iH (fun W v L B' g (hVl : VL w0 W B' v L) (hc : W.cell? _ = some v) (hg : g < W.heap.size) (hb : Bl w0 W) (hll : L.length ≤ 1048576) => containsKey_any x.oa x.on x.oc x.key _ g W hx.o.2.2 (hx.o.1.upper (uB hb)) fun i hi W' hb' => keyC_any (x.key i) v L B' g w0 W' (hx.o.2.1 i hi) (hVl.below hb') ((hb'.cell (p := ⟨g, 0, none⟩) hg).trans hc) (Nat.lt_of_lt_of_le hg hb'.size) (hb.trans (hb'.mono hb.size)) hll)
 have HR := iH hx.s.1
 have HVX := iH (fun i (hi : i < x.sn) => (hx.s.2.1 i hi).2)
 have HNM := iH hN
 have HS := iH hS
 have h8 := hS.1
 have HBD := iH hbd
 have HX := iH (Box.new w x.ar 34 (0, 0))
 have HB : Hd (Bl w (w.alloc (.cells x.ar 34))) := bl_a _
 have HV1 : Hd (VL w0 (w.alloc (.cells x.ar 34)) B vb Lb) := hV.below (bl_a _)
 have HW0 : Hd (Bl w0 (w.alloc (.cells x.ar 34))) := hw.trans ((bl_a _).mono hw.size)
 obtain ⟨P, hP⟩ : ∃ P : Prop, P = OrdA body x := ⟨_, rfl⟩
 have HPE := iH (show (P ↔ _) by rw [hP])
 rw [← hP]
 obtain ⟨va, vc, hvb, _⟩ := hV.form
 obtain ⟨vn, hvn⟩ : ∃ vn, vn = Lb.length := ⟨_, rfl⟩
 rw [← hvn] at hvb
 subst hvb
 clear hP hx hV hw hbd hN hS hvn
 go_in
 go_upto_region 1 with fail
 generalize (w.alloc (.cells x.ar 34)) = W1 at *
 by_cases hs : x.sn = 0
 · have HS0 := iH hs
   have hsz : ¬ (x.sn : Int) > 0 := by omega
   have HX2 : Hd (Box (W1.alloc (.cells #[.slice va vn vc] 55)) w.heap.size x.cl) := HX.o.below (bl_a _)
   have HB2 : Hd (Bl w (W1.alloc (.cells #[.slice va vn vc] 55))) := bl_trans HB.o (bl_a _)
   have HW2 : Hd (Bl w0 (W1.alloc (.cells #[.slice va vn vc] 55))) := HW0.o.trans ((bl_a _).mono HW0.o.size)
   have HV2 : Hd (VL w0 (W1.alloc (.cells #[.slice va vn vc] 55)) B (.slice va vn vc) Lb) := HV1.o.below (bl_a _)
   have HC2 : Hd ((W1.alloc (.cells #[.slice va vn vc] 55)).cell? ⟨W1.heap.size, 0, none⟩ = some (.slice va vn vc)) := (show _ = _ by simp [go_sem])
   have HL2 : Hd (W1.heap.size < (W1.alloc (.cells #[.slice va vn vc] 55)).heap.size) := (show _ < _ by simp)
   clear hs
   go_upto_region 2 with fail
   generalize (W1.alloc (.cells #[.slice va vn vc] 55)) = W2 at *
   have y2 := HX2.o.2 2 _ rfl
   have y5 := HX2.o.2 5 _ rfl
   by_cases h4 : x.on ≤ 4
   rotate_left
   · have HNO : Hd (¬ P) := fun hh => h4 (HPE.o.1 hh).1
     have h4z : ¬ (x.on : Int) ≤ 4 := by omega
     clear h4
     go_wp2
     go_ret
     exact Tells.no HNO.o HB2.o
   have h4z : (x.on : Int) ≤ 4 := by omega
   go_wp2_with fail
   refine (HCT.o W2 _ Lb B W1.heap.size HV2.o HC2.o HL2.o HW2.o hl).mono ?_
   rintro e w3 ⟨q3, rfl, hq3, hb3⟩
   have HB3 := iH (bl_trans HB2.o hb3)
   clear hb3 y5
   cases q3 with
   | true =>
    have HNO : Hd (¬ P) := fun hh => by
     obtain ⟨i, hi, hm⟩ := hq3.1 rfl
     have h1 := (HPE.o.1 hh).2 i hi
     rw [if_pos HS0.o, ← HBD.o] at h1
     exact hm h1
    clear hq3
    go_wp2
    go_ret
    exact Tells.no HNO.o HB3.o
   | false =>
    have HY : Hd P := HPE.o.2 ⟨h4, fun i hi => Classical.byContradiction fun hc => by
     have h1 := hq3.2 ⟨i, hi, fun hm => hc (by rw [if_pos HS0.o, ← HBD.o]; exact hm)⟩
     cases h1⟩
    clear hq3
    go_wp2
    go_ret
    exact Tells.yes HY.o HB3.o
 have HSN := iH hs
 have hsz : (x.sn : Int) > 0 := by omega
 have hsd : decide (0 < x.sn) = true := decide_eq_true (by omega)
 have HX2 : Hd (Box (W1.alloc (.cells #[.slice none 0 0] 55)) w.heap.size x.cl) := HX.o.below (bl_a _)
 have HX2s : Hd (Box (W1.alloc (.cells #[.slice va vn vc] 55)) w.heap.size x.cl) := HX.o.below (bl_a _)
 have HV0 : Hd (VQ w0 (W1.alloc (.cells #[.slice none 0 0] 55)) W1.heap.size W1.heap.size (.slice none 0 0) []) := vq_nw HW0.o _
 have HB2 : Hd (Bl W1 (W1.alloc (.cells #[.slice none 0 0] 55))) := bl_a _
 have y2 := HX2s.o.2 2 _ rfl
 have y2n := HX2.o.2 2 _ rfl
 clear hs
 obtain ⟨b, off, hsa, _, hlt, hck⟩ := HR.o.resolve_left HSN.o
 have HCK := iH hck
 have HSA := iH hsa
 clear hck hsa
 go_wp2_with fail
 clear y2 y2n HX2 HX2s
 go_loopw [16] (fun i wr => ∃ (k : Nat) (v' : Value) (L' : List SL), k ≤ x.sn ∧ i = .int .i64 k ∧ Hd (L'.map SL.b = outs x k) ∧ Hd (VQ w0 wr W1.heap.size W1.heap.size v' L') ∧ Hd (Bl W1 wr) ∧ Hd (∀ j, j < k → j < x.sn)) (fun i _ => x.sn - (intOf i).toNat)
 case atStart => exact ⟨0, _, [], nZ, rfl, rfl, HV0, HB2, fun j hj => absurd hj nN⟩
 clear HV0 HB2
 obtain ⟨k, v', L', hk, rfl, HRr, HVr, HBr, _⟩ := hrel
 have HLl : Hd (L'.length ≤ 8) := (show _ ≤ _ by have h2 := congrArg List.length HRr.o; rw [List.length_map, outs_len] at h2; omega)
 by_cases hlk : k < x.sn
 rotate_left
 · obtain rfl : k = x.sn := by omega
   have hlkz : ¬ (x.sn : Int) < (x.sn : Int) := by omega
   have HXr := iH (HX.o.below HBr.o)
   have HBw := iH (bl_trans HB.o HBr.o)
   have y5 := HXr.o.2 5 _ rfl
   by_cases h4 : x.on ≤ 4
   rotate_left
   · have HNO : Hd (¬ P) := fun hh => h4 (HPE.o.1 hh).1
     have h4z : ¬ (x.on : Int) ≤ 4 := by omega
     clear h4
     go_wp2
     go_ret
     exact Tells.no HNO.o HBw.o
   have h4z : (x.on : Int) ≤ 4 := by omega
   go_wp2_with fail
   refine (HCT.o wr v' L' W1.heap.size W1.heap.size HVr.o.vl HVr.o.cell HVr.o.lt HVr.o.bl (by have := HLl.o; omega)).mono ?_
   rintro e w3 ⟨q3, rfl, hq3, hb3⟩
   have HB3 := iH (bl_trans HBw.o hb3)
   clear hb3 y5
   cases q3 with
   | true =>
    have HNO : Hd (¬ P) := fun hh => by
     obtain ⟨i, hi, hm⟩ := hq3.1 rfl
     have h1 := (HPE.o.1 hh).2 i hi
     rw [if_neg HSN.o, ← HRr.o] at h1
     exact hm h1
    clear hq3
    go_wp2
    go_ret
    exact Tells.no HNO.o HB3.o
   | false =>
    have HY : Hd P := HPE.o.2 ⟨h4, fun i hi => Classical.byContradiction fun hc => by
     have h1 := hq3.2 ⟨i, hi, fun hm => hc (by rw [if_neg HSN.o, ← HRr.o]; exact hm)⟩
     cases h1⟩
    clear hq3
    go_wp2
    go_ret
    exact Tells.yes HY.o HB3.o
 have hlkz : (k : Int) < (x.sn : Int) := by omega
 have hcx : wr.rangeAt b (off + k * 3) (x.sel k).cl := fun c u hu => (HVr.o.bl.cell (p := ⟨b, off + k * 3 + c, none⟩) hlt).trans (HCK.o k hlk c u hu)
 have hth := (OB.new wr #[.int .i64 0, .slice none 0 0, .slice none 0 0] 105).there 0 3 (by simp)
 have one1 : ((x.sel k).ar : Array Value).all (·.oneCell') = true := SE.one (x.sel k)
 have HBk : Hd (Bl wr ((wr.alloc (.cells #[.int .i64 0, .slice none 0 0, .slice none 0 0] 105)).setCells wr.heap.size 0 (x.sel k).cl)) := below_sets _ nR _ _ _ (bl_a _)
 have HQ0 : Hd (QS w0 wr W1.heap.size W1.heap.size v' v' L' (x.sel k).cells ((wr.alloc (.cells #[.int .i64 0, .slice none 0 0, .slice none 0 0] 105)).setCells wr.heap.size 0 (x.sel k).cl)) := ⟨HVr.o.below HBk.o, KQ.of_below HBk.o, ((OB.new wr #[.int .i64 0, .slice none 0 0, .slice none 0 0] 105).put (x.sel k).cl 0 (x.sel k).cl (show 0 + 3 ≤ 3 by omega) rfl).box, fun e => by have := (HVr.o.vl.lo _ e).2; omega, HVr.o.lt⟩
 have hsa := HSA.o
 rw [hsa] at *
 clear hsa
 go_wp2_with (first | (with_reducible refine wpq_at ?_; refine wpList_load_mid rfl 105 _ rfl b (off + k * 3) rfl (x.sel k).cl _ hcx Tryz.underlying105 rfl (by kernel_rfl) ?_; try simp only [Act.put, sA, zA, cA]) | (with_reducible refine wpq_at ?_; refine store_stop 105 (.tmp 7) (.tmp 19) rfl ?_))
 change wpList _ _ _ _ _ _
 refine wpList_store_mid rfl 105 _ _ rfl wr.heap.size 0 (x.sel k).ar rfl rfl hth (by kernel_rfl) one1 ?_
 try simp only [Act.put]
 generalize ((wr.alloc (.cells #[.int .i64 0, .slice none 0 0, .slice none 0 0] 105)).setCells wr.heap.size 0 (x.sel k).cl) = W5 at *
 clear hcx hth one1 HBk
 have z2 := HQ0.o.bx.2 2 _ rfl
 go_wp2_with fail
 refine (add_any v' L' (x.sel k).v W1.heap.size W1.heap.size w0 _ HQ0.o.vq (HVX.o k hlk) (by have := HLl.o; omega)).mono ?_
 rintro e z5 ⟨v5, L5, rfl, hV5, hR5, hK5⟩
 have HQ5 := iH (HQ0.o.step hV5 hK5)
 have HR5 : Hd (L5.map SL.b = outs x (k + 1)) := (show _ = outs x k ++ [sV x k] by
  rw [hR5, HRr.o]
  exact if_neg (fun h => by
   rcases h with h | h
   · exact (HS.o.2 k hlk).2.pos HNM.o h
   exact (HS.o.2 k hlk).1 h))
 have HV5 := iH hV5
 have HB5 := iH (HBr.o.trans (HQ5.o.kq.low (fun c hc => (HVr.o.vl.lo c hc).1) nR HBr.o.size))
 clear hV5 hR5 hK5 z2 HQ5 HQ0 HVr HBr
 go_wp2
 go_roundw
 case rel => exact ⟨k + 1, v5, L5, by omega, by go_num, HR5, HV5, HB5, fun j hj => (show j < x.sn by omega)⟩
 case measure => simp [intOf]; omega
def SelA (body : List (List Int)) (x : QY) : Prop := SelsA body x ∧ GrpA body x ∧ OrdA body x ∧ (-1 ≤ x.lim ∧ x.lim ≤ 999) ∧ (0 ≤ x.off ∧ x.off ≤ 999)
theorem within_tells (n a b : Int) (w : World) : Calls Tryz.prog 76 #[.int .i64 n, .int .i64 a, .int .i64 b] w (Tells (a ≤ n ∧ n ≤ b) w) := by
 refine (within_any n a b w).mono ?_
 rintro e w' ⟨rfl, rfl⟩
 exact ⟨_, rfl, by simp, Below.refl _ _⟩
theorem selectOk_any (x : QY) (vb : Value) (Lb : List SL) (body : List (List Int)) (B : Nat) (w0 w : World) (hx : x.lies 0 w0) (hV : VL w0 w B vb Lb) (hw : Bl w0 w) (hbd : Lb.map SL.b = body) (hl : Lb.length ≤ 1048576) (hN : ∀ v ∈ body, nameOk v = true) :
 Calls Tryz.prog 45 #[.agg x.ar, vb] w (Tells (SelA body x) w) := by
 try unfold QY.ar
 have HC1 := iH (fun W (hb : Bl w W) => selsOk_any x vb Lb body B w0 W hx (hV.below hb) (hw.trans (hb.mono hw.size)) hbd hl hN)
 have HC2 := iH (fun W (hb : Bl w W) => qGroupOk_any x vb Lb body B w0 W hx (hV.below hb) (hw.trans (hb.mono hw.size)) hbd hl hN)
 have HC3 := iH (fun W (hb : Bl w W) (hS : SelsA body x) => orderOk_any x vb Lb body B w0 W hx (hV.below hb) (hw.trans (hb.mono hw.size)) hbd hl hN hS)
 have HWT := iH (fun n a b W => within_tells n a b W)
 have HX0 := iH (Box.new w x.ar 34 (0, 0))
 have HB0 : Hd (Bl w (w.alloc (.cells x.ar 34))) := bl_a _
 obtain ⟨P, hP⟩ : ∃ P : Prop, P = SelA body x := ⟨_, rfl⟩
 have HP := iH (show (P ↔ _) by rw [hP])
 rw [← hP]
 clear hP hx hV hw hbd hN hl
 go_in
 go_upto_region 1 with fail
 generalize (w.alloc (.cells x.ar 34)) = W1 at *
 have ld := HX0.o.range 0 x.cl rfl
 go_wp2_with (with_reducible refine wpq_at ?_; refine ldr rfl rfl rfl Tryz.underlying34 ld rfl ?_; try simp only [Act.put, sA, zA, cA])
 clear ld
 refine (HC1.o _ HB0.o).mono ?_
 rintro e w1 ⟨q1, rfl, hq1, hb1⟩
 have HX1 := iH (HX0.o.below hb1)
 have HB1 := iH (bl_trans HB0.o hb1)
 clear hb1 HX0 HB0
 cases q1
 · have HNO : Hd (¬ P) := fun hh => by have h := hq1.2 (HP.o.1 hh).1; cases h
   clear hq1
   go_wp2
   go_ret
   exact Tells.no HNO.o HB1.o
 have H1 := iH (hq1.1 rfl)
 clear hq1
 have lr : w1.rangeAt w.heap.size 0 x.cl := HX1.o.range 0 _ rfl
 go_wp2_with (with_reducible refine wpq_at ?_; refine wpq_stop 34 _ rfl ?_)
 change wpList _ _ _ _ _ _
 refine wpq_load ?hw 34 _ rfl w.heap.size 0 rfl x.cl _ lr Tryz.underlying34 rfl (by kernel_rfl) ?_
 case hw => rfl
 simp only [Act.put, sA, zA, cA]
 go_wp2_with fail
 refine (HC2.o _ HB1.o).mono ?_
 rintro e w2 ⟨q2, rfl, hq2, hb2⟩
 have HX2 := iH (HX1.o.below hb2)
 have HB2 := iH (bl_trans HB1.o hb2)
 clear hb2 HX1 HB1
 cases q2
 · have HNO : Hd (¬ P) := fun hh => by have h := hq2.2 (HP.o.1 hh).2.1; cases h
   clear hq2
   go_wp2
   go_ret
   exact Tells.no HNO.o HB2.o
 have H2 := iH (hq2.1 rfl)
 clear hq2
 clear lr
 have lr : w2.rangeAt w.heap.size 0 x.cl := HX2.o.range 0 _ rfl
 go_wp2_with (with_reducible refine wpq_at ?_; refine wpq_stop 34 _ rfl ?_)
 change wpList _ _ _ _ _ _
 refine wpq_load ?hw 34 _ rfl w.heap.size 0 rfl x.cl _ lr Tryz.underlying34 rfl (by kernel_rfl) ?_
 case hw => rfl
 simp only [Act.put, sA, zA, cA]
 go_wp2_with fail
 refine (HC3.o _ HB2.o H1.o).mono ?_
 rintro e w3 ⟨q3, rfl, hq3, hb3⟩
 have HX3 := iH (HX2.o.below hb3)
 have HB3 := iH (bl_trans HB2.o hb3)
 clear hb3 HX2 HB2
 cases q3
 · have HNO : Hd (¬ P) := fun hh => by have h := hq3.2 (HP.o.1 hh).2.2.1; cases h
   clear hq3
   go_wp2
   go_ret
   exact Tells.no HNO.o HB3.o
 have H3 := iH (hq3.1 rfl)
 clear hq3
 clear lr
 have y6 := HX3.o.2 6 _ rfl
 go_wp2_with fail
 refine (HWT.o x.lim (-1) 999 _).mono ?_
 rintro e w4 ⟨q4, rfl, hq4, hb4⟩
 have HX4 := iH (HX3.o.below hb4)
 have HB4 := iH (bl_trans HB3.o hb4)
 clear hb4 HX3 HB3
 cases q4
 · have HNO : Hd (¬ P) := fun hh => by have h := hq4.2 (HP.o.1 hh).2.2.2.1; cases h
   clear hq4
   go_wp2
   go_ret
   exact Tells.no HNO.o HB4.o
 have H4 := iH (hq4.1 rfl)
 clear hq4
 clear y6
 have y7 := HX4.o.2 7 _ rfl
 go_wp2_with fail
 refine (HWT.o x.off 0 999 _).mono ?_
 rintro e w5 ⟨q5, rfl, hq5, hb5⟩
 have HX5 := iH (HX4.o.below hb5)
 have HB5 := iH (bl_trans HB4.o hb5)
 clear hb5 HX4 HB4
 cases q5
 · have HNO : Hd (¬ P) := fun hh => by have h := hq5.2 (HP.o.1 hh).2.2.2.2; cases h
   clear hq5
   go_wp2
   go_ret
   exact Tells.no HNO.o HB5.o
 have H5 := iH (hq5.1 rfl)
 clear hq5
 go_wp2
 go_ret
 exact Tells.yes (HP.o.2 ⟨H1.o, H2.o, H3.o, H4.o, H5.o⟩) HB5.o
theorem wpq_stopd {P : Program} {ops : Array Oper} {rest : List Oper} {op : Oper} {a : Act} {w : World} {Q : Exit → Act → World → Prop} (ty : TypeId) (x : Operand) (d : Nat) (_ : op.op = .load ty x) (_ : op.dst = some d) (h : Hd (wpList P ops Q (op :: rest) a w)) : wpList P ops Q (op :: rest) a w := h
theorem sumN_mul {n m : Nat} {f g : Nat → Nat} (h : ∀ i, i < n → f i ≤ m * g i) : sumN n f ≤ m * sumN n g := by
 induction n with
 | zero => exact nZ
 | succ n ih =>
  have h1 := ih (fun i hi => h i (by omega))
  have h2 := h n (by omega)
  show sumN n f + f n ≤ m * (sumN n g + g n)
  rw [Nat.mul_add]
  omega
theorem qOk_iff (x : QY) : qOk x ↔ bodyOk x ∧ (gV x.bn x.body []).length ≤ 8 ∧ gBd x.bn x.body ∧ (x.ask = true → BareQ x) ∧ (x.ask = false → SelA (gV x.bn x.body []) x) := by
 constructor
 · intro h
   exact ⟨h.b, h.v, h.d, h.a, fun ha => ⟨⟨h.n.1, (h.s ha).s⟩, ⟨h.n.2.1, (h.s ha).g, (h.s ha).p⟩, ⟨h.n.2.2.1, (h.s ha).o⟩, h.n.2.2.2.1, h.n.2.2.2.2⟩⟩
 rintro ⟨hb, hv, hd, ha, hs⟩
 refine ⟨hb, hd, hv, ?_, ha, fun h => ⟨(hs h).1.2, (hs h).2.1.2.1, (hs h).2.1.2.2, (hs h).2.2.1.2⟩⟩
 cases hh : x.ask with
 | true =>
  obtain ⟨_, h1, h2, h3, h4, h5⟩ := ha hh
  omega
 | false =>
  obtain ⟨h1, h2, h3, h4, h5⟩ := hs hh
  exact ⟨h1.1, h2.1, h3.1, h4, h5⟩
theorem outs_mem {x : QY} {k : Nat} {v : List Int} (h : v ∈ outs x k) : ∃ i, i < k ∧ v = sV x i := by
 induction k with
 | zero => cases h
 | succ k ih =>
  rcases List.mem_append.1 h with h | h
  · obtain ⟨i, hi, e⟩ := ih h
    exact ⟨i, by omega, e⟩
  exact ⟨k, by omega, List.mem_singleton.1 h⟩
theorem qOk.say {x : QY} (h : qOk x) : SayQ x ∧ (∀ i, i < x.sn → (x.sel i).fn = 0 ∨ (x.sel i).fn = 1 ∨ (x.sel i).fn = 2) ∧ (x.ask = true → tailTx x = []) := by
 have hN := gV_name h.b.1
 have ht : x.ask = true → tailTx x = [] := fun ha => by
  obtain ⟨_, _, h2, h3, h4, h5⟩ := h.a ha
  unfold tailTx grpTx ordTx limTx offTx
  rw [h2, h3, h4, h5]
  rfl
 cases hh : x.ask with
 | true =>
  obtain ⟨_, h1, h2, h3, h4, h5⟩ := h.a hh
  refine ⟨⟨h.b, ⟨by omega, fun i hi => by omega⟩, ⟨by omega, fun i hi => by omega⟩, ⟨by omega, fun i hi => by omega⟩, by omega, by omega⟩, fun i hi => by omega, fun _ => ht hh⟩
 | false =>
  have hs := h.s hh
  have hv : ∀ i, i < x.sn → nameOk (x.sel i).v.b = true ∧ ((x.sel i).fn ≠ 0 → nameOk (x.sel i).of.b = true) := fun i hi => by
   rcases (hs.s i hi).2 with ⟨h0, _, hm⟩ | ⟨_, hm, hn, _⟩
   · exact ⟨hN _ hm, fun e => absurd h0 e⟩
   exact ⟨hn, fun _ => hN _ hm⟩
  refine ⟨⟨h.b, ⟨h.n.1, hv⟩, ⟨h.n.2.1, fun i hi => hN _ (hs.g i hi).1⟩, ⟨h.n.2.2.1, fun i hi => ?_⟩, h.n.2.2.2.1, h.n.2.2.2.2⟩, fun i hi => ?_, fun e => by cases e⟩
  · have h1 := hs.o i hi
    split at h1
    · exact hN _ h1
    obtain ⟨j, hj, e⟩ := outs_mem h1
    rw [e]
    exact (hv j hj).1
  rcases (hs.s i hi).2 with ⟨h0, _⟩ | ⟨h0 | h0, _⟩
  · exact .inl h0
  · exact .inr (.inl h0)
  exact .inr (.inr h0)
def QOK (x : QY) : Prop := qOk x ∧ (qTx x).length ≤ 2000
theorem Own8.slice {w : World} {B n : Nat} {v : Value} {bs : List Int} (h : Own8 w B v n bs) : ∃ a cap, v = .slice a n cap := by
 rcases h.1.2 with ⟨hv, hn⟩ | ⟨g, cap, cur, hv, _⟩
 · exact ⟨none, 0, by rw [hv, hn]⟩
 exact ⟨_, cap, hv⟩
theorem queryOk_ask (x : QY) (w : World) (hx : x.lies 0 w) (ht : Tab w) (ha : x.ask = true) : Calls Tryz.prog 16 #[.agg #[.bool x.ask, .bool x.dis, .slice x.sa x.sn x.sc, .slice x.ba x.bn x.bc, .slice x.ga x.gn x.gc, .slice x.oa x.on x.oc, .int .i64 x.lim, .int .i64 x.off]] w (Tells (QOK x) w) := by
 have HGO := iH (fun W (hb : Bl w W) (hc : Ctr W _ 120) => groupOkP_of x.ba x.bc x.bn x.body 1 120 (w.heap.size + 1) w W hx.b.2.2 hx.b.1 hb (Nat.le_succ _) hc (by omega) (by omega) fun i hi L' W' hb' hc' h0 h1 => elemOkP_any (x.body i) 1 L' _ w W' (hx.b.2.1 i hi) hb' (Nat.le_succ _) hc' (by omega) (by omega) h0 h1)
 have HUC : Hd (bodyOk x → sumN x.bn (fun i => uc (x.body i)) ≤ 1000000 ∧ ∀ i, i < x.bn → uc (x.body i) ≤ 1000000) := fun hb => by
  have h1 := sumN_mul (n := x.bn) (m := 5) (f := fun i => uc (x.body i)) (g := fun i => usz (x.body i)) (fun i hi => uc_le (hb.1 i hi))
  have h2 := hb.2
  refine ⟨by omega, fun i hi => ?_⟩
  have h3 := sumN_mono (f := fun i => uc (x.body i)) (show i + 1 ≤ x.bn by omega)
  have h4 : sumN (i + 1) (fun i => uc (x.body i)) = sumN i (fun i => uc (x.body i)) + uc (x.body i) := rfl
  omega
 have HVO := iH (fun W (hb : Bl w W) (hB : bodyOk x) => varsOf_any x.ba x.bc x.bn x.body w W hx.b.2.2 hx.b.1 hx.b.2.1 hb (HUC.o hB).1)
 have HBA := iH (fun W (hb : Bl w W) (hB : bodyOk x) => bindsAfresh_of x.ba x.bc x.bn x.body w W hx.b.2.2 hx.b.1 hx.b.2.1 hb (HUC.o hB).1 fun i hi => bindsAfresh_any (x.body i) w (hx.b.2.1 i hi) ((HUC.o hB).2 i hi))
 have HBR : Hd (∀ W, Cl 44 #[.agg (qC2 true x)] W (Tells ((x.ask = true → BareQ x) ∧ (x.ask = false → SelA (gV x.bn x.body []) x)) W)) := fun W => by
  have h1 := isBareQ_any x W
  unfold QY.ar at h1
  rw [ha] at h1 ⊢
  refine h1.mono fun e w' h => ?_
  obtain ⟨q, h2, h3, h4⟩ := h
  exact ⟨q, h2, ⟨fun hq => ⟨fun _ => h3.1 hq, fun e => by cases e⟩, fun hh => h3.2 (hh.1 rfl)⟩, h4⟩
 have HTO : Hd (∀ W, Bl w W → qOk x → Cl 46 #[.agg (qC2 true x)] W (MadeT W (qTx x))) := fun W hb hq => by
  have h1 := textOf_any x W (hx.below hb) hq.say.1 hq.say.2.1 hq.say.2.2 (ht.below hb)
  unfold QY.ar at h1
  rw [ha] at h1
  exact h1
 have HX1 := iH (Box.new w (qC2 true x) 34 (0, 0))
 have HB1 : Hd (Bl w (w.alloc (.cells (qC2 true x) 34))) := bl_a _
 have HX2 : Hd (Box ((w.alloc (.cells (qC2 true x) 34)).alloc (.cells #[.int .i64 120] 66)) w.heap.size (qB true x)) := HX1.o.below (bl_a _)
 have HB2 : Hd (Bl w ((w.alloc (.cells (qC2 true x) 34)).alloc (.cells #[.int .i64 120] 66))) := bl_trans HB1.o (bl_a _)
 have HC2 : Hd (Ctr ((w.alloc (.cells (qC2 true x) 34)).alloc (.cells #[.int .i64 120] 66)) (w.heap.size + 1) 120) := ⟨by simp, by simp [go_sem], by simp [go_sem]⟩
 have HQI := iH (qOk_iff x)
 obtain ⟨P, hP⟩ : ∃ P : Prop, P = QOK x := ⟨_, rfl⟩
 have HP : Hd (P ↔ bodyOk x ∧ (gV x.bn x.body []).length ≤ 8 ∧ gBd x.bn x.body ∧ ((x.ask = true → BareQ x) ∧ (x.ask = false → SelA (gV x.bn x.body []) x)) ∧ (qTx x).length ≤ 2000) := (show (P ↔ _) by
  rw [hP]
  unfold QOK
  rw [qOk_iff]
  exact ⟨fun h => ⟨h.1.1, h.1.2.1, h.1.2.2.1, h.1.2.2.2, h.2⟩, fun h => ⟨⟨h.1, h.2.1, h.2.2.1, h.2.2.2.1⟩, h.2.2.2.2⟩⟩)
 rw [← hP, ha]
 clear hP hx ht HX1 HB1 HUC
 go_in
 go_upto_region 2 with fail
 generalize ((w.alloc (.cells (qC2 true x) 34)).alloc (.cells #[.int .i64 120] 66)) = W2 at *
 have y3 := HX2.o.2 3 _ rfl
 go_wp2_with fail
 refine (HGO.o _ HB2.o HC2.o).mono ?_
 rintro e w3 ⟨q3, L3, rfl, hq3, _, _, hp3⟩
 have HX3 := iH (HX2.o.past hp3 (by omega))
 have HB3 := iH (HB2.o.trans (hp3.below (Nat.le_succ _) HB2.o.size))
 clear hp3 HX2 HB2 HC2 y3 HGO
 cases q3
 · have HNO : Hd (¬ P) := fun hh => by
    have hB := (HP.o.1 hh).1
    have h := hq3.2 ⟨hB.1, by have := hB.2; omega⟩
    cases h
   clear hq3
   go_wp2
   go_ret
   exact Tells.no HNO.o HB3.o
 have HB : Hd (bodyOk x) := (show _ ∧ _ by have h := hq3.1 rfl; exact ⟨h.1, by have := h.2; omega⟩)
 have y3 := HX3.o.2 3 _ rfl
 clear hq3
 go_wp2_with fail
 refine (HVO.o _ HB3.o HB.o).mono ?_
 rintro e w4 ⟨v4, L4, rfl, hV4, hR4, hb4⟩
 have HX4 := iH (HX3.o.below hb4)
 have HB4 := iH (bl_trans HB3.o hb4)
 have HR4 := iH hR4
 obtain ⟨va4, vc4, hva4, _⟩ := hV4.form
 subst hva4
 have HV4 := iH hV4
 clear hV4 hR4 hb4 HX3 HB3 y3
 by_cases h8 : L4.length ≤ 8
 rotate_left
 · have HNO : Hd (¬ P) := fun hh => h8 (by have h := (HP.o.1 hh).2.1; rw [← HR4.o, List.length_map] at h; exact h)
   obtain ⟨nv, hnv⟩ : ∃ nv, nv = L4.length := ⟨_, rfl⟩
   rw [← hnv] at h8 ⊢
   have hz : (nv : Int) > 8 := by omega
   clear hnv h8
   go_wp2
   go_ret
   exact Tells.no HNO.o HB4.o
 have HL8 : Hd ((gV x.bn x.body []).length ≤ 8) := (show _ ≤ _ by rw [← HR4.o, List.length_map]; exact h8)
 obtain ⟨nv, hnv⟩ : ∃ nv, nv = L4.length := ⟨_, rfl⟩
 rw [← hnv] at h8 HV4 ⊢
 have hz : ¬ (nv : Int) > 8 := by omega
 have HNV := iH hnv.symm
 have y3 := HX4.o.2 3 _ rfl
 clear h8 hnv
 go_wp2_with fail
 refine (HBA.o _ HB4.o HB.o).mono ?_
 rintro e w5 ⟨q5, rfl, hq5, hb5⟩
 have HX5 := iH (HX4.o.below hb5)
 have HB5 := iH (bl_trans HB4.o hb5)
 have HV5 := iH (HV4.o.below hb5)
 clear hb5 HX4 HB4 y3 HV4
 cases q5
 · have HNO : Hd (¬ P) := fun hh => by have h := hq5.2 ((gBda_iff HB.o.1).2 (HP.o.1 hh).2.2.1); cases h
   clear hq5
   go_wp2
   go_ret
   exact Tells.no HNO.o HB5.o
 have HGB := iH ((gBda_iff HB.o.1).1 (hq5.1 rfl))
 clear hq5
 have y0 := HX5.o.2 0 _ rfl
 have lr := HX5.o.range 0 (qB true x) rfl
 go_wp2_with (with_reducible refine wpq_at ?_; refine wpq_stopd 34 _ 26 rfl rfl ?_)
 change wpList _ _ _ _ _ _
 refine wpq_load ?hw 34 _ rfl w.heap.size 0 rfl (qB true x) _ lr Tryz.underlying34 rfl (by kernel_rfl) ?_
 case hw => rfl
 simp only [Act.put, sA, zA, cA]
 go_wp2_with fail
 refine (HBR.o _).mono ?_
 rintro e w6 ⟨q6, rfl, hq6, hb6⟩
 have HX6 := iH (HX5.o.below hb6)
 have HB6 := iH (bl_trans HB5.o hb6)
 clear hb6 HX5 HB5 lr y0
 cases q6
 · have HNO : Hd (¬ P) := fun hh => by have h := hq6.2 ((HP.o.1 hh).2.2.2.1); cases h
   have y0 := HX6.o.2 0 _ rfl
   clear hq6
   go_wp2
   go_ret
   exact Tells.no HNO.o HB6.o
 have HOK := iH (HQI.o.2 ⟨HB.o, HL8.o, HGB.o, hq6.1 rfl⟩)
 have y0 := HX6.o.2 0 _ rfl
 have ld := HX6.o.range 0 (qB true x) rfl
 clear hq6
 go_wp2_with (with_reducible refine wpq_at ?_; refine ldr rfl rfl rfl Tryz.underlying34 ld rfl ?_; try simp only [Act.put, sA, zA, cA])
 clear ld y0
 refine (HTO.o _ HB6.o HOK.o).mono ?_
 rintro e w7 ⟨v7, rfl, hO7, hb7⟩
 have HB7 := iH (bl_trans HB6.o hb7)
 obtain ⟨a7, c7, e7⟩ := hO7.slice
 subst e7
 have HPT : Hd (P ↔ (qTx x).length ≤ 2000) := ⟨fun h => (HP.o.1 h).2.2.2.2, fun h => HP.o.2 ⟨HB.o, HL8.o, HGB.o, (HQI.o.1 HOK.o).2.2.2, h⟩⟩
 clear hO7 hb7
 generalize (qTx x).length = n at *
 by_cases h2 : n ≤ 2000
 · have HY := iH (HPT.o.2 h2)
   have hz : (n : Int) ≤ 2000 := by omega
   clear h2
   go_wp2
   go_ret
   exact Tells.yes HY.o HB7.o
 have HNO : Hd (¬ P) := fun h => h2 (HPT.o.1 h)
 have hz : decide ((n : Int) ≤ 2000) = false := decide_eq_false (by omega)
 clear h2
 go_wp2
 go_ret
 exact Tells.no HNO.o HB7.o
theorem queryOk_sel (x : QY) (w : World) (hx : x.lies 0 w) (ht : Tab w) (ha : x.ask = false) : Calls Tryz.prog 16 #[.agg #[.bool x.ask, .bool x.dis, .slice x.sa x.sn x.sc, .slice x.ba x.bn x.bc, .slice x.ga x.gn x.gc, .slice x.oa x.on x.oc, .int .i64 x.lim, .int .i64 x.off]] w (Tells (QOK x) w) := by
 have HGO := iH (fun W (hb : Bl w W) (hc : Ctr W _ 120) => groupOkP_of x.ba x.bc x.bn x.body 1 120 (w.heap.size + 1) w W hx.b.2.2 hx.b.1 hb (Nat.le_succ _) hc (by omega) (by omega) fun i hi L' W' hb' hc' h0 h1 => elemOkP_any (x.body i) 1 L' _ w W' (hx.b.2.1 i hi) hb' (Nat.le_succ _) hc' (by omega) (by omega) h0 h1)
 have HUC : Hd (bodyOk x → sumN x.bn (fun i => uc (x.body i)) ≤ 1000000 ∧ ∀ i, i < x.bn → uc (x.body i) ≤ 1000000) := fun hb => by
  have h1 := sumN_mul (n := x.bn) (m := 5) (f := fun i => uc (x.body i)) (g := fun i => usz (x.body i)) (fun i hi => uc_le (hb.1 i hi))
  have h2 := hb.2
  refine ⟨by omega, fun i hi => ?_⟩
  have h3 := sumN_mono (f := fun i => uc (x.body i)) (show i + 1 ≤ x.bn by omega)
  have h4 : sumN (i + 1) (fun i => uc (x.body i)) = sumN i (fun i => uc (x.body i)) + uc (x.body i) := rfl
  omega
 have HVO := iH (fun W (hb : Bl w W) (hB : bodyOk x) => varsOf_any x.ba x.bc x.bn x.body w W hx.b.2.2 hx.b.1 hx.b.2.1 hb (HUC.o hB).1)
 have HBA := iH (fun W (hb : Bl w W) (hB : bodyOk x) => bindsAfresh_of x.ba x.bc x.bn x.body w W hx.b.2.2 hx.b.1 hx.b.2.1 hb (HUC.o hB).1 fun i hi => bindsAfresh_any (x.body i) w (hx.b.2.1 i hi) ((HUC.o hB).2 i hi))
 have HSO : Hd (∀ W B va L, L.map SL.b = gV x.bn x.body [] → L.length ≤ 8 → bodyOk x → VL w W B va L → Bl w W → Cl 45 #[.agg (qC2 false x), va] W (Tells ((x.ask = true → BareQ x) ∧ (x.ask = false → SelA (gV x.bn x.body []) x)) W)) := fun W B va L hR hl hB hV hb => by
  have h1 := selectOk_any x va L (gV x.bn x.body []) B w W hx hV hb hR (by omega) (gV_name hB.1)
  unfold QY.ar at h1
  rw [ha] at h1 ⊢
  refine h1.mono fun e w' h => ?_
  obtain ⟨q, h2, h3, h4⟩ := h
  exact ⟨q, h2, ⟨fun hq => ⟨fun e => (by cases e), fun _ => h3.1 hq⟩, fun hh => h3.2 (hh.2 rfl)⟩, h4⟩
 have HTO : Hd (∀ W, Bl w W → qOk x → Cl 46 #[.agg (qC2 false x)] W (MadeT W (qTx x))) := fun W hb hq => by
  have h1 := textOf_any x W (hx.below hb) hq.say.1 hq.say.2.1 hq.say.2.2 (ht.below hb)
  unfold QY.ar at h1
  rw [ha] at h1
  exact h1
 have HX1 := iH (Box.new w (qC2 false x) 34 (0, 0))
 have HB1 : Hd (Bl w (w.alloc (.cells (qC2 false x) 34))) := bl_a _
 have HX2 : Hd (Box ((w.alloc (.cells (qC2 false x) 34)).alloc (.cells #[.int .i64 120] 66)) w.heap.size (qB false x)) := HX1.o.below (bl_a _)
 have HB2 : Hd (Bl w ((w.alloc (.cells (qC2 false x) 34)).alloc (.cells #[.int .i64 120] 66))) := bl_trans HB1.o (bl_a _)
 have HC2 : Hd (Ctr ((w.alloc (.cells (qC2 false x) 34)).alloc (.cells #[.int .i64 120] 66)) (w.heap.size + 1) 120) := ⟨by simp, by simp [go_sem], by simp [go_sem]⟩
 have HQI := iH (qOk_iff x)
 obtain ⟨P, hP⟩ : ∃ P : Prop, P = QOK x := ⟨_, rfl⟩
 have HP : Hd (P ↔ bodyOk x ∧ (gV x.bn x.body []).length ≤ 8 ∧ gBd x.bn x.body ∧ ((x.ask = true → BareQ x) ∧ (x.ask = false → SelA (gV x.bn x.body []) x)) ∧ (qTx x).length ≤ 2000) := (show (P ↔ _) by
  rw [hP]
  unfold QOK
  rw [qOk_iff]
  exact ⟨fun h => ⟨h.1.1, h.1.2.1, h.1.2.2.1, h.1.2.2.2, h.2⟩, fun h => ⟨⟨h.1, h.2.1, h.2.2.1, h.2.2.2.1⟩, h.2.2.2.2⟩⟩)
 rw [← hP, ha]
 clear hP hx ht HX1 HB1 HUC
 go_in
 go_upto_region 2 with fail
 generalize ((w.alloc (.cells (qC2 false x) 34)).alloc (.cells #[.int .i64 120] 66)) = W2 at *
 have y3 := HX2.o.2 3 _ rfl
 go_wp2_with fail
 refine (HGO.o _ HB2.o HC2.o).mono ?_
 rintro e w3 ⟨q3, L3, rfl, hq3, _, _, hp3⟩
 have HX3 := iH (HX2.o.past hp3 (by omega))
 have HB3 := iH (HB2.o.trans (hp3.below (Nat.le_succ _) HB2.o.size))
 clear hp3 HX2 HB2 HC2 y3 HGO
 cases q3
 · have HNO : Hd (¬ P) := fun hh => by
    have hB := (HP.o.1 hh).1
    have h := hq3.2 ⟨hB.1, by have := hB.2; omega⟩
    cases h
   clear hq3
   go_wp2
   go_ret
   exact Tells.no HNO.o HB3.o
 have HB : Hd (bodyOk x) := (show _ ∧ _ by have h := hq3.1 rfl; exact ⟨h.1, by have := h.2; omega⟩)
 have y3 := HX3.o.2 3 _ rfl
 clear hq3
 go_wp2_with fail
 refine (HVO.o _ HB3.o HB.o).mono ?_
 rintro e w4 ⟨v4, L4, rfl, hV4, hR4, hb4⟩
 have HX4 := iH (HX3.o.below hb4)
 have HB4 := iH (bl_trans HB3.o hb4)
 have HR4 := iH hR4
 obtain ⟨va4, vc4, hva4, _⟩ := hV4.form
 subst hva4
 have HV4 := iH hV4
 clear hV4 hR4 hb4 HX3 HB3 y3
 by_cases h8 : L4.length ≤ 8
 rotate_left
 · have HNO : Hd (¬ P) := fun hh => h8 (by have h := (HP.o.1 hh).2.1; rw [← HR4.o, List.length_map] at h; exact h)
   obtain ⟨nv, hnv⟩ : ∃ nv, nv = L4.length := ⟨_, rfl⟩
   rw [← hnv] at h8 ⊢
   have hz : (nv : Int) > 8 := by omega
   clear hnv h8
   go_wp2
   go_ret
   exact Tells.no HNO.o HB4.o
 have HL8 : Hd ((gV x.bn x.body []).length ≤ 8) := (show _ ≤ _ by rw [← HR4.o, List.length_map]; exact h8)
 obtain ⟨nv, hnv⟩ : ∃ nv, nv = L4.length := ⟨_, rfl⟩
 rw [← hnv] at h8 HV4 ⊢
 have hz : ¬ (nv : Int) > 8 := by omega
 have HNV := iH hnv.symm
 have y3 := HX4.o.2 3 _ rfl
 clear h8 hnv
 go_wp2_with fail
 refine (HBA.o _ HB4.o HB.o).mono ?_
 rintro e w5 ⟨q5, rfl, hq5, hb5⟩
 have HX5 := iH (HX4.o.below hb5)
 have HB5 := iH (bl_trans HB4.o hb5)
 have HV5 := iH (HV4.o.below hb5)
 clear hb5 HX4 HB4 y3 HV4
 cases q5
 · have HNO : Hd (¬ P) := fun hh => by have h := hq5.2 ((gBda_iff HB.o.1).2 (HP.o.1 hh).2.2.1); cases h
   clear hq5
   go_wp2
   go_ret
   exact Tells.no HNO.o HB5.o
 have HGB := iH ((gBda_iff HB.o.1).1 (hq5.1 rfl))
 clear hq5
 have y0 := HX5.o.2 0 _ rfl
 have lr := HX5.o.range 0 (qB false x) rfl
 go_wp2_with (with_reducible refine wpq_at ?_; refine wpq_stopd 34 _ 35 rfl rfl ?_)
 change wpList _ _ _ _ _ _
 refine wpq_load ?hw 34 _ rfl w.heap.size 0 rfl (qB false x) _ lr Tryz.underlying34 rfl (by kernel_rfl) ?_
 case hw => rfl
 simp only [Act.put, sA, zA, cA]
 go_wp2_with fail
 refine (HSO.o _ _ _ _ HR4.o (by have h := HL8.o; rw [← HR4.o, List.length_map] at h; exact h) HB.o HV5.o HB5.o).mono ?_
 rintro e w6 ⟨q6, rfl, hq6, hb6⟩
 have HX6 := iH (HX5.o.below hb6)
 have HB6 := iH (bl_trans HB5.o hb6)
 clear hb6 HX5 HB5 lr y0
 cases q6
 · have HNO : Hd (¬ P) := fun hh => by have h := hq6.2 ((HP.o.1 hh).2.2.2.1); cases h
   have y0 := HX6.o.2 0 _ rfl
   clear hq6
   go_wp2
   go_ret
   exact Tells.no HNO.o HB6.o
 have HOK := iH (HQI.o.2 ⟨HB.o, HL8.o, HGB.o, hq6.1 rfl⟩)
 have y0 := HX6.o.2 0 _ rfl
 have ld := HX6.o.range 0 (qB false x) rfl
 clear hq6
 go_wp2_with (with_reducible refine wpq_at ?_; refine ldr rfl rfl rfl Tryz.underlying34 ld rfl ?_; try simp only [Act.put, sA, zA, cA])
 clear ld y0
 refine (HTO.o _ HB6.o HOK.o).mono ?_
 rintro e w7 ⟨v7, rfl, hO7, hb7⟩
 have HB7 := iH (bl_trans HB6.o hb7)
 obtain ⟨a7, c7, e7⟩ := hO7.slice
 subst e7
 have HPT : Hd (P ↔ (qTx x).length ≤ 2000) := ⟨fun h => (HP.o.1 h).2.2.2.2, fun h => HP.o.2 ⟨HB.o, HL8.o, HGB.o, (HQI.o.1 HOK.o).2.2.2, h⟩⟩
 clear hO7 hb7
 generalize (qTx x).length = n at *
 by_cases h2 : n ≤ 2000
 · have HY := iH (HPT.o.2 h2)
   have hz : (n : Int) ≤ 2000 := by omega
   clear h2
   go_wp2
   go_ret
   exact Tells.yes HY.o HB7.o
 have HNO : Hd (¬ P) := fun h => h2 (HPT.o.1 h)
 have hz : decide ((n : Int) ≤ 2000) = false := decide_eq_false (by omega)
 clear h2
 go_wp2
 go_ret
 exact Tells.no HNO.o HB7.o
theorem implQueryOk_any (x : QY) (w : World) (hx : x.lies 0 w) (ht : Tab w) : Calls Tryz.prog 16 #[.agg #[.bool x.ask, .bool x.dis, .slice x.sa x.sn x.sc, .slice x.ba x.bn x.bc, .slice x.ga x.gn x.gc, .slice x.oa x.on x.oc, .int .i64 x.lim, .int .i64 x.off]] w (Tells (QOK x) w) := by
 cases ha : x.ask with
 | true => have h := queryOk_ask x w hx ht ha; rw [ha] at h; exact h
 | false => have h := queryOk_sel x w hx ht ha; rw [ha] at h; exact h
theorem l4text_any (x : QY) (w : World) (hx : x.lies 0 w) (hs : SayQ x) : Calls Tryz.prog 41 #[.agg #[.bool x.ask, .bool x.dis, .slice x.sa x.sn x.sc, .slice x.ba x.bn x.bc, .slice x.ga x.gn x.gc, .slice x.oa x.on x.oc, .int .i64 x.lim, .int .i64 x.off]] w (MadeT w (qTx x)) := by
 cases ha : x.ask with
 | true => have h := text_ask x w hx hs ha; rw [ha] at h; exact h
 | false => have h := text_sel x w hx hs ha; rw [ha] at h; exact h
theorem specQueryOk_any (x : QY) (w : World) (hx : x.lies 0 w) (hcp : ∀ i, i < x.bn → (x.body i).caps) (hbc : x.bn ≤ x.bc) (hgc : x.gn ≤ x.gc) : Calls Tryz.prog 15 #[.agg x.ar] w (Tells (QOK x) w) := by
 try unfold QY.ar
 have HOK := iH (fun W (hb : Bl w W) => l4ok_any x W (hx.below hb) hcp hbc hgc)
 have HTO := iH (fun W (hb : Bl w W) (hq : qOk x) => l4text_any x W (hx.below hb) hq.say.1)
 have HX0 := iH (Box.new w x.ar 34 (0, 0))
 have HB0 : Hd (Bl w (w.alloc (.cells x.ar 34))) := bl_a _
 obtain ⟨P, hP⟩ : ∃ P : Prop, P = QOK x := ⟨_, rfl⟩
 have HP := iH (show (P ↔ _) by rw [hP])
 rw [← hP]
 clear hP hx hcp hbc hgc
 go_in
 go_upto_region 1 with fail
 generalize (w.alloc (.cells x.ar 34)) = W1 at *
 have ld := HX0.o.range 0 x.cl rfl
 go_wp2_with (with_reducible refine wpq_at ?_; refine ldr rfl rfl rfl Tryz.underlying34 ld rfl ?_; try simp only [Act.put, sA, zA, cA])
 clear ld
 refine (HOK.o _ HB0.o).mono ?_
 rintro e w1 ⟨q1, rfl, hq1, hb1⟩
 have HX1 := iH (HX0.o.below hb1)
 have HB1 := iH (bl_trans HB0.o hb1)
 clear hb1 HX0 HB0
 cases q1
 · have HNO : Hd (¬ P) := fun hh => by have h := hq1.2 (HP.o.1 hh).1; cases h
   clear hq1
   go_wp2
   go_ret
   exact Tells.no HNO.o HB1.o
 have H1 := iH (hq1.1 rfl)
 have lr := HX1.o.range 0 x.cl rfl
 clear hq1
 go_wp2_with (with_reducible refine wpq_at ?_; refine wpq_stopd 34 _ 6 rfl rfl ?_)
 change wpList _ _ _ _ _ _
 refine wpq_load ?hw 34 _ rfl w.heap.size 0 rfl x.cl _ lr Tryz.underlying34 rfl (by kernel_rfl) ?_
 case hw => rfl
 simp only [Act.put, sA, zA, cA]
 clear lr
 go_wp2_with fail
 refine (HTO.o _ HB1.o H1.o).mono ?_
 rintro e w7 ⟨v7, rfl, hO7, hb7⟩
 have HB7 := iH (bl_trans HB1.o hb7)
 obtain ⟨a7, c7, e7⟩ := hO7.slice
 subst e7
 have HPT : Hd (P ↔ (qTx x).length ≤ 2000) := ⟨fun h => (HP.o.1 h).2, fun h => HP.o.2 ⟨H1.o, h⟩⟩
 clear hO7 hb7
 generalize (qTx x).length = n at *
 by_cases h2 : n ≤ 2000
 · have HY := iH (HPT.o.2 h2)
   have hz : decide ((n : Int) ≤ 2000) = true := decide_eq_true (by omega)
   clear h2
   go_wp2
   go_ret
   exact Tells.yes HY.o HB7.o
 have HNO : Hd (¬ P) := fun h => h2 (HPT.o.1 h)
 have hz : decide ((n : Int) ≤ 2000) = false := decide_eq_false (by omega)
 clear h2
 go_wp2
 go_ret
 exact Tells.no HNO.o HB7.o
end Go.Proofs.YthljoojcpbignaaGreatDoor
