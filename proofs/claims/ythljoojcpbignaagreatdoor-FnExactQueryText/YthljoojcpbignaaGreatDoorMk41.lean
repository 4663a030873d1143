import Derived.Test.YthljoojcpbignaaGreatDoorMk35
import Derived.Test.YthljoojcpbignaaGreatDoorMk40
import Derived.Test.YthljoojcpbignaaGreatDoorMk31
namespace Go.Proofs.YthljoojcpbignaaGreatDoor
open Go.RowKit Go.Deep
set_option maxHeartbeats 40000000
set_option maxRecDepth 100000
theorem wpq_stopd {P : Program} {ops : Array Oper} {rest : List Oper} {op : Oper} {a : Act} {w : World} {Q : Exit → Act → World → Prop} (ty : TypeId) (x : Operand) (d : Nat) (_ : op.op = .load ty x) (_ : op.dst = some d) (h : Hd (wpList P ops Q (op :: rest) a w)) : wpList P ops Q (op :: rest) a w := h
theorem sumN_mul {n m : Nat} {f g : Nat → Nat} (h : ∀ i, i < n → f i ≤ m * g i) : sumN n f ≤ m * sumN n g := by
 induction n with
 | zero => exact nZ
 | succ n ih =>
  have h1 := ih (fun i hi => h i (by omega))
  have h2 := h n (by omega)
  show sumN n f + f n ≤ m * (sumN n g + g n)
  rw [Nat.mul_add]
  omega
theorem qOk_iff (x : QY) : qOk x ↔ bodyOk x ∧ (gV x.bn x.body []).length ≤ 8 ∧ gBd x.bn x.body ∧ (x.ask = true → BareQ x) ∧ (x.ask = false → SelA (gV x.bn x.body []) x) := by
 constructor
 · intro h
   exact ⟨h.b, h.v, h.d, h.a, fun ha => ⟨⟨h.n.1, (h.s ha).s⟩, ⟨h.n.2.1, (h.s ha).g, (h.s ha).p⟩, ⟨h.n.2.2.1, (h.s ha).o⟩, h.n.2.2.2.1, h.n.2.2.2.2⟩⟩
 rintro ⟨hb, hv, hd, ha, hs⟩
 refine ⟨hb, hd, hv, ?_, ha, fun h => ⟨(hs h).1.2, (hs h).2.1.2.1, (hs h).2.1.2.2, (hs h).2.2.1.2⟩⟩
 cases hh : x.ask with
 | true =>
  obtain ⟨_, h1, h2, h3, h4, h5⟩ := ha hh
  omega
 | false =>
  obtain ⟨h1, h2, h3, h4, h5⟩ := hs hh
  exact ⟨h1.1, h2.1, h3.1, h4, h5⟩
theorem outs_mem {x : QY} {k : Nat} {v : List Int} (h : v ∈ outs x k) : ∃ i, i < k ∧ v = sV x i := by
 induction k with
 | zero => cases h
 | succ k ih =>
  rcases List.mem_append.1 h with h | h
  · obtain ⟨i, hi, e⟩ := ih h
    exact ⟨i, by omega, e⟩
  exact ⟨k, by omega, List.mem_singleton.1 h⟩
theorem qOk.say {x : QY} (h : qOk x) : SayQ x ∧ (∀ i, i < x.sn → (x.sel i).fn = 0 ∨ (x.sel i).fn = 1 ∨ (x.sel i).fn = 2) ∧ (x.ask = true → tailTx x = []) := by
 have hN := gV_name h.b.1
 have ht : x.ask = true → tailTx x = [] := fun ha => by
  obtain ⟨_, _, h2, h3, h4, h5⟩ := h.a ha
  unfold tailTx grpTx ordTx limTx offTx
  rw [h2, h3, h4, h5]
  rfl
 cases hh : x.ask with
 | true =>
  obtain ⟨_, h1, h2, h3, h4, h5⟩ := h.a hh
  refine ⟨⟨h.b, ⟨by omega, fun i hi => by omega⟩, ⟨by omega, fun i hi => by omega⟩, ⟨by omega, fun i hi => by omega⟩, by omega, by omega⟩, fun i hi => by omega, fun _ => ht hh⟩
 | false =>
  have hs := h.s hh
  have hv : ∀ i, i < x.sn → nameOk (x.sel i).v.b = true ∧ ((x.sel i).fn ≠ 0 → nameOk (x.sel i).of.b = true) := fun i hi => by
   rcases (hs.s i hi).2 with ⟨h0, _, hm⟩ | ⟨_, hm, hn, _⟩
   · exact ⟨hN _ hm, fun e => absurd h0 e⟩
   exact ⟨hn, fun _ => hN _ hm⟩
  refine ⟨⟨h.b, ⟨h.n.1, hv⟩, ⟨h.n.2.1, fun i hi => hN _ (hs.g i hi).1⟩, ⟨h.n.2.2.1, fun i hi => ?_⟩, h.n.2.2.2.1, h.n.2.2.2.2⟩, fun i hi => ?_, fun e => by cases e⟩
  · have h1 := hs.o i hi
    split at h1
    · exact hN _ h1
    obtain ⟨j, hj, e⟩ := outs_mem h1
    rw [e]
    exact (hv j hj).1
  rcases (hs.s i hi).2 with ⟨h0, _⟩ | ⟨h0 | h0, _⟩
  · exact .inl h0
  · exact .inr (.inl h0)
  exact .inr (.inr h0)
def QOK (x : QY) : Prop := qOk x ∧ (qTx x).length ≤ 2000
theorem Own8.slice {w : World} {B n : Nat} {v : Value} {bs : List Int} (h : Own8 w B v n bs) : ∃ a cap, v = .slice a n cap := by
 rcases h.1.2 with ⟨hv, hn⟩ | ⟨g, cap, cur, hv, _⟩
 · exact ⟨none, 0, by rw [hv, hn]⟩
 exact ⟨_, cap, hv⟩
theorem queryOk_ask (x : QY) (w : World) (hx : x.lies 0 w) (ht : Tab w) (ha : x.ask = true) : Calls Tryz.prog 16 #[.agg #[.bool x.ask, .bool x.dis, .slice x.sa x.sn x.sc, .slice x.ba x.bn x.bc, .slice x.ga x.gn x.gc, .slice x.oa x.on x.oc, .int .i64 x.lim, .int .i64 x.off]] w (Tells (QOK x) w) := by
 have HGO := iH (fun W (hb : Bl w W) (hc : Ctr W _ 120) => groupOkP_of x.ba x.bc x.bn x.body 1 120 (w.heap.size + 1) w W hx.b.2.2 hx.b.1 hb (Nat.le_succ _) hc (by omega) (by omega) fun i hi L' W' hb' hc' h0 h1 => elemOkP_any (x.body i) 1 L' _ w W' (hx.b.2.1 i hi) hb' (Nat.le_succ _) hc' (by omega) (by omega) h0 h1)
 have HUC : Hd (bodyOk x → sumN x.bn (fun i => uc (x.body i)) ≤ 1000000 ∧ ∀ i, i < x.bn → uc (x.body i) ≤ 1000000) := fun hb => by
  have h1 := sumN_mul (n := x.bn) (m := 5) (f := fun i => uc (x.body i)) (g := fun i => usz (x.body i)) (fun i hi => uc_le (hb.1 i hi))
  have h2 := hb.2
  refine ⟨by omega, fun i hi => ?_⟩
  have h3 := sumN_mono (f := fun i => uc (x.body i)) (show i + 1 ≤ x.bn by omega)
  have h4 : sumN (i + 1) (fun i => uc (x.body i)) = sumN i (fun i => uc (x.body i)) + uc (x.body i) := rfl
  omega
 have HVO := iH (fun W (hb : Bl w W) (hB : bodyOk x) => varsOf_any x.ba x.bc x.bn x.body w W hx.b.2.2 hx.b.1 hx.b.2.1 hb (HUC.o hB).1)
 have HBA := iH (fun W (hb : Bl w W) (hB : bodyOk x) => bindsAfresh_of x.ba x.bc x.bn x.body w W hx.b.2.2 hx.b.1 hx.b.2.1 hb (HUC.o hB).1 fun i hi => bindsAfresh_any (x.body i) w (hx.b.2.1 i hi) ((HUC.o hB).2 i hi))
 have HBR : Hd (∀ W, Cl 44 #[.agg (qC2 true x)] W (Tells ((x.ask = true → BareQ x) ∧ (x.ask = false → SelA (gV x.bn x.body []) x)) W)) := fun W => by
  have h1 := isBareQ_any x W
  unfold QY.ar at h1
  rw [ha] at h1 ⊢
  refine h1.mono fun e w' h => ?_
  obtain ⟨q, h2, h3, h4⟩ := h
  exact ⟨q, h2, ⟨fun hq => ⟨fun _ => h3.1 hq, fun e => by cases e⟩, fun hh => h3.2 (hh.1 rfl)⟩, h4⟩
 have HTO : Hd (∀ W, Bl w W → qOk x → Cl 46 #[.agg (qC2 true x)] W (MadeT W (qTx x))) := fun W hb hq => by
  have h1 := textOf_any x W (hx.below hb) hq.say.1 hq.say.2.1 hq.say.2.2 (ht.below hb)
  unfold QY.ar at h1
  rw [ha] at h1
  exact h1
 have HX1 := iH (Box.new w (qC2 true x) 34 (0, 0))
 have HB1 : Hd (Bl w (w.alloc (.cells (qC2 true x) 34))) := bl_a _
 have HX2 : Hd (Box ((w.alloc (.cells (qC2 true x) 34)).alloc (.cells #[.int .i64 120] 66)) w.heap.size (qB true x)) := HX1.o.below (bl_a _)
 have HB2 : Hd (Bl w ((w.alloc (.cells (qC2 true x) 34)).alloc (.cells #[.int .i64 120] 66))) := bl_trans HB1.o (bl_a _)
 have HC2 : Hd (Ctr ((w.alloc (.cells (qC2 true x) 34)).alloc (.cells #[.int .i64 120] 66)) (w.heap.size + 1) 120) := ⟨by simp, by simp [go_sem], by simp [go_sem]⟩
 have HQI := iH (qOk_iff x)
 obtain ⟨P, hP⟩ : ∃ P : Prop, P = QOK x := ⟨_, rfl⟩
 have HP : Hd (P ↔ bodyOk x ∧ (gV x.bn x.body []).length ≤ 8 ∧ gBd x.bn x.body ∧ ((x.ask = true → BareQ x) ∧ (x.ask = false → SelA (gV x.bn x.body []) x)) ∧ (qTx x).length ≤ 2000) := (show (P ↔ _) by
  rw [hP]
  unfold QOK
  rw [qOk_iff]
  exact ⟨fun h => ⟨h.1.1, h.1.2.1, h.1.2.2.1, h.1.2.2.2, h.2⟩, fun h => ⟨⟨h.1, h.2.1, h.2.2.1, h.2.2.2.1⟩, h.2.2.2.2⟩⟩)
 rw [← hP, ha]
 clear hP hx ht HX1 HB1 HUC
 go_in
 go_upto_region 2 with fail
 generalize ((w.alloc (.cells (qC2 true x) 34)).alloc (.cells #[.int .i64 120] 66)) = W2 at *
 have y3 := HX2.o.2 3 _ rfl
 go_wp2_with fail
 refine (HGO.o _ HB2.o HC2.o).mono ?_
 rintro e w3 ⟨q3, L3, rfl, hq3, _, _, hp3⟩
 have HX3 := iH (HX2.o.past hp3 (by omega))
 have HB3 := iH (HB2.o.trans (hp3.below (Nat.le_succ _) HB2.o.size))
 clear hp3 HX2 HB2 HC2 y3 HGO
 cases q3
 · have HNO : Hd (¬ P) := fun hh => by
    have hB := (HP.o.1 hh).1
    have h := hq3.2 ⟨hB.1, by have := hB.2; omega⟩
    cases h
   clear hq3
   go_wp2_with fail
   go_ret
   exact Tells.no HNO.o HB3.o
 have HB : Hd (bodyOk x) := (show _ ∧ _ by have h := hq3.1 rfl; exact ⟨h.1, by have := h.2; omega⟩)
 have y3 := HX3.o.2 3 _ rfl
 clear hq3
 go_wp2_with fail
 refine (HVO.o _ HB3.o HB.o).mono ?_
 rintro e w4 ⟨v4, L4, rfl, hV4, hR4, hb4⟩
 have HX4 := iH (HX3.o.below hb4)
 have HB4 := iH (bl_trans HB3.o hb4)
 have HR4 := iH hR4
 obtain ⟨va4, vc4, hva4, _⟩ := hV4.form
 subst hva4
 have HV4 := iH hV4
 clear hV4 hR4 hb4 HX3 HB3 y3
 by_cases h8 : L4.length ≤ 8
 rotate_left
 · have HNO : Hd (¬ P) := fun hh => h8 (by have h := (HP.o.1 hh).2.1; rw [← HR4.o, List.length_map] at h; exact h)
   obtain ⟨nv, hnv⟩ : ∃ nv, nv = L4.length := ⟨_, rfl⟩
   rw [← hnv] at h8 ⊢
   have hz : (nv : Int) > 8 := by omega
   clear hnv h8
   go_wp2_with fail
   go_ret
   exact Tells.no HNO.o HB4.o
 have HL8 : Hd ((gV x.bn x.body []).length ≤ 8) := (show _ ≤ _ by rw [← HR4.o, List.length_map]; exact h8)
 obtain ⟨nv, hnv⟩ : ∃ nv, nv = L4.length := ⟨_, rfl⟩
 rw [← hnv] at h8 HV4 ⊢
 have hz : ¬ (nv : Int) > 8 := by omega
 have HNV := iH hnv.symm
 have y3 := HX4.o.2 3 _ rfl
 clear h8 hnv
 go_wp2_with fail
 refine (HBA.o _ HB4.o HB.o).mono ?_
 rintro e w5 ⟨q5, rfl, hq5, hb5⟩
 have HX5 := iH (HX4.o.below hb5)
 have HB5 := iH (bl_trans HB4.o hb5)
 have HV5 := iH (HV4.o.below hb5)
 clear hb5 HX4 HB4 y3 HV4
 cases q5
 · have HNO : Hd (¬ P) := fun hh => by have h := hq5.2 ((gBda_iff HB.o.1).2 (HP.o.1 hh).2.2.1); cases h
   clear hq5
   go_wp2_with fail
   go_ret
   exact Tells.no HNO.o HB5.o
 have HGB := iH ((gBda_iff HB.o.1).1 (hq5.1 rfl))
 clear hq5
 have y0 := HX5.o.2 0 _ rfl
 have lr := HX5.o.range 0 (qB true x) rfl
 go_wp2_with (with_reducible refine wpq_at ?_; refine wpq_stopd 34 _ 26 rfl rfl ?_)
 change wpList _ _ _ _ _ _
 refine wpq_load ?hw 34 _ rfl w.heap.size 0 rfl (qB true x) _ lr Tryz.underlying34 rfl (by kernel_rfl) ?_
 case hw => rfl
 simp only [Act.put, sA, zA, cA]
 go_wp2_with fail
 refine (HBR.o _).mono ?_
 rintro e w6 ⟨q6, rfl, hq6, hb6⟩
 have HX6 := iH (HX5.o.below hb6)
 have HB6 := iH (bl_trans HB5.o hb6)
 clear hb6 HX5 HB5 lr y0
 cases q6
 · have HNO : Hd (¬ P) := fun hh => by have h := hq6.2 ((HP.o.1 hh).2.2.2.1); cases h
   have y0 := HX6.o.2 0 _ rfl
   clear hq6
   go_wp2_with fail
   go_ret
   exact Tells.no HNO.o HB6.o
 have HOK := iH (HQI.o.2 ⟨HB.o, HL8.o, HGB.o, hq6.1 rfl⟩)
 have y0 := HX6.o.2 0 _ rfl
 have ld := HX6.o.range 0 (qB true x) rfl
 clear hq6
 go_wp2_with (with_reducible refine wpq_at ?_; refine wpList_load_mid rfl 34 _ rfl w.heap.size 0 rfl (qB true x) _ ld Tryz.underlying34 rfl (by kernel_rfl) ?_; try simp only [Act.put, sA, zA, cA])
 clear ld y0
 refine (HTO.o _ HB6.o HOK.o).mono ?_
 rintro e w7 ⟨v7, rfl, hO7, hb7⟩
 have HB7 := iH (bl_trans HB6.o hb7)
 obtain ⟨a7, c7, e7⟩ := hO7.slice
 subst e7
 have HPT : Hd (P ↔ (qTx x).length ≤ 2000) := ⟨fun h => (HP.o.1 h).2.2.2.2, fun h => HP.o.2 ⟨HB.o, HL8.o, HGB.o, (HQI.o.1 HOK.o).2.2.2, h⟩⟩
 clear hO7 hb7
 generalize (qTx x).length = n at *
 by_cases h2 : n ≤ 2000
 · have HY := iH (HPT.o.2 h2)
   have hz : (n : Int) ≤ 2000 := by omega
   clear h2
   go_wp2_with fail
   go_ret
   exact Tells.yes HY.o HB7.o
 have HNO : Hd (¬ P) := fun h => h2 (HPT.o.1 h)
 have hz : decide ((n : Int) ≤ 2000) = false := decide_eq_false (by omega)
 clear h2
 go_wp2_with fail
 go_ret
 exact Tells.no HNO.o HB7.o
theorem queryOk_sel (x : QY) (w : World) (hx : x.lies 0 w) (ht : Tab w) (ha : x.ask = false) : Calls Tryz.prog 16 #[.agg #[.bool x.ask, .bool x.dis, .slice x.sa x.sn x.sc, .slice x.ba x.bn x.bc, .slice x.ga x.gn x.gc, .slice x.oa x.on x.oc, .int .i64 x.lim, .int .i64 x.off]] w (Tells (QOK x) w) := by
 have HGO := iH (fun W (hb : Bl w W) (hc : Ctr W _ 120) => groupOkP_of x.ba x.bc x.bn x.body 1 120 (w.heap.size + 1) w W hx.b.2.2 hx.b.1 hb (Nat.le_succ _) hc (by omega) (by omega) fun i hi L' W' hb' hc' h0 h1 => elemOkP_any (x.body i) 1 L' _ w W' (hx.b.2.1 i hi) hb' (Nat.le_succ _) hc' (by omega) (by omega) h0 h1)
 have HUC : Hd (bodyOk x → sumN x.bn (fun i => uc (x.body i)) ≤ 1000000 ∧ ∀ i, i < x.bn → uc (x.body i) ≤ 1000000) := fun hb => by
  have h1 := sumN_mul (n := x.bn) (m := 5) (f := fun i => uc (x.body i)) (g := fun i => usz (x.body i)) (fun i hi => uc_le (hb.1 i hi))
  have h2 := hb.2
  refine ⟨by omega, fun i hi => ?_⟩
  have h3 := sumN_mono (f := fun i => uc (x.body i)) (show i + 1 ≤ x.bn by omega)
  have h4 : sumN (i + 1) (fun i => uc (x.body i)) = sumN i (fun i => uc (x.body i)) + uc (x.body i) := rfl
  omega
 have HVO := iH (fun W (hb : Bl w W) (hB : bodyOk x) => varsOf_any x.ba x.bc x.bn x.body w W hx.b.2.2 hx.b.1 hx.b.2.1 hb (HUC.o hB).1)
 have HBA := iH (fun W (hb : Bl w W) (hB : bodyOk x) => bindsAfresh_of x.ba x.bc x.bn x.body w W hx.b.2.2 hx.b.1 hx.b.2.1 hb (HUC.o hB).1 fun i hi => bindsAfresh_any (x.body i) w (hx.b.2.1 i hi) ((HUC.o hB).2 i hi))
 have HSO : Hd (∀ W B va L, L.map SL.b = gV x.bn x.body [] → L.length ≤ 8 → bodyOk x → VL w W B va L → Bl w W → Cl 45 #[.agg (qC2 false x), va] W (Tells ((x.ask = true → BareQ x) ∧ (x.ask = false → SelA (gV x.bn x.body []) x)) W)) := fun W B va L hR hl hB hV hb => by
  have h1 := selectOk_any x va L (gV x.bn x.body []) B w W hx hV hb hR (by omega) (gV_name hB.1)
  unfold QY.ar at h1
  rw [ha] at h1 ⊢
  refine h1.mono fun e w' h => ?_
  obtain ⟨q, h2, h3, h4⟩ := h
  exact ⟨q, h2, ⟨fun hq => ⟨fun e => (by cases e), fun _ => h3.1 hq⟩, fun hh => h3.2 (hh.2 rfl)⟩, h4⟩
 have HTO : Hd (∀ W, Bl w W → qOk x → Cl 46 #[.agg (qC2 false x)] W (MadeT W (qTx x))) := fun W hb hq => by
  have h1 := textOf_any x W (hx.below hb) hq.say.1 hq.say.2.1 hq.say.2.2 (ht.below hb)
  unfold QY.ar at h1
  rw [ha] at h1
  exact h1
 have HX1 := iH (Box.new w (qC2 false x) 34 (0, 0))
 have HB1 : Hd (Bl w (w.alloc (.cells (qC2 false x) 34))) := bl_a _
 have HX2 : Hd (Box ((w.alloc (.cells (qC2 false x) 34)).alloc (.cells #[.int .i64 120] 66)) w.heap.size (qB false x)) := HX1.o.below (bl_a _)
 have HB2 : Hd (Bl w ((w.alloc (.cells (qC2 false x) 34)).alloc (.cells #[.int .i64 120] 66))) := bl_trans HB1.o (bl_a _)
 have HC2 : Hd (Ctr ((w.alloc (.cells (qC2 false x) 34)).alloc (.cells #[.int .i64 120] 66)) (w.heap.size + 1) 120) := ⟨by simp, by simp [go_sem], by simp [go_sem]⟩
 have HQI := iH (qOk_iff x)
 obtain ⟨P, hP⟩ : ∃ P : Prop, P = QOK x := ⟨_, rfl⟩
 have HP : Hd (P ↔ bodyOk x ∧ (gV x.bn x.body []).length ≤ 8 ∧ gBd x.bn x.body ∧ ((x.ask = true → BareQ x) ∧ (x.ask = false → SelA (gV x.bn x.body []) x)) ∧ (qTx x).length ≤ 2000) := (show (P ↔ _) by
  rw [hP]
  unfold QOK
  rw [qOk_iff]
  exact ⟨fun h => ⟨h.1.1, h.1.2.1, h.1.2.2.1, h.1.2.2.2, h.2⟩, fun h => ⟨⟨h.1, h.2.1, h.2.2.1, h.2.2.2.1⟩, h.2.2.2.2⟩⟩)
 rw [← hP, ha]
 clear hP hx ht HX1 HB1 HUC
 go_in
 go_upto_region 2 with fail
 generalize ((w.alloc (.cells (qC2 false x) 34)).alloc (.cells #[.int .i64 120] 66)) = W2 at *
 have y3 := HX2.o.2 3 _ rfl
 go_wp2_with fail
 refine (HGO.o _ HB2.o HC2.o).mono ?_
 rintro e w3 ⟨q3, L3, rfl, hq3, _, _, hp3⟩
 have HX3 := iH (HX2.o.past hp3 (by omega))
 have HB3 := iH (HB2.o.trans (hp3.below (Nat.le_succ _) HB2.o.size))
 clear hp3 HX2 HB2 HC2 y3 HGO
 cases q3
 · have HNO : Hd (¬ P) := fun hh => by
    have hB := (HP.o.1 hh).1
    have h := hq3.2 ⟨hB.1, by have := hB.2; omega⟩
    cases h
   clear hq3
   go_wp2_with fail
   go_ret
   exact Tells.no HNO.o HB3.o
 have HB : Hd (bodyOk x) := (show _ ∧ _ by have h := hq3.1 rfl; exact ⟨h.1, by have := h.2; omega⟩)
 have y3 := HX3.o.2 3 _ rfl
 clear hq3
 go_wp2_with fail
 refine (HVO.o _ HB3.o HB.o).mono ?_
 rintro e w4 ⟨v4, L4, rfl, hV4, hR4, hb4⟩
 have HX4 := iH (HX3.o.below hb4)
 have HB4 := iH (bl_trans HB3.o hb4)
 have HR4 := iH hR4
 obtain ⟨va4, vc4, hva4, _⟩ := hV4.form
 subst hva4
 have HV4 := iH hV4
 clear hV4 hR4 hb4 HX3 HB3 y3
 by_cases h8 : L4.length ≤ 8
 rotate_left
 · have HNO : Hd (¬ P) := fun hh => h8 (by have h := (HP.o.1 hh).2.1; rw [← HR4.o, List.length_map] at h; exact h)
   obtain ⟨nv, hnv⟩ : ∃ nv, nv = L4.length := ⟨_, rfl⟩
   rw [← hnv] at h8 ⊢
   have hz : (nv : Int) > 8 := by omega
   clear hnv h8
   go_wp2_with fail
   go_ret
   exact Tells.no HNO.o HB4.o
 have HL8 : Hd ((gV x.bn x.body []).length ≤ 8) := (show _ ≤ _ by rw [← HR4.o, List.length_map]; exact h8)
 obtain ⟨nv, hnv⟩ : ∃ nv, nv = L4.length := ⟨_, rfl⟩
 rw [← hnv] at h8 HV4 ⊢
 have hz : ¬ (nv : Int) > 8 := by omega
 have HNV := iH hnv.symm
 have y3 := HX4.o.2 3 _ rfl
 clear h8 hnv
 go_wp2_with fail
 refine (HBA.o _ HB4.o HB.o).mono ?_
 rintro e w5 ⟨q5, rfl, hq5, hb5⟩
 have HX5 := iH (HX4.o.below hb5)
 have HB5 := iH (bl_trans HB4.o hb5)
 have HV5 := iH (HV4.o.below hb5)
 clear hb5 HX4 HB4 y3 HV4
 cases q5
 · have HNO : Hd (¬ P) := fun hh => by have h := hq5.2 ((gBda_iff HB.o.1).2 (HP.o.1 hh).2.2.1); cases h
   clear hq5
   go_wp2_with fail
   go_ret
   exact Tells.no HNO.o HB5.o
 have HGB := iH ((gBda_iff HB.o.1).1 (hq5.1 rfl))
 clear hq5
 have y0 := HX5.o.2 0 _ rfl
 have lr := HX5.o.range 0 (qB false x) rfl
 go_wp2_with (with_reducible refine wpq_at ?_; refine wpq_stopd 34 _ 35 rfl rfl ?_)
 change wpList _ _ _ _ _ _
 refine wpq_load ?hw 34 _ rfl w.heap.size 0 rfl (qB false x) _ lr Tryz.underlying34 rfl (by kernel_rfl) ?_
 case hw => rfl
 simp only [Act.put, sA, zA, cA]
 go_wp2_with fail
 refine (HSO.o _ _ _ _ HR4.o (by have h := HL8.o; rw [← HR4.o, List.length_map] at h; exact h) HB.o HV5.o HB5.o).mono ?_
 rintro e w6 ⟨q6, rfl, hq6, hb6⟩
 have HX6 := iH (HX5.o.below hb6)
 have HB6 := iH (bl_trans HB5.o hb6)
 clear hb6 HX5 HB5 lr y0
 cases q6
 · have HNO : Hd (¬ P) := fun hh => by have h := hq6.2 ((HP.o.1 hh).2.2.2.1); cases h
   have y0 := HX6.o.2 0 _ rfl
   clear hq6
   go_wp2_with fail
   go_ret
   exact Tells.no HNO.o HB6.o
 have HOK := iH (HQI.o.2 ⟨HB.o, HL8.o, HGB.o, hq6.1 rfl⟩)
 have y0 := HX6.o.2 0 _ rfl
 have ld := HX6.o.range 0 (qB false x) rfl
 clear hq6
 go_wp2_with (with_reducible refine wpq_at ?_; refine wpList_load_mid rfl 34 _ rfl w.heap.size 0 rfl (qB false x) _ ld Tryz.underlying34 rfl (by kernel_rfl) ?_; try simp only [Act.put, sA, zA, cA])
 clear ld y0
 refine (HTO.o _ HB6.o HOK.o).mono ?_
 rintro e w7 ⟨v7, rfl, hO7, hb7⟩
 have HB7 := iH (bl_trans HB6.o hb7)
 obtain ⟨a7, c7, e7⟩ := hO7.slice
 subst e7
 have HPT : Hd (P ↔ (qTx x).length ≤ 2000) := ⟨fun h => (HP.o.1 h).2.2.2.2, fun h => HP.o.2 ⟨HB.o, HL8.o, HGB.o, (HQI.o.1 HOK.o).2.2.2, h⟩⟩
 clear hO7 hb7
 generalize (qTx x).length = n at *
 by_cases h2 : n ≤ 2000
 · have HY := iH (HPT.o.2 h2)
   have hz : (n : Int) ≤ 2000 := by omega
   clear h2
   go_wp2_with fail
   go_ret
   exact Tells.yes HY.o HB7.o
 have HNO : Hd (¬ P) := fun h => h2 (HPT.o.1 h)
 have hz : decide ((n : Int) ≤ 2000) = false := decide_eq_false (by omega)
 clear h2
 go_wp2_with fail
 go_ret
 exact Tells.no HNO.o HB7.o
theorem implQueryOk_any (x : QY) (w : World) (hx : x.lies 0 w) (ht : Tab w) : Calls Tryz.prog 16 #[.agg #[.bool x.ask, .bool x.dis, .slice x.sa x.sn x.sc, .slice x.ba x.bn x.bc, .slice x.ga x.gn x.gc, .slice x.oa x.on x.oc, .int .i64 x.lim, .int .i64 x.off]] w (Tells (QOK x) w) := by
 cases ha : x.ask with
 | true => have h := queryOk_ask x w hx ht ha; rw [ha] at h; exact h
 | false => have h := queryOk_sel x w hx ht ha; rw [ha] at h; exact h
theorem l4text_any (x : QY) (w : World) (hx : x.lies 0 w) (hs : SayQ x) : Calls Tryz.prog 41 #[.agg #[.bool x.ask, .bool x.dis, .slice x.sa x.sn x.sc, .slice x.ba x.bn x.bc, .slice x.ga x.gn x.gc, .slice x.oa x.on x.oc, .int .i64 x.lim, .int .i64 x.off]] w (MadeT w (qTx x)) := by
 cases ha : x.ask with
 | true => have h := text_ask x w hx hs ha; rw [ha] at h; exact h
 | false => have h := text_sel x w hx hs ha; rw [ha] at h; exact h
theorem specQueryOk_any (x : QY) (w : World) (hx : x.lies 0 w) (hcp : ∀ i, i < x.bn → (x.body i).caps) (hbc : x.bn ≤ x.bc) (hgc : x.gn ≤ x.gc) : Calls Tryz.prog 15 #[.agg x.ar] w (Tells (QOK x) w) := by
 try unfold QY.ar
 have HOK := iH (fun W (hb : Bl w W) => l4ok_any x W (hx.below hb) hcp hbc hgc)
 have HTO := iH (fun W (hb : Bl w W) (hq : qOk x) => l4text_any x W (hx.below hb) hq.say.1)
 have HX0 := iH (Box.new w x.ar 34 (0, 0))
 have HB0 : Hd (Bl w (w.alloc (.cells x.ar 34))) := bl_a _
 obtain ⟨P, hP⟩ : ∃ P : Prop, P = QOK x := ⟨_, rfl⟩
 have HP := iH (show (P ↔ _) by rw [hP])
 rw [← hP]
 clear hP hx hcp hbc hgc
 go_in
 go_upto_region 1 with fail
 generalize (w.alloc (.cells x.ar 34)) = W1 at *
 have ld := HX0.o.range 0 x.cl rfl
 go_wp2_with (with_reducible refine wpq_at ?_; refine wpList_load_mid rfl 34 _ rfl w.heap.size 0 rfl x.cl _ ld Tryz.underlying34 rfl (by kernel_rfl) ?_; try simp only [Act.put, sA, zA, cA])
 clear ld
 refine (HOK.o _ HB0.o).mono ?_
 rintro e w1 ⟨q1, rfl, hq1, hb1⟩
 have HX1 := iH (HX0.o.below hb1)
 have HB1 := iH (bl_trans HB0.o hb1)
 clear hb1 HX0 HB0
 cases q1
 · have HNO : Hd (¬ P) := fun hh => by have h := hq1.2 (HP.o.1 hh).1; cases h
   clear hq1
   go_wp2_with fail
   go_ret
   exact Tells.no HNO.o HB1.o
 have H1 := iH (hq1.1 rfl)
 have lr := HX1.o.range 0 x.cl rfl
 clear hq1
 go_wp2_with (with_reducible refine wpq_at ?_; refine wpq_stopd 34 _ 6 rfl rfl ?_)
 change wpList _ _ _ _ _ _
 refine wpq_load ?hw 34 _ rfl w.heap.size 0 rfl x.cl _ lr Tryz.underlying34 rfl (by kernel_rfl) ?_
 case hw => rfl
 simp only [Act.put, sA, zA, cA]
 clear lr
 go_wp2_with fail
 refine (HTO.o _ HB1.o H1.o).mono ?_
 rintro e w7 ⟨v7, rfl, hO7, hb7⟩
 have HB7 := iH (bl_trans HB1.o hb7)
 obtain ⟨a7, c7, e7⟩ := hO7.slice
 subst e7
 have HPT : Hd (P ↔ (qTx x).length ≤ 2000) := ⟨fun h => (HP.o.1 h).2, fun h => HP.o.2 ⟨H1.o, h⟩⟩
 clear hO7 hb7
 generalize (qTx x).length = n at *
 by_cases h2 : n ≤ 2000
 · have HY := iH (HPT.o.2 h2)
   have hz : decide ((n : Int) ≤ 2000) = true := decide_eq_true (by omega)
   clear h2
   go_wp2_with fail
   go_ret
   exact Tells.yes HY.o HB7.o
 have HNO : Hd (¬ P) := fun h => h2 (HPT.o.1 h)
 have hz : decide ((n : Int) ≤ 2000) = false := decide_eq_false (by omega)
 clear h2
 go_wp2_with fail
 go_ret
 exact Tells.no HNO.o HB7.o
theorem byt_lit {l : List Int} (h : l.all (fun x => decide (0 ≤ x ∧ x ≤ 255)) = true) : Byt l := fun x hx => of_decide_eq_true (List.all_eq_true.1 h x hx)
theorem bsF_byt {B : Nat} {w : World} {x : SL} (h : BsF B w x) : Byt x.b := Byt.of h.1.2.2.1
theorem vTx_byt {b : List Int} (h : Byt b) : Byt (vTx b) := Byt.cons ⟨by omega, by omega⟩ (h.app (byt_lit rfl))
theorem tTx_byt {t : TB} (h : Byt t.b) : Byt (tTx t) := (showL_byt h).app (byt_lit rfl)
theorem itTx_byt {B : Nat} {w : World} {x : IB} (h : x.lies B w) : Byt (itTx x) := by
 unfold itTx
 split
 · exact tTx_byt (bsF_byt (x := x.t.sl) h.2.1)
 exact vTx_byt (bsF_byt h.1)
theorem catN_byt {n : Nat} {f : Nat → List Int} (h : ∀ i, i < n → Byt (f i)) : Byt (catN n f) := by
 induction n with
 | zero => exact Byt.nil
 | succ n ih => exact (ih fun i hi => h i (by omega)).app (h n (by omega))
theorem opB_byt (n : Int) : 0 ≤ opB n ∧ opB n ≤ 255 := by
 unfold opB
 repeat' split
 all_goals omega
theorem eTx_byt {lim : Int} {w : World} (e : ET) : ∀ deep, e.lies 0 w → eOk lim e deep → Byt (eTx e) := by
 induction e with
 | nil => exact fun _ h => False.elim h
 | mk d kid ih =>
  intro deep hl ho
  have hk : kOk d.k d.n := ho.2.1.1
  have hi : ∀ i, i < d.n → Byt (eTx (kid i)) := fun i h => ih i _ (hl.2.2.2.2.2 i h) (ho.2.2 i h)
  have hv := vTx_byt (bsF_byt hl.1)
  have ht : Byt (tTx d.t) := tTx_byt (bsF_byt (x := d.t.sl) hl.2.1)
  unfold kOk at hk
  rw [eTx_mk]
  split
  · exact hv
  split
  · exact ht
  split
  · exact (byt_lit rfl).app ((hi 0 (by omega)).app (Byt.app (Byt.cons (opB_byt _) (byt_lit rfl)) ((hi 1 (by omega)).app (byt_lit rfl))))
  split
  · exact (byt_lit rfl).app (hi 0 (by omega))
  split
  · exact (byt_lit rfl).app hv
  split
  · exact (byt_lit rfl).app ((hi 0 (by omega)).app ((hi 1 (by omega)).app (hi 2 (by omega))))
  split
  · exact (byt_lit rfl).app (hi 0 (by omega))
  exact (byt_lit rfl).app ((catN_byt hi).app (byt_lit rfl))
theorem uTx_byt {w : World} (e : UT) : ∀ deep, e.lies 0 w → uOk e deep → Byt (uTx e) := by
 induction e with
 | nil => exact fun _ h => False.elim h
 | mk d ka kb ia ib =>
  intro deep hl ho
  obtain ⟨_, _, hN, hX, hA, hB⟩ := uOk_at ho
  obtain ⟨hp, he, hv, ht, _, _, _, la, lb⟩ := hl
  have ga : Byt (gTx d.an ka) := (byt_lit rfl).app ((catN_byt fun i hi => ia i _ (la i hi) (hA i hi)).app (byt_lit rfl))
  have gb : Byt (gTx d.bn kb) := (byt_lit rfl).app ((catN_byt fun i hi => ib i _ (lb i hi) (hB i hi)).app (byt_lit rfl))
  have hvt := vTx_byt (bsF_byt hv)
  rw [uTx_at (fun h => UT.noConfusion h)]
  show Byt (if d.k = 0 then _ else _)
  split
  · exact (itTx_byt hp.1).app ((itTx_byt hp.2.1).app ((itTx_byt hp.2.2).app (byt_lit rfl)))
  split
  · exact (byt_lit rfl).app ga
  split
  · exact (byt_lit rfl).app (ga.app gb)
  split
  · exact (byt_lit rfl).app ga
  split
  · exact (byt_lit rfl).app (eTx_byt d.e _ he (hX (.inl (by assumption))))
  split
  · exact (byt_lit rfl).app ((eTx_byt d.e _ he (hX (.inr (by assumption)))).app hvt)
  refine (byt_lit rfl).app (hvt.app ((byt_lit rfl).app ((catN_byt fun i hi => tTx_byt ?_).app (byt_lit rfl))))
  have hi' : i < d.tb.length := hi
  have hm := ht.2.2 _ (List.getElem_mem hi')
  have hg : tbG d.tb i = d.tb[i] := by
   unfold tbG
   rw [List.getElem?_eq_getElem hi']
   rfl
  show Byt (tbG d.tb i).b
  rw [hg]
  exact bsF_byt (x := (d.tb[i]).sl) hm.1
theorem gTx_byt {w : World} {n : Nat} {f : Nat → UT} {deep : Int} (h : ∀ i, i < n → (f i).lies 0 w) (ho : ∀ i, i < n → uOk (f i) deep) : Byt (gTx n f) := (byt_lit rfl).app ((catN_byt fun i hi => uTx_byt _ _ (h i hi) (ho i hi)).app (byt_lit rfl))
theorem numTx_byt (n : Int) : Byt (numTx n) := (digitsL_byt _).app (byt_lit rfl)
theorem qTx_byt {x : QY} {w : World} (h : x.lies 0 w) (hs : bodyOk x) : Byt (qTx x) := by
 have hg : Byt (gTx x.bn x.body) := gTx_byt h.b.2.1 hs.1
 have hsel : ∀ i, i < x.sn → Byt (selTx (x.sel i)) := fun i hi => by
  have h1 := vTx_byt (bsF_byt (h.s.2.1 i hi).1)
  have h2 := vTx_byt (bsF_byt (h.s.2.1 i hi).2)
  unfold selTx
  split
  · exact h2
  refine (byt_lit rfl).app (Byt.app ?_ (h1.app ((byt_lit rfl).app (h2.app (byt_lit rfl)))))
  split
  · exact byt_lit rfl
  exact byt_lit rfl
 have hkey : ∀ i, i < x.on → Byt (keyTx (x.key i)) := fun i hi => by
  have h1 := vTx_byt (bsF_byt (h.o.2.1 i hi))
  unfold keyTx
  refine Byt.app ?_ h1
  split
  · exact byt_lit rfl
  exact Byt.nil
 have hgr : ∀ i, i < x.gn → Byt (vTx (x.grp i).b) := fun i hi => vTx_byt (bsF_byt (h.g.2.1 i hi))
 unfold qTx
 split
 · exact (byt_lit rfl).app hg
 refine (Byt.app ?_ hg).app ?_
 · unfold headTx disTx starTx
   refine ((((byt_lit rfl).app ?_).app ?_).app (catN_byt hsel)).app (byt_lit rfl)
   · split
     · exact byt_lit rfl
     exact Byt.nil
   split
   · exact byt_lit rfl
   exact Byt.nil
 unfold tailTx grpTx ordTx limTx offTx
 refine ((((Byt.app ?_ (catN_byt hgr)).app ?_).app (catN_byt hkey)).app ?_).app ?_
 · split
   · exact byt_lit rfl
   exact Byt.nil
 · split
   · exact byt_lit rfl
   exact Byt.nil
 · split
   · exact (byt_lit rfl).app (numTx_byt _)
   exact Byt.nil
 split
 · exact (byt_lit rfl).app (numTx_byt _)
 exact Byt.nil
def TqR (w : World) (ok : Bool) (L : List Int) (e : Ending) (w' : World) : Prop := ∃ a cap, e = .returned (.tuple #[.slice a L.length cap, .bool ok]) ∧ Nw w' w.heap.size a L.length L ∧ Bl w w'
def TqT (x : QY) (ok : Bool) (L : List Int) : Prop := (QOK x ∧ ok = true ∧ L = qTx x) ∨ (¬ QOK x ∧ ok = false ∧ L = [])
theorem tqT_some (x : QY) : ∃ ok L, TqT x ok L := by
 by_cases h : QOK x
 · exact ⟨true, _, .inl ⟨h, rfl, rfl⟩⟩
 exact ⟨false, _, .inr ⟨h, rfl, rfl⟩⟩
theorem TqT.len {x : QY} {ok : Bool} {L : List Int} (h : TqT x ok L) : L.length ≤ 2000 := by
 rcases h with ⟨h, _, rfl⟩ | ⟨_, _, rfl⟩
 · exact h.2
 exact nZ
theorem specQueryText_any (x : QY) (w : World) (hx : x.lies 0 w) (hcp : ∀ i, i < x.bn → (x.body i).caps) (hbc : x.bn ≤ x.bc) (hgc : x.gn ≤ x.gc) (ok : Bool) (L : List Int) (hT : TqT x ok L) : Calls Tryz.prog 17 #[.agg x.ar] w (TqR w ok L) := by
 have HOK : Hd (∀ W, Bl w W → Cl 15 #[.agg x.ar] W (Tells (QOK x) W)) := fun W hb => specQueryOk_any x W (hx.below hb) hcp hbc hgc
 have HTO : Hd (∀ W, Bl w W → qOk x → Cl 41 #[.agg x.ar] W (MadeT W (qTx x))) := fun W hb hq => l4text_any x W (hx.below hb) hq.say.1
 have HX0 : Hd (Box (w.alloc (.cells x.ar 34)) w.heap.size x.cl) := Box.new w x.ar 34 (0, 0)
 have HB0 : Hd (Bl w (w.alloc (.cells x.ar 34))) := bl_a _
 have HBY : Hd (QOK x → Byt (qTx x)) := fun h => qTx_byt hx h.1.say.1.b
 have HTT := iH hT
 obtain ⟨P, hP⟩ : ∃ P : Prop, P = QOK x := ⟨_, rfl⟩
 rw [← hP] at HOK HBY
 have HP : Hd (P ↔ QOK x) := (show (P ↔ _) by rw [hP])
 clear hP hx hT hcp hbc hgc
 go_in
 go_upto_region 1 with fail
 generalize (w.alloc (.cells x.ar 34)) = W1 at *
 have ld := HX0.o.range 0 x.cl rfl
 go_wp2_with (with_reducible refine wpq_at ?_; refine wpList_load_mid rfl 34 _ rfl w.heap.size 0 rfl x.cl _ ld Tryz.underlying34 rfl (by kernel_rfl) ?_; try simp only [Act.put, sA, zA, cA])
 clear ld
 refine (HOK.o _ HB0.o).mono ?_
 rintro e w1 ⟨q1, rfl, hq1, hb1⟩
 have HX1 := iH (HX0.o.below hb1)
 have HB1 := iH (bl_trans HB0.o hb1)
 clear hb1 HX0 HB0
 cases q1
 · have HNO : Hd (ok = false ∧ L = []) := by
    rcases HTT.o with ⟨h, _⟩ | ⟨_, h⟩
    · exact absurd (hq1.2 (HP.o.2 h)) (by simp)
    exact h
   clear hq1
   go_wp2_with fail
   go_ret2
   obtain ⟨h1, h2⟩ := HNO.o
   subst h1 h2
   exact ⟨none, 0, rfl, Nw.nil _ _, HB1.o⟩
 have HYE : Hd (ok = true ∧ L = qTx x) := by
  rcases HTT.o with ⟨_, h⟩ | ⟨h, _⟩
  · exact h
  exact absurd (HP.o.1 (hq1.1 rfl)) h
 have HQ : Hd (QOK x) := HP.o.1 (hq1.1 rfl)
 have lr := HX1.o.range 0 x.cl rfl
 clear hq1
 go_wp2_with (with_reducible refine wpq_at ?_; refine wpList_load_mid rfl 34 _ rfl w.heap.size 0 rfl x.cl _ lr Tryz.underlying34 rfl (by kernel_rfl) ?_; try simp only [Act.put, sA, zA, cA])
 clear lr
 refine (HTO.o _ HB1.o HQ.o.1).mono ?_
 rintro e w7 ⟨v7, rfl, hO7, hb7⟩
 have HB7 := iH (bl_trans HB1.o hb7)
 obtain ⟨a7, c7, e7, hN⟩ := hO7.nw (HBY.o (HP.o.2 HQ.o)) (by have h := HQ.o.2; omega)
 subst e7
 have HN := iH (hN.mono (Nat.le_trans HB1.o.size (Nat.le_succ _)))
 clear hO7 hb7 hN
 go_wp2_with fail
 go_ret2
 obtain ⟨h1, h2⟩ := HYE.o
 subst h1 h2
 exact ⟨a7, c7, rfl, HN.o, HB7.o⟩
theorem implQueryText_any (x : QY) (w : World) (hx : x.lies 0 w) (ht : Tab w) (ok : Bool) (L : List Int) (hT : TqT x ok L) : Calls Tryz.prog 18 #[.agg x.ar] w (TqR w ok L) := by
 have HOK : Hd (∀ W, Bl w W → Cl 16 #[.agg x.ar] W (Tells (QOK x) W)) := fun W hb => implQueryOk_any x W (hx.below hb) (ht.below hb)
 have HTO : Hd (∀ W, Bl w W → qOk x → Cl 46 #[.agg x.ar] W (MadeT W (qTx x))) := fun W hb hq => textOf_any x W (hx.below hb) hq.say.1 hq.say.2.1 hq.say.2.2 (ht.below hb)
 have HX0 : Hd (Box (w.alloc (.cells x.ar 34)) w.heap.size x.cl) := Box.new w x.ar 34 (0, 0)
 have HB0 : Hd (Bl w (w.alloc (.cells x.ar 34))) := bl_a _
 have HBY : Hd (QOK x → Byt (qTx x)) := fun h => qTx_byt hx h.1.say.1.b
 have HTT := iH hT
 obtain ⟨P, hP⟩ : ∃ P : Prop, P = QOK x := ⟨_, rfl⟩
 rw [← hP] at HOK HBY
 have HP : Hd (P ↔ QOK x) := (show (P ↔ _) by rw [hP])
 clear hP hx hT ht
 go_in
 go_upto_region 1 with fail
 generalize (w.alloc (.cells x.ar 34)) = W1 at *
 have ld := HX0.o.range 0 x.cl rfl
 go_wp2_with (with_reducible refine wpq_at ?_; refine wpList_load_mid rfl 34 _ rfl w.heap.size 0 rfl x.cl _ ld Tryz.underlying34 rfl (by kernel_rfl) ?_; try simp only [Act.put, sA, zA, cA])
 clear ld
 refine (HOK.o _ HB0.o).mono ?_
 rintro e w1 ⟨q1, rfl, hq1, hb1⟩
 have HX1 := iH (HX0.o.below hb1)
 have HB1 := iH (bl_trans HB0.o hb1)
 clear hb1 HX0 HB0
 cases q1
 · have HNO : Hd (ok = false ∧ L = []) := by
    rcases HTT.o with ⟨h, _⟩ | ⟨_, h⟩
    · exact absurd (hq1.2 (HP.o.2 h)) (by simp)
    exact h
   clear hq1
   go_wp2_with fail
   go_ret2
   obtain ⟨h1, h2⟩ := HNO.o
   subst h1 h2
   exact ⟨none, 0, rfl, Nw.nil _ _, HB1.o⟩
 have HYE : Hd (ok = true ∧ L = qTx x) := by
  rcases HTT.o with ⟨_, h⟩ | ⟨h, _⟩
  · exact h
  exact absurd (HP.o.1 (hq1.1 rfl)) h
 have HQ : Hd (QOK x) := HP.o.1 (hq1.1 rfl)
 have lr := HX1.o.range 0 x.cl rfl
 clear hq1
 go_wp2_with (with_reducible refine wpq_at ?_; refine wpList_load_mid rfl 34 _ rfl w.heap.size 0 rfl x.cl _ lr Tryz.underlying34 rfl (by kernel_rfl) ?_; try simp only [Act.put, sA, zA, cA])
 clear lr
 refine (HTO.o _ HB1.o HQ.o.1).mono ?_
 rintro e w7 ⟨v7, rfl, hO7, hb7⟩
 have HB7 := iH (bl_trans HB1.o hb7)
 obtain ⟨a7, c7, e7, hN⟩ := hO7.nw (HBY.o (HP.o.2 HQ.o)) (by have h := HQ.o.2; omega)
 subst e7
 have HN := iH (hN.mono (Nat.le_trans HB1.o.size (Nat.le_succ _)))
 clear hO7 hb7 hN
 go_wp2_with fail
 go_ret2
 obtain ⟨h1, h2⟩ := HYE.o
 subst h1 h2
 exact ⟨a7, c7, rfl, HN.o, HB7.o⟩
end Go.Proofs.YthljoojcpbignaaGreatDoor
