import Derived.Test.YthljoojcpbignaaGreatDoorMk35
import Derived.Test.YthljoojcpbignaaGreatDoorMk40
import Derived.Test.YthljoojcpbignaaGreatDoorMk39
import Derived.Test.YthljoojcpbignaaGreatDoorMk01
import Derived.Test.YthljoojcpbignaaGreatDoorMk31
import Derived.Test.YthljoojcpbignaaGreatDoorMk16
namespace Go.Proofs.YthljoojcpbignaaGreatDoor
/- UvP -/
open Go.RowKit Go.Deep
set_option maxHeartbeats 40000000
set_option maxRecDepth 100000
theorem wpq_stopd {P : Program} {ops : Array Oper} {rest : List Oper} {op : Oper} {a : Act} {w : World} {Q : Exit → Act → World → Prop} (ty : TypeId) (x : Operand) (d : Nat) (_ : op.op = .load ty x) (_ : op.dst = some d) (h : Hid (wpList P ops Q (op :: rest) a w)) : wpList P ops Q (op :: rest) a w := h
theorem sumN_mul {n m : Nat} {f g : Nat → Nat} (h : ∀ i, i < n → f i ≤ m * g i) : sumN n f ≤ m * sumN n g := by
 induction n with
 | zero => exact Nat.zero_le _
 | succ n ih =>
   have h1 := ih (fun i hi => h i (by omega))
   have h2 := h n (by omega)
   show sumN n f + f n ≤ m * (sumN n g + g n)
   rw [Nat.mul_add]
   omega
theorem qOk_iff (x : QY) : qOk x ↔ bodyOk x ∧ (gV x.bn x.body []).length ≤ 8 ∧ gBd x.bn x.body ∧ (x.ask = true → BareQ x) ∧ (x.ask = false → SelA (gV x.bn x.body []) x) := by
 constructor
 · intro h
   exact ⟨h.b, h.v, h.d, h.a, fun ha => ⟨⟨h.n.1, (h.s ha).s⟩, ⟨h.n.2.1, (h.s ha).g, (h.s ha).p⟩, ⟨h.n.2.2.1, (h.s ha).o⟩, h.n.2.2.2.1, h.n.2.2.2.2⟩⟩
 rintro ⟨hb, hv, hd, ha, hs⟩
 refine ⟨hb, hd, hv, ?_, ha, fun h => ⟨(hs h).1.2, (hs h).2.1.2.1, (hs h).2.1.2.2, (hs h).2.2.1.2⟩⟩
 cases hh : x.ask with
 | true =>
   obtain ⟨_, h1, h2, h3, h4, h5⟩ := ha hh
   omega
 | false =>
   obtain ⟨h1, h2, h3, h4, h5⟩ := hs hh
   exact ⟨h1.1, h2.1, h3.1, h4, h5⟩
theorem outs_mem {x : QY} {k : Nat} {v : List Int} (h : v ∈ outs x k) : ∃ i, i < k ∧ v = sV x i := by
 induction k with
 | zero => cases h
 | succ k ih =>
   rcases List.mem_append.1 h with h | h
   · obtain ⟨i, hi, e⟩ := ih h
     exact ⟨i, by omega, e⟩
   exact ⟨k, by omega, List.mem_singleton.1 h⟩
theorem qOk.say {x : QY} (h : qOk x) : SayQ x ∧ (∀ i, i < x.sn → (x.sel i).fn = 0 ∨ (x.sel i).fn = 1 ∨ (x.sel i).fn = 2) ∧ (x.ask = true → tailTx x = []) := by
 have hN := gV_name h.b.1
 have ht : x.ask = true → tailTx x = [] := fun ha => by
   obtain ⟨_, _, h2, h3, h4, h5⟩ := h.a ha
   unfold tailTx grpTx ordTx limTx offTx
   rw [h2, h3, h4, h5]
   rfl
 cases hh : x.ask with
 | true =>
   obtain ⟨_, h1, h2, h3, h4, h5⟩ := h.a hh
   refine ⟨⟨h.b, ⟨by omega, fun i hi => by omega⟩, ⟨by omega, fun i hi => by omega⟩, ⟨by omega, fun i hi => by omega⟩, by omega, by omega⟩, fun i hi => by omega, fun _ => ht hh⟩
 | false =>
   have hs := h.s hh
   have hv : ∀ i, i < x.sn → nameOk (x.sel i).v.b = true ∧ ((x.sel i).fn ≠ 0 → nameOk (x.sel i).of.b = true) := fun i hi => by
     rcases (hs.s i hi).2 with ⟨h0, _, hm⟩ | ⟨_, hm, hn, _⟩
     · exact ⟨hN _ hm, fun e => absurd h0 e⟩
     exact ⟨hn, fun _ => hN _ hm⟩
   refine ⟨⟨h.b, ⟨h.n.1, hv⟩, ⟨h.n.2.1, fun i hi => hN _ (hs.g i hi).1⟩, ⟨h.n.2.2.1, fun i hi => ?_⟩, h.n.2.2.2.1, h.n.2.2.2.2⟩, fun i hi => ?_, fun e => by cases e⟩
   · have h1 := hs.o i hi
     split at h1
     · exact hN _ h1
     obtain ⟨j, hj, e⟩ := outs_mem h1
     rw [e]
     exact (hv j hj).1
   rcases (hs.s i hi).2 with ⟨h0, _⟩ | ⟨h0 | h0, _⟩
   · exact .inl h0
   · exact .inr (.inl h0)
   exact .inr (.inr h0)
def QOK (x : QY) : Prop := qOk x ∧ (qTx x).length ≤ 2000
theorem Own8.slice {w : World} {B n : Nat} {v : Value} {bs : List Int} (h : Own8 w B v n bs) : ∃ a cap, v = .slice a n cap := by
 rcases h.1.2 with ⟨hv, hn⟩ | ⟨g, cap, cur, hv, _⟩
 · exact ⟨none, 0, by rw [hv, hn]⟩
 exact ⟨_, cap, hv⟩
theorem queryOk_ask (x : QY) (w : World) (hx : x.lies 0 w) (ht : Tab w) (ha : x.ask = true) : Calls Tryz.prog 16 #[.agg #[.bool x.ask, .bool x.dis, .slice x.sa x.sn x.sc, .slice x.ba x.bn x.bc, .slice x.ga x.gn x.gc, .slice x.oa x.on x.oc, .int .i64 x.lim, .int .i64 x.off]] w (Tells (QOK x) w) := by
 have HGO := hid (fun W (hb : Bl w W) (hc : Ctr W _ 120) => groupOkP_of x.ba x.bc x.bn x.body 1 120 (w.heap.size + 1) w W hx.b.2.2 hx.b.1 hb (Nat.le_succ _) hc (by omega) (by omega) fun i hi L' W' hb' hc' h0 h1 => elemOkP_any (x.body i) 1 L' _ w W' (hx.b.2.1 i hi) hb' (Nat.le_succ _) hc' (by omega) (by omega) h0 h1)
 have HUC : Hid (bodyOk x → sumN x.bn (fun i => uc (x.body i)) ≤ 1000000 ∧ ∀ i, i < x.bn → uc (x.body i) ≤ 1000000) := fun hb => by
   have h1 := sumN_mul (n := x.bn) (m := 5) (f := fun i => uc (x.body i)) (g := fun i => usz (x.body i)) (fun i hi => uc_le (hb.1 i hi))
   have h2 := hb.2
   refine ⟨by omega, fun i hi => ?_⟩
   have h3 := sumN_mono (f := fun i => uc (x.body i)) (show i + 1 ≤ x.bn by omega)
   have h4 : sumN (i + 1) (fun i => uc (x.body i)) = sumN i (fun i => uc (x.body i)) + uc (x.body i) := rfl
   omega
 have HVO := hid (fun W (hb : Bl w W) (hB : bodyOk x) => varsOf_any x.ba x.bc x.bn x.body w W hx.b.2.2 hx.b.1 hx.b.2.1 hb (HUC.out hB).1)
 have HBA := hid (fun W (hb : Bl w W) (hB : bodyOk x) => bindsAfresh_of x.ba x.bc x.bn x.body w W hx.b.2.2 hx.b.1 hx.b.2.1 hb (HUC.out hB).1 fun i hi => bindsAfresh_any (x.body i) w (hx.b.2.1 i hi) ((HUC.out hB).2 i hi))
 have HBR : Hid (∀ W, Cl 44 #[.agg #[.bool true, .bool x.dis, .slice x.sa x.sn x.sc, .slice x.ba x.bn x.bc, .slice x.ga x.gn x.gc, .slice x.oa x.on x.oc, .int .i64 x.lim, .int .i64 x.off]] W (Tells ((x.ask = true → BareQ x) ∧ (x.ask = false → SelA (gV x.bn x.body []) x)) W)) := fun W => by
   have h1 := isBareQ_any x W
   unfold QY.ar at h1
   rw [ha] at h1 ⊢
   refine h1.mono fun e w' h => ?_
   obtain ⟨q, h2, h3, h4⟩ := h
   exact ⟨q, h2, ⟨fun hq => ⟨fun _ => h3.1 hq, fun e => by cases e⟩, fun hh => h3.2 (hh.1 rfl)⟩, h4⟩
 have HTO : Hid (∀ W, Bl w W → qOk x → Cl 46 #[.agg #[.bool true, .bool x.dis, .slice x.sa x.sn x.sc, .slice x.ba x.bn x.bc, .slice x.ga x.gn x.gc, .slice x.oa x.on x.oc, .int .i64 x.lim, .int .i64 x.off]] W (MadeT W (qTx x))) := fun W hb hq => by
   have h1 := textOf_any x W (hx.below hb) hq.say.1 hq.say.2.1 hq.say.2.2 (ht.below hb)
   unfold QY.ar at h1
   rw [ha] at h1
   exact h1
 have HX1 := hid (Box.new w #[.bool true, .bool x.dis, .slice x.sa x.sn x.sc, .slice x.ba x.bn x.bc, .slice x.ga x.gn x.gc, .slice x.oa x.on x.oc, .int .i64 x.lim, .int .i64 x.off] 34 (0, 0))
 have HB1 : Hid (Bl w (w.alloc (.cells #[.bool true, .bool x.dis, .slice x.sa x.sn x.sc, .slice x.ba x.bn x.bc, .slice x.ga x.gn x.gc, .slice x.oa x.on x.oc, .int .i64 x.lim, .int .i64 x.off] 34))) := bl_a _
 have HX2 : Hid (Box ((w.alloc (.cells #[.bool true, .bool x.dis, .slice x.sa x.sn x.sc, .slice x.ba x.bn x.bc, .slice x.ga x.gn x.gc, .slice x.oa x.on x.oc, .int .i64 x.lim, .int .i64 x.off] 34)).alloc (.cells #[.int .i64 120] 66)) w.heap.size [.bool true, .bool x.dis, .slice x.sa x.sn x.sc, .slice x.ba x.bn x.bc, .slice x.ga x.gn x.gc, .slice x.oa x.on x.oc, .int .i64 x.lim, .int .i64 x.off]) := HX1.out.below (bl_a _)
 have HB2 : Hid (Bl w ((w.alloc (.cells #[.bool true, .bool x.dis, .slice x.sa x.sn x.sc, .slice x.ba x.bn x.bc, .slice x.ga x.gn x.gc, .slice x.oa x.on x.oc, .int .i64 x.lim, .int .i64 x.off] 34)).alloc (.cells #[.int .i64 120] 66))) := bl_trans HB1.out (bl_a _)
 have HC2 : Hid (Ctr ((w.alloc (.cells #[.bool true, .bool x.dis, .slice x.sa x.sn x.sc, .slice x.ba x.bn x.bc, .slice x.ga x.gn x.gc, .slice x.oa x.on x.oc, .int .i64 x.lim, .int .i64 x.off] 34)).alloc (.cells #[.int .i64 120] 66)) (w.heap.size + 1) 120) := ⟨by simp, by simp [go_sem], by simp [go_sem]⟩
 have HQI := hid (qOk_iff x)
 obtain ⟨P, hP⟩ : ∃ P : Prop, P = QOK x := ⟨_, rfl⟩
 have HP : Hid (P ↔ bodyOk x ∧ (gV x.bn x.body []).length ≤ 8 ∧ gBd x.bn x.body ∧ ((x.ask = true → BareQ x) ∧ (x.ask = false → SelA (gV x.bn x.body []) x)) ∧ (qTx x).length ≤ 2000) := (show (P ↔ _) by
   rw [hP]
   unfold QOK
   rw [qOk_iff]
   exact ⟨fun h => ⟨h.1.1, h.1.2.1, h.1.2.2.1, h.1.2.2.2, h.2⟩, fun h => ⟨⟨h.1, h.2.1, h.2.2.1, h.2.2.2.1⟩, h.2.2.2.2⟩⟩)
 rw [← hP, ha]
 clear hP hx ht HX1 HB1 HUC
 go_in
 go_upto_region 2 with fail
 generalize ((w.alloc (.cells #[.bool true, .bool x.dis, .slice x.sa x.sn x.sc, .slice x.ba x.bn x.bc, .slice x.ga x.gn x.gc, .slice x.oa x.on x.oc, .int .i64 x.lim, .int .i64 x.off] 34)).alloc (.cells #[.int .i64 120] 66)) = W2 at *
 have y3 := HX2.out.2 3 _ rfl
 go_wp2_with fail
 refine (HGO.out _ HB2.out HC2.out).mono ?_
 rintro e w3 ⟨q3, L3, rfl, hq3, _, _, hp3⟩
 have HX3 := hid (HX2.out.past hp3 (by omega))
 have HB3 := hid (HB2.out.trans (hp3.below (Nat.le_succ _) HB2.out.size))
 clear hp3 HX2 HB2 HC2 y3 HGO
 cases q3
 · have HNO : Hid (¬ P) := fun hh => by
     have hB := (HP.out.1 hh).1
     have h := hq3.2 ⟨hB.1, by have := hB.2; omega⟩
     cases h
   clear hq3
   go_wp2_with fail
   go_ret
   exact Tells.no HNO.out HB3.out
 have HB : Hid (bodyOk x) := (show _ ∧ _ by have h := hq3.1 rfl; exact ⟨h.1, by have := h.2; omega⟩)
 have y3 := HX3.out.2 3 _ rfl
 clear hq3
 go_wp2_with fail
 refine (HVO.out _ HB3.out HB.out).mono ?_
 rintro e w4 ⟨v4, L4, rfl, hV4, hR4, hb4⟩
 have HX4 := hid (HX3.out.below hb4)
 have HB4 := hid (bl_trans HB3.out hb4)
 have HR4 := hid hR4
 obtain ⟨va4, vc4, hva4, _⟩ := hV4.form
 subst hva4
 have HV4 := hid hV4
 clear hV4 hR4 hb4 HX3 HB3 y3
 by_cases h8 : L4.length ≤ 8
 rotate_left
 · have HNO : Hid (¬ P) := fun hh => h8 (by have h := (HP.out.1 hh).2.1; rw [← HR4.out, List.length_map] at h; exact h)
   obtain ⟨nv, hnv⟩ : ∃ nv, nv = L4.length := ⟨_, rfl⟩
   rw [← hnv] at h8 ⊢
   have hz : (nv : Int) > 8 := by omega
   clear hnv h8
   go_wp2_with fail
   go_ret
   exact Tells.no HNO.out HB4.out
 have HL8 : Hid ((gV x.bn x.body []).length ≤ 8) := (show _ ≤ _ by rw [← HR4.out, List.length_map]; exact h8)
 obtain ⟨nv, hnv⟩ : ∃ nv, nv = L4.length := ⟨_, rfl⟩
 rw [← hnv] at h8 HV4 ⊢
 have hz : ¬ (nv : Int) > 8 := by omega
 have HNV := hid hnv.symm
 have y3 := HX4.out.2 3 _ rfl
 clear h8 hnv
 go_wp2_with fail
 refine (HBA.out _ HB4.out HB.out).mono ?_
 rintro e w5 ⟨q5, rfl, hq5, hb5⟩
 have HX5 := hid (HX4.out.below hb5)
 have HB5 := hid (bl_trans HB4.out hb5)
 have HV5 := hid (HV4.out.below hb5)
 clear hb5 HX4 HB4 y3 HV4
 cases q5
 · have HNO : Hid (¬ P) := fun hh => by have h := hq5.2 ((gBda_iff HB.out.1).2 (HP.out.1 hh).2.2.1); cases h
   clear hq5
   go_wp2_with fail
   go_ret
   exact Tells.no HNO.out HB5.out
 have HGB := hid ((gBda_iff HB.out.1).1 (hq5.1 rfl))
 clear hq5
 have y0 := HX5.out.2 0 _ rfl
 have lr := HX5.out.range 0 [.bool true, .bool x.dis, .slice x.sa x.sn x.sc, .slice x.ba x.bn x.bc, .slice x.ga x.gn x.gc, .slice x.oa x.on x.oc, .int .i64 x.lim, .int .i64 x.off] rfl
 go_wp2_with (with_reducible refine wpq_at ?_; refine wpq_stopd 34 _ 26 rfl rfl ?_)
 change wpList _ _ _ _ _ _
 refine wpq_load ?hw 34 _ rfl w.heap.size 0 rfl [.bool true, .bool x.dis, .slice x.sa x.sn x.sc, .slice x.ba x.bn x.bc, .slice x.ga x.gn x.gc, .slice x.oa x.on x.oc, .int .i64 x.lim, .int .i64 x.off] _ lr Tryz.underlying34 rfl (by kernel_rfl) ?_
 case hw => rfl
 simp only [Act.put, sA, zA, cA]
 go_wp2_with fail
 refine (HBR.out _).mono ?_
 rintro e w6 ⟨q6, rfl, hq6, hb6⟩
 have HX6 := hid (HX5.out.below hb6)
 have HB6 := hid (bl_trans HB5.out hb6)
 clear hb6 HX5 HB5 lr y0
 cases q6
 · have HNO : Hid (¬ P) := fun hh => by have h := hq6.2 ((HP.out.1 hh).2.2.2.1); cases h
   have y0 := HX6.out.2 0 _ rfl
   clear hq6
   go_wp2_with fail
   go_ret
   exact Tells.no HNO.out HB6.out
 have HOK := hid (HQI.out.2 ⟨HB.out, HL8.out, HGB.out, hq6.1 rfl⟩)
 have y0 := HX6.out.2 0 _ rfl
 have ld := HX6.out.range 0 [.bool true, .bool x.dis, .slice x.sa x.sn x.sc, .slice x.ba x.bn x.bc, .slice x.ga x.gn x.gc, .slice x.oa x.on x.oc, .int .i64 x.lim, .int .i64 x.off] rfl
 clear hq6
 go_wp2_with (with_reducible refine wpq_at ?_; refine wpList_load_mid rfl 34 _ rfl w.heap.size 0 rfl [.bool true, .bool x.dis, .slice x.sa x.sn x.sc, .slice x.ba x.bn x.bc, .slice x.ga x.gn x.gc, .slice x.oa x.on x.oc, .int .i64 x.lim, .int .i64 x.off] _ ld Tryz.underlying34 rfl (by kernel_rfl) ?_; try simp only [Act.put, sA, zA, cA])
 clear ld y0
 refine (HTO.out _ HB6.out HOK.out).mono ?_
 rintro e w7 ⟨v7, rfl, hO7, hb7⟩
 have HB7 := hid (bl_trans HB6.out hb7)
 obtain ⟨a7, c7, e7⟩ := hO7.slice
 subst e7
 have HPT : Hid (P ↔ (qTx x).length ≤ 2000) := ⟨fun h => (HP.out.1 h).2.2.2.2, fun h => HP.out.2 ⟨HB.out, HL8.out, HGB.out, (HQI.out.1 HOK.out).2.2.2, h⟩⟩
 clear hO7 hb7
 generalize (qTx x).length = n at *
 by_cases h2 : n ≤ 2000
 · have HY := hid (HPT.out.2 h2)
   have hz : (n : Int) ≤ 2000 := by omega
   clear h2
   go_wp2_with fail
   go_ret
   exact Tells.yes HY.out HB7.out
 have HNO : Hid (¬ P) := fun h => h2 (HPT.out.1 h)
 have hz : decide ((n : Int) ≤ 2000) = false := decide_eq_false (by omega)
 clear h2
 go_wp2_with fail
 go_ret
 exact Tells.no HNO.out HB7.out
theorem queryOk_sel (x : QY) (w : World) (hx : x.lies 0 w) (ht : Tab w) (ha : x.ask = false) : Calls Tryz.prog 16 #[.agg #[.bool x.ask, .bool x.dis, .slice x.sa x.sn x.sc, .slice x.ba x.bn x.bc, .slice x.ga x.gn x.gc, .slice x.oa x.on x.oc, .int .i64 x.lim, .int .i64 x.off]] w (Tells (QOK x) w) := by
 have HGO := hid (fun W (hb : Bl w W) (hc : Ctr W _ 120) => groupOkP_of x.ba x.bc x.bn x.body 1 120 (w.heap.size + 1) w W hx.b.2.2 hx.b.1 hb (Nat.le_succ _) hc (by omega) (by omega) fun i hi L' W' hb' hc' h0 h1 => elemOkP_any (x.body i) 1 L' _ w W' (hx.b.2.1 i hi) hb' (Nat.le_succ _) hc' (by omega) (by omega) h0 h1)
 have HUC : Hid (bodyOk x → sumN x.bn (fun i => uc (x.body i)) ≤ 1000000 ∧ ∀ i, i < x.bn → uc (x.body i) ≤ 1000000) := fun hb => by
   have h1 := sumN_mul (n := x.bn) (m := 5) (f := fun i => uc (x.body i)) (g := fun i => usz (x.body i)) (fun i hi => uc_le (hb.1 i hi))
   have h2 := hb.2
   refine ⟨by omega, fun i hi => ?_⟩
   have h3 := sumN_mono (f := fun i => uc (x.body i)) (show i + 1 ≤ x.bn by omega)
   have h4 : sumN (i + 1) (fun i => uc (x.body i)) = sumN i (fun i => uc (x.body i)) + uc (x.body i) := rfl
   omega
 have HVO := hid (fun W (hb : Bl w W) (hB : bodyOk x) => varsOf_any x.ba x.bc x.bn x.body w W hx.b.2.2 hx.b.1 hx.b.2.1 hb (HUC.out hB).1)
 have HBA := hid (fun W (hb : Bl w W) (hB : bodyOk x) => bindsAfresh_of x.ba x.bc x.bn x.body w W hx.b.2.2 hx.b.1 hx.b.2.1 hb (HUC.out hB).1 fun i hi => bindsAfresh_any (x.body i) w (hx.b.2.1 i hi) ((HUC.out hB).2 i hi))
 have HSO : Hid (∀ W B va L, L.map SL.b = gV x.bn x.body [] → L.length ≤ 8 → bodyOk x → VL w W B va L → Bl w W → Cl 45 #[.agg #[.bool false, .bool x.dis, .slice x.sa x.sn x.sc, .slice x.ba x.bn x.bc, .slice x.ga x.gn x.gc, .slice x.oa x.on x.oc, .int .i64 x.lim, .int .i64 x.off], va] W (Tells ((x.ask = true → BareQ x) ∧ (x.ask = false → SelA (gV x.bn x.body []) x)) W)) := fun W B va L hR hl hB hV hb => by
   have h1 := selectOk_any x va L (gV x.bn x.body []) B w W hx hV hb hR (by omega) (gV_name hB.1)
   unfold QY.ar at h1
   rw [ha] at h1 ⊢
   refine h1.mono fun e w' h => ?_
   obtain ⟨q, h2, h3, h4⟩ := h
   exact ⟨q, h2, ⟨fun hq => ⟨fun e => (by cases e), fun _ => h3.1 hq⟩, fun hh => h3.2 (hh.2 rfl)⟩, h4⟩
 have HTO : Hid (∀ W, Bl w W → qOk x → Cl 46 #[.agg #[.bool false, .bool x.dis, .slice x.sa x.sn x.sc, .slice x.ba x.bn x.bc, .slice x.ga x.gn x.gc, .slice x.oa x.on x.oc, .int .i64 x.lim, .int .i64 x.off]] W (MadeT W (qTx x))) := fun W hb hq => by
   have h1 := textOf_any x W (hx.below hb) hq.say.1 hq.say.2.1 hq.say.2.2 (ht.below hb)
   unfold QY.ar at h1
   rw [ha] at h1
   exact h1
 have HX1 := hid (Box.new w #[.bool false, .bool x.dis, .slice x.sa x.sn x.sc, .slice x.ba x.bn x.bc, .slice x.ga x.gn x.gc, .slice x.oa x.on x.oc, .int .i64 x.lim, .int .i64 x.off] 34 (0, 0))
 have HB1 : Hid (Bl w (w.alloc (.cells #[.bool false, .bool x.dis, .slice x.sa x.sn x.sc, .slice x.ba x.bn x.bc, .slice x.ga x.gn x.gc, .slice x.oa x.on x.oc, .int .i64 x.lim, .int .i64 x.off] 34))) := bl_a _
 have HX2 : Hid (Box ((w.alloc (.cells #[.bool false, .bool x.dis, .slice x.sa x.sn x.sc, .slice x.ba x.bn x.bc, .slice x.ga x.gn x.gc, .slice x.oa x.on x.oc, .int .i64 x.lim, .int .i64 x.off] 34)).alloc (.cells #[.int .i64 120] 66)) w.heap.size [.bool false, .bool x.dis, .slice x.sa x.sn x.sc, .slice x.ba x.bn x.bc, .slice x.ga x.gn x.gc, .slice x.oa x.on x.oc, .int .i64 x.lim, .int .i64 x.off]) := HX1.out.below (bl_a _)
 have HB2 : Hid (Bl w ((w.alloc (.cells #[.bool false, .bool x.dis, .slice x.sa x.sn x.sc, .slice x.ba x.bn x.bc, .slice x.ga x.gn x.gc, .slice x.oa x.on x.oc, .int .i64 x.lim, .int .i64 x.off] 34)).alloc (.cells #[.int .i64 120] 66))) := bl_trans HB1.out (bl_a _)
 have HC2 : Hid (Ctr ((w.alloc (.cells #[.bool false, .bool x.dis, .slice x.sa x.sn x.sc, .slice x.ba x.bn x.bc, .slice x.ga x.gn x.gc, .slice x.oa x.on x.oc, .int .i64 x.lim, .int .i64 x.off] 34)).alloc (.cells #[.int .i64 120] 66)) (w.heap.size + 1) 120) := ⟨by simp, by simp [go_sem], by simp [go_sem]⟩
 have HQI := hid (qOk_iff x)
 obtain ⟨P, hP⟩ : ∃ P : Prop, P = QOK x := ⟨_, rfl⟩
 have HP : Hid (P ↔ bodyOk x ∧ (gV x.bn x.body []).length ≤ 8 ∧ gBd x.bn x.body ∧ ((x.ask = true → BareQ x) ∧ (x.ask = false → SelA (gV x.bn x.body []) x)) ∧ (qTx x).length ≤ 2000) := (show (P ↔ _) by
   rw [hP]
   unfold QOK
   rw [qOk_iff]
   exact ⟨fun h => ⟨h.1.1, h.1.2.1, h.1.2.2.1, h.1.2.2.2, h.2⟩, fun h => ⟨⟨h.1, h.2.1, h.2.2.1, h.2.2.2.1⟩, h.2.2.2.2⟩⟩)
 rw [← hP, ha]
 clear hP hx ht HX1 HB1 HUC
 go_in
 go_upto_region 2 with fail
 generalize ((w.alloc (.cells #[.bool false, .bool x.dis, .slice x.sa x.sn x.sc, .slice x.ba x.bn x.bc, .slice x.ga x.gn x.gc, .slice x.oa x.on x.oc, .int .i64 x.lim, .int .i64 x.off] 34)).alloc (.cells #[.int .i64 120] 66)) = W2 at *
 have y3 := HX2.out.2 3 _ rfl
 go_wp2_with fail
 refine (HGO.out _ HB2.out HC2.out).mono ?_
 rintro e w3 ⟨q3, L3, rfl, hq3, _, _, hp3⟩
 have HX3 := hid (HX2.out.past hp3 (by omega))
 have HB3 := hid (HB2.out.trans (hp3.below (Nat.le_succ _) HB2.out.size))
 clear hp3 HX2 HB2 HC2 y3 HGO
 cases q3
 · have HNO : Hid (¬ P) := fun hh => by
     have hB := (HP.out.1 hh).1
     have h := hq3.2 ⟨hB.1, by have := hB.2; omega⟩
     cases h
   clear hq3
   go_wp2_with fail
   go_ret
   exact Tells.no HNO.out HB3.out
 have HB : Hid (bodyOk x) := (show _ ∧ _ by have h := hq3.1 rfl; exact ⟨h.1, by have := h.2; omega⟩)
 have y3 := HX3.out.2 3 _ rfl
 clear hq3
 go_wp2_with fail
 refine (HVO.out _ HB3.out HB.out).mono ?_
 rintro e w4 ⟨v4, L4, rfl, hV4, hR4, hb4⟩
 have HX4 := hid (HX3.out.below hb4)
 have HB4 := hid (bl_trans HB3.out hb4)
 have HR4 := hid hR4
 obtain ⟨va4, vc4, hva4, _⟩ := hV4.form
 subst hva4
 have HV4 := hid hV4
 clear hV4 hR4 hb4 HX3 HB3 y3
 by_cases h8 : L4.length ≤ 8
 rotate_left
 · have HNO : Hid (¬ P) := fun hh => h8 (by have h := (HP.out.1 hh).2.1; rw [← HR4.out, List.length_map] at h; exact h)
   obtain ⟨nv, hnv⟩ : ∃ nv, nv = L4.length := ⟨_, rfl⟩
   rw [← hnv] at h8 ⊢
   have hz : (nv : Int) > 8 := by omega
   clear hnv h8
   go_wp2_with fail
   go_ret
   exact Tells.no HNO.out HB4.out
 have HL8 : Hid ((gV x.bn x.body []).length ≤ 8) := (show _ ≤ _ by rw [← HR4.out, List.length_map]; exact h8)
 obtain ⟨nv, hnv⟩ : ∃ nv, nv = L4.length := ⟨_, rfl⟩
 rw [← hnv] at h8 HV4 ⊢
 have hz : ¬ (nv : Int) > 8 := by omega
 have HNV := hid hnv.symm
 have y3 := HX4.out.2 3 _ rfl
 clear h8 hnv
 go_wp2_with fail
 refine (HBA.out _ HB4.out HB.out).mono ?_
 rintro e w5 ⟨q5, rfl, hq5, hb5⟩
 have HX5 := hid (HX4.out.below hb5)
 have HB5 := hid (bl_trans HB4.out hb5)
 have HV5 := hid (HV4.out.below hb5)
 clear hb5 HX4 HB4 y3 HV4
 cases q5
 · have HNO : Hid (¬ P) := fun hh => by have h := hq5.2 ((gBda_iff HB.out.1).2 (HP.out.1 hh).2.2.1); cases h
   clear hq5
   go_wp2_with fail
   go_ret
   exact Tells.no HNO.out HB5.out
 have HGB := hid ((gBda_iff HB.out.1).1 (hq5.1 rfl))
 clear hq5
 have y0 := HX5.out.2 0 _ rfl
 have lr := HX5.out.range 0 [.bool false, .bool x.dis, .slice x.sa x.sn x.sc, .slice x.ba x.bn x.bc, .slice x.ga x.gn x.gc, .slice x.oa x.on x.oc, .int .i64 x.lim, .int .i64 x.off] rfl
 go_wp2_with (with_reducible refine wpq_at ?_; refine wpq_stopd 34 _ 35 rfl rfl ?_)
 change wpList _ _ _ _ _ _
 refine wpq_load ?hw 34 _ rfl w.heap.size 0 rfl [.bool false, .bool x.dis, .slice x.sa x.sn x.sc, .slice x.ba x.bn x.bc, .slice x.ga x.gn x.gc, .slice x.oa x.on x.oc, .int .i64 x.lim, .int .i64 x.off] _ lr Tryz.underlying34 rfl (by kernel_rfl) ?_
 case hw => rfl
 simp only [Act.put, sA, zA, cA]
 go_wp2_with fail
 refine (HSO.out _ _ _ _ HR4.out (by have h := HL8.out; rw [← HR4.out, List.length_map] at h; exact h) HB.out HV5.out HB5.out).mono ?_
 rintro e w6 ⟨q6, rfl, hq6, hb6⟩
 have HX6 := hid (HX5.out.below hb6)
 have HB6 := hid (bl_trans HB5.out hb6)
 clear hb6 HX5 HB5 lr y0
 cases q6
 · have HNO : Hid (¬ P) := fun hh => by have h := hq6.2 ((HP.out.1 hh).2.2.2.1); cases h
   have y0 := HX6.out.2 0 _ rfl
   clear hq6
   go_wp2_with fail
   go_ret
   exact Tells.no HNO.out HB6.out
 have HOK := hid (HQI.out.2 ⟨HB.out, HL8.out, HGB.out, hq6.1 rfl⟩)
 have y0 := HX6.out.2 0 _ rfl
 have ld := HX6.out.range 0 [.bool false, .bool x.dis, .slice x.sa x.sn x.sc, .slice x.ba x.bn x.bc, .slice x.ga x.gn x.gc, .slice x.oa x.on x.oc, .int .i64 x.lim, .int .i64 x.off] rfl
 clear hq6
 go_wp2_with (with_reducible refine wpq_at ?_; refine wpList_load_mid rfl 34 _ rfl w.heap.size 0 rfl [.bool false, .bool x.dis, .slice x.sa x.sn x.sc, .slice x.ba x.bn x.bc, .slice x.ga x.gn x.gc, .slice x.oa x.on x.oc, .int .i64 x.lim, .int .i64 x.off] _ ld Tryz.underlying34 rfl (by kernel_rfl) ?_; try simp only [Act.put, sA, zA, cA])
 clear ld y0
 refine (HTO.out _ HB6.out HOK.out).mono ?_
 rintro e w7 ⟨v7, rfl, hO7, hb7⟩
 have HB7 := hid (bl_trans HB6.out hb7)
 obtain ⟨a7, c7, e7⟩ := hO7.slice
 subst e7
 have HPT : Hid (P ↔ (qTx x).length ≤ 2000) := ⟨fun h => (HP.out.1 h).2.2.2.2, fun h => HP.out.2 ⟨HB.out, HL8.out, HGB.out, (HQI.out.1 HOK.out).2.2.2, h⟩⟩
 clear hO7 hb7
 generalize (qTx x).length = n at *
 by_cases h2 : n ≤ 2000
 · have HY := hid (HPT.out.2 h2)
   have hz : (n : Int) ≤ 2000 := by omega
   clear h2
   go_wp2_with fail
   go_ret
   exact Tells.yes HY.out HB7.out
 have HNO : Hid (¬ P) := fun h => h2 (HPT.out.1 h)
 have hz : decide ((n : Int) ≤ 2000) = false := decide_eq_false (by omega)
 clear h2
 go_wp2_with fail
 go_ret
 exact Tells.no HNO.out HB7.out
theorem implQueryOk_any (x : QY) (w : World) (hx : x.lies 0 w) (ht : Tab w) : Calls Tryz.prog 16 #[.agg #[.bool x.ask, .bool x.dis, .slice x.sa x.sn x.sc, .slice x.ba x.bn x.bc, .slice x.ga x.gn x.gc, .slice x.oa x.on x.oc, .int .i64 x.lim, .int .i64 x.off]] w (Tells (QOK x) w) := by
 cases ha : x.ask with
 | true => have h := queryOk_ask x w hx ht ha; rw [ha] at h; exact h
 | false => have h := queryOk_sel x w hx ht ha; rw [ha] at h; exact h
/- UtX -/
theorem l4text_any (x : QY) (w : World) (hx : x.lies 0 w) (hs : SayQ x) : Calls Tryz.prog 41 #[.agg #[.bool x.ask, .bool x.dis, .slice x.sa x.sn x.sc, .slice x.ba x.bn x.bc, .slice x.ga x.gn x.gc, .slice x.oa x.on x.oc, .int .i64 x.lim, .int .i64 x.off]] w (MadeT w (qTx x)) := by
 cases ha : x.ask with
 | true => have h := text_ask x w hx hs ha; rw [ha] at h; exact h
 | false => have h := text_sel x w hx hs ha; rw [ha] at h; exact h
theorem specQueryOk_any (x : QY) (w : World) (hx : x.lies 0 w) (hcp : ∀ i, i < x.bn → (x.body i).caps) (hbc : x.bn ≤ x.bc) (hgc : x.gn ≤ x.gc) : Calls Tryz.prog 15 #[.agg x.ar] w (Tells (QOK x) w) := by
 try unfold QY.ar
 have HOK := hid (fun W (hb : Bl w W) => l4ok_any x W (hx.below hb) hcp hbc hgc)
 have HTO := hid (fun W (hb : Bl w W) (hq : qOk x) => l4text_any x W (hx.below hb) hq.say.1)
 have HX0 := hid (Box.new w x.ar 34 (0, 0))
 have HB0 : Hid (Bl w (w.alloc (.cells x.ar 34))) := bl_a _
 obtain ⟨P, hP⟩ : ∃ P : Prop, P = QOK x := ⟨_, rfl⟩
 have HP := hid (show (P ↔ _) by rw [hP])
 rw [← hP]
 clear hP hx hcp hbc hgc
 go_in
 go_upto_region 1 with fail
 generalize (w.alloc (.cells x.ar 34)) = W1 at *
 have ld := HX0.out.range 0 x.cl rfl
 go_wp2_with (with_reducible refine wpq_at ?_; refine wpList_load_mid rfl 34 _ rfl w.heap.size 0 rfl x.cl _ ld Tryz.underlying34 rfl (by kernel_rfl) ?_; try simp only [Act.put, sA, zA, cA])
 clear ld
 refine (HOK.out _ HB0.out).mono ?_
 rintro e w1 ⟨q1, rfl, hq1, hb1⟩
 have HX1 := hid (HX0.out.below hb1)
 have HB1 := hid (bl_trans HB0.out hb1)
 clear hb1 HX0 HB0
 cases q1
 · have HNO : Hid (¬ P) := fun hh => by have h := hq1.2 (HP.out.1 hh).1; cases h
   clear hq1
   go_wp2_with fail
   go_ret
   exact Tells.no HNO.out HB1.out
 have H1 := hid (hq1.1 rfl)
 have lr := HX1.out.range 0 x.cl rfl
 clear hq1
 go_wp2_with (with_reducible refine wpq_at ?_; refine wpq_stopd 34 _ 6 rfl rfl ?_)
 change wpList _ _ _ _ _ _
 refine wpq_load ?hw 34 _ rfl w.heap.size 0 rfl x.cl _ lr Tryz.underlying34 rfl (by kernel_rfl) ?_
 case hw => rfl
 simp only [Act.put, sA, zA, cA]
 clear lr
 go_wp2_with fail
 refine (HTO.out _ HB1.out H1.out).mono ?_
 rintro e w7 ⟨v7, rfl, hO7, hb7⟩
 have HB7 := hid (bl_trans HB1.out hb7)
 obtain ⟨a7, c7, e7⟩ := hO7.slice
 subst e7
 have HPT : Hid (P ↔ (qTx x).length ≤ 2000) := ⟨fun h => (HP.out.1 h).2, fun h => HP.out.2 ⟨H1.out, h⟩⟩
 clear hO7 hb7
 generalize (qTx x).length = n at *
 by_cases h2 : n ≤ 2000
 · have HY := hid (HPT.out.2 h2)
   have hz : decide ((n : Int) ≤ 2000) = true := decide_eq_true (by omega)
   clear h2
   go_wp2_with fail
   go_ret
   exact Tells.yes HY.out HB7.out
 have HNO : Hid (¬ P) := fun h => h2 (HPT.out.1 h)
 have hz : decide ((n : Int) ≤ 2000) = false := decide_eq_false (by omega)
 clear h2
 go_wp2_with fail
 go_ret
 exact Tells.no HNO.out HB7.out
/- UtY -/
theorem tds_like {l l' : List TB} (h : l.map TB.td = l'.map TB.td) : l.length = l'.length ∧ ((∀ x ∈ l, x.td.ok = true) → ∀ x ∈ l', x.td.ok = true) ∧ ∀ i, i < l.length → (tbG l i).td = (tbG l' i).td := by
 have hl : l.length = l'.length := by simpa using congrArg List.length h
 have hi : ∀ i, i < l.length → (tbG l i).td = (tbG l' i).td := fun i hi => by
   have h1 := congrArg (fun m : List TD => m[i]?) h
   simp only [List.getElem?_map] at h1
   rw [(tbG_at hi).1, (tbG_at (show i < l'.length by omega)).1]
   rw [List.getElem?_eq_getElem hi, List.getElem?_eq_getElem (show i < l'.length by omega)] at h1
   simpa using h1
 refine ⟨hl, fun hk x hx => ?_, hi⟩
 obtain ⟨i, hi', rfl⟩ := List.getElem_of_mem hx
 have h1 := hi i (by omega)
 rw [(tbG_at (show i < l.length by omega)).1, (tbG_at hi').1] at h1
 rw [← h1]
 exact hk _ (List.getElem_mem _)
theorem IB.same.sym {x y : IB} (h : x.same y) : y.same x := ⟨h.1.symm, h.2.symm⟩
theorem PB.same.sym {x y : PB} (h : x.same y) : y.same x := ⟨h.1.sym, h.2.1.sym, h.2.2.sym⟩
theorem ET.same.sym {e : ET} : ∀ {e' : ET}, e.same e' → e'.same e := by
 induction e with
 | nil => exact fun h => False.elim h
 | mk d kid ih =>
   intro e' h
   cases e' with
   | nil => exact False.elim h
   | mk d' kid' =>
   obtain ⟨h0, h1, h2, h3, h4, h5⟩ := h
   exact ⟨h0.symm, h1.symm, h2.symm, h3.symm, h4.symm, fun i hi => ih i (h5 i (by omega))⟩
theorem IB.same.tra {x y z : IB} (h : x.same y) (k : y.same z) : x.same z := ⟨h.1.trans k.1, h.2.trans k.2⟩
theorem PB.same.tra {x y z : PB} (h : x.same y) (k : y.same z) : x.same z := ⟨h.1.tra k.1, h.2.1.tra k.2.1, h.2.2.tra k.2.2⟩
theorem ET.same.tra {e : ET} : ∀ {e' e'' : ET}, e.same e' → e'.same e'' → e.same e'' := by
 induction e with
 | nil => exact fun h => False.elim h
 | mk d kid ih =>
   intro e' e'' h k
   cases e' with
   | nil => exact False.elim h
   | mk d' kid' =>
   cases e'' with
   | nil => exact False.elim k
   | mk d'' kid'' =>
   obtain ⟨h0, h1, h2, h3, h4, h5⟩ := h
   obtain ⟨k0, k1, k2, k3, k4, k5⟩ := k
   exact ⟨h0.trans k0, h1.trans k1, h2.trans k2, h3.trans k3, h4.trans k4, fun i hi => ih i (h5 i hi) (k5 i (by omega))⟩
theorem UT.same.sym {e : UT} : ∀ {e' : UT}, e.same e' → e'.same e := by
 induction e with
 | nil => exact fun h => False.elim h
 | mk d ka kb ia ib =>
   intro e' h
   cases e' with
   | nil => exact False.elim h
   | mk d' ka' kb' =>
   obtain ⟨h0, h1, h2, h3, h4, ⟨h5, h6⟩, ⟨h7, h8⟩⟩ := h
   exact ⟨h0.symm, h1.sym, h2.sym, h3.symm, h4.symm, ⟨h5.symm, fun i hi => ia i (h6 i (by omega))⟩, ⟨h7.symm, fun i hi => ib i (h8 i (by omega))⟩⟩
theorem UT.same.tra {e : UT} : ∀ {e' e'' : UT}, e.same e' → e'.same e'' → e.same e'' := by
 induction e with
 | nil => exact fun h => False.elim h
 | mk d ka kb ia ib =>
   intro e' e'' h k
   cases e' with
   | nil => exact False.elim h
   | mk d' ka' kb' =>
   cases e'' with
   | nil => exact False.elim k
   | mk d'' ka'' kb'' =>
   obtain ⟨h0, h1, h2, h3, h4, ⟨h5, h6⟩, ⟨h7, h8⟩⟩ := h
   obtain ⟨k0, k1, k2, k3, k4, ⟨k5, k6⟩, ⟨k7, k8⟩⟩ := k
   exact ⟨h0.trans k0, h1.tra k1, h2.tra k2, h3.trans k3, h4.trans k4, ⟨h5.trans k5, fun i hi => ia i (h6 i hi) (k6 i (by omega))⟩, ⟨h7.trans k7, fun i hi => ib i (h8 i hi) (k8 i (by omega))⟩⟩
theorem QY.same.symm {x y : QY} (h : x.same y) : y.same x :=
 ⟨h.ask.symm, h.dis.symm, ⟨h.s.1.symm, fun i hi => have k := h.s.2 i (by rw [h.s.1]; exact hi); ⟨k.1.symm, k.2.1.symm, k.2.2.symm⟩⟩, ⟨h.b.1.symm, fun i hi => (h.b.2 i (by rw [h.b.1]; exact hi)).sym⟩, ⟨h.g.1.symm, fun i hi => Eq.symm (h.g.2 i (by rw [h.g.1]; exact hi))⟩, ⟨h.o.1.symm, fun i hi => have k := h.o.2 i (by rw [h.o.1]; exact hi); ⟨k.1.symm, k.2.symm⟩⟩, h.lim.symm, h.off.symm⟩
theorem QY.same.trans {x y z : QY} (h : x.same y) (k : y.same z) : x.same z :=
 ⟨h.ask.trans k.ask, h.dis.trans k.dis, ⟨h.s.1.trans k.s.1, fun i hi => have a := h.s.2 i hi; have b := k.s.2 i (by rw [← h.s.1]; exact hi); ⟨a.1.trans b.1, a.2.1.trans b.2.1, a.2.2.trans b.2.2⟩⟩, ⟨h.b.1.trans k.b.1, fun i hi => (h.b.2 i hi).tra (k.b.2 i (by rw [← h.b.1]; exact hi))⟩, ⟨h.g.1.trans k.g.1, fun i hi => Eq.trans (h.g.2 i hi) (k.g.2 i (by rw [← h.g.1]; exact hi))⟩, ⟨h.o.1.trans k.o.1, fun i hi => have a := h.o.2 i hi; have b := k.o.2 i (by rw [← h.o.1]; exact hi); ⟨a.1.trans b.1, a.2.trans b.2⟩⟩, h.lim.trans k.lim, h.off.trans k.off⟩
theorem NodeU.like {d d' : UN} (hk : d.k = d'.k) (hp : d.p.same d'.p) (he : d.e.same d'.e) (hv : d.v.b = d'.v.b) (ht : d.tb.map TB.td = d'.tb.map TB.td) (ha : d.an = d'.an) (hb : d.bn = d'.bn) (h : NodeU d) : NodeU d' := by
 obtain ⟨l1, l2, _⟩ := tds_like ht
 refine ⟨hk ▸ h.k0, hk ▸ h.k6, fun hh => (ptOk_same hp).1 (h.p1 (hk ▸ hh)), fun hh => (zeroP_same hp).1 (h.p0 (hk ▸ hh)), fun hh => (zeroE_same he).1 (h.e0 (hk ▸ hh)), fun hh => ?_, fun hh => ?_, fun hh => ?_, l1 ▸ h.tn, l2 h.tm, fun hh => ?_, fun hh => ?_⟩
 · rw [← hv]; exact h.v1 (hk ▸ hh)
 · rw [← hv]; exact h.v0 (hk ▸ hh)
 · have h0 := h.t0 (hk ▸ hh)
   rw [h0] at l1
   exact List.eq_nil_of_length_eq_zero l1.symm
 · rw [← ha]; exact h.a0 (hk ▸ hh)
 rw [← hb]; exact h.b0 (hk ▸ hh)
theorem uOk_imp {e : UT} : ∀ {e' : UT} {deep : Int}, e.same e' → uOk e deep → uOk e' deep := by
 induction e with
 | nil => exact fun h => False.elim h
 | mk d ka kb ia ib =>
   intro e' deep h
   cases e' with
   | nil => exact False.elim h
   | mk d' ka' kb' =>
   obtain ⟨h0, h1, h2, h3, h4, ⟨h5, h6⟩, ⟨h7, h8⟩⟩ := h
   exact fun hh => ⟨hh.1, hh.2.1.like h0 h1 h2 h3 h4 h5 h7, fun hx => (eOk_same h2).1 (hh.2.2.1 (h0 ▸ hx)), fun i hi => ia i (h6 i (by omega)) (hh.2.2.2.1 i (by omega)), fun i hi => ib i (h8 i (by omega)) (hh.2.2.2.2 i (by omega))⟩
theorem usz_same {e : UT} : ∀ {e' : UT}, e.same e' → usz e = usz e' := by
 induction e with
 | nil => exact fun h => False.elim h
 | mk d ka kb ia ib =>
   intro e' h
   cases e' with
   | nil => exact False.elim h
   | mk d' ka' kb' =>
   obtain ⟨h0, h1, h2, h3, h4, ⟨h5, h6⟩, ⟨h7, h8⟩⟩ := h
   have e1 : ownU d = ownU d' := by
     unfold ownU
     rw [h0, esz_same h2]
   rw [usz_mk, usz_mk, e1, ← h5, ← h7, sumN_congr (fun i hi => ia i (h6 i hi)), sumN_congr (fun i hi => ib i (h8 i hi))]
theorem ptV_like {x y : PB} (h : x.same y) (l : List (List Int)) : ptV x l = ptV y l := by
 show addV (addV (addV l x.s.v.b) x.p.v.b) x.o.v.b = addV (addV (addV l y.s.v.b) y.p.v.b) y.o.v.b
 rw [h.1.1, h.2.1.1, h.2.2.1]
theorem uV_same {e : UT} : ∀ {e' : UT} (l : List (List Int)), e.same e' → uV e l = uV e' l := by
 induction e with
 | nil => exact fun l h => False.elim h
 | mk d ka kb ia ib =>
   intro e' l h
   cases e' with
   | nil => exact False.elim h
   | mk d' ka' kb' =>
   obtain ⟨h0, h1, h2, h3, h4, ⟨h5, h6⟩, ⟨h7, h8⟩⟩ := h
   show foldN d.bn _ (foldN d.an _ (addV (eV d.e (ptV d.p l)) d.v.b)) = foldN d'.bn _ (foldN d'.an _ (addV (eV d'.e (ptV d'.p l)) d'.v.b))
   rw [← h5, ← h7, ← h3, ptV_like h1, eV_same h2, foldN_congr (fun i hi a => ia i a (h6 i hi)), foldN_congr (fun i hi a => ib i a (h8 i hi))]
theorem gV_same {n : Nat} {f f' : Nat → UT} (h : ∀ i, i < n → (f i).same (f' i)) (l : List (List Int)) : gV n f l = gV n f' l := foldN_congr (fun i hi a => uV_same a (h i hi)) l
theorem bV_same {e : UT} : ∀ {e' : UT} (l : List (List Int)), e.same e' → bV e l = bV e' l := by
 induction e with
 | nil => exact fun l h => False.elim h
 | mk d ka kb ia ib =>
   intro e' l h
   cases e' with
   | nil => exact False.elim h
   | mk d' ka' kb' =>
   obtain ⟨h0, h1, h2, h3, h4, ⟨h5, h6⟩, ⟨h7, h8⟩⟩ := h
   show (if d.k = 1 ∨ d.k = 2 then foldN d.bn _ (foldN d.an _ (addV (ptV d.p l) d.v.b)) else addV (ptV d.p l) d.v.b) = if d'.k = 1 ∨ d'.k = 2 then foldN d'.bn _ (foldN d'.an _ (addV (ptV d'.p l) d'.v.b)) else addV (ptV d'.p l) d'.v.b
   rw [← h0, ← h5, ← h7, ← h3, ptV_like h1, foldN_congr (fun i hi a => ia i a (h6 i hi)), foldN_congr (fun i hi a => ib i a (h8 i hi))]
theorem UT.same.kv {e e' : UT} (h : e.same e') : e.d.k = e'.d.k ∧ e.d.v.b = e'.d.v.b := by
 cases e with
 | nil => exact False.elim h
 | mk d ka kb =>
   cases e' with
   | nil => exact False.elim h
   | mk d' ka' kb' => exact ⟨h.1, h.2.2.2.1⟩
theorem ubN_imp {n : Nat} {f f' : Nat → UT} (h : ∀ i, i < n → (f i).same (f' i)) {i : Nat} (hi : i < n) (hu : ubN f i) : ubN f' i := by
 intro hh
 refine hu ⟨by rw [(h i hi).kv.1]; exact hh.1, ?_⟩
 rw [(h i hi).kv.2, foldN_congr (fun j hj a => bV_same a (h j (by omega)))]
 exact hh.2
theorem ubd_imp {e : UT} : ∀ {e' : UT}, e.same e' → ubd e → ubd e' := by
 induction e with
 | nil => exact fun h => False.elim h
 | mk d ka kb ia ib =>
   intro e' h
   cases e' with
   | nil => exact False.elim h
   | mk d' ka' kb' =>
   obtain ⟨h0, h1, h2, h3, h4, ⟨h5, h6⟩, ⟨h7, h8⟩⟩ := h
   exact fun hh => ⟨fun i hi => ⟨ubN_imp h6 (by omega) (hh.1 i (by omega)).1, ia i (h6 i (by omega)) (hh.1 i (by omega)).2⟩, fun i hi => ⟨ubN_imp h8 (by omega) (hh.2 i (by omega)).1, ib i (h8 i (by omega)) (hh.2 i (by omega)).2⟩⟩
theorem gBd_imp {n : Nat} {f f' : Nat → UT} (h : ∀ i, i < n → (f i).same (f' i)) (hb : gBd n f) : gBd n f' := fun i hi => ⟨ubN_imp h hi (hb i hi).1, ubd_imp (h i hi) (hb i hi).2⟩
theorem tTx_same {t t' : TB} (h : t.td = t'.td) : tTx t = tTx t' := by
 simp only [TB.td, TD.mk.injEq] at h
 obtain ⟨h1, h2, h3, h4⟩ := h
 show showL t.t.k t.t.n t.t.s t.b ++ [32] = showL t'.t.k t'.t.n t'.t.s t'.b ++ [32]
 rw [h1, h2, h3, h4]
theorem itTx_same {x y : IB} (h : x.same y) : itTx x = itTx y := by
 unfold itTx
 rw [h.1, tTx_same h.2]
theorem eTx_same {lim : Int} {e : ET} : ∀ {e' : ET} {deep : Int}, e.same e' → eOk lim e deep → eTx e = eTx e' := by
 induction e with
 | nil => exact fun h => False.elim h
 | mk d kid ih =>
   intro e' deep h hok
   cases e' with
   | nil => exact False.elim h
   | mk d' kid' =>
   obtain ⟨h0, h1, h2, h3, h4, h5⟩ := h
   obtain ⟨_, ⟨hk, _⟩, hkid⟩ := hok
   have hi := fun i (hi : i < d.n) => ih i (h5 i hi) (hkid i hi)
   rw [eTx_mk, eTx_mk, ← h0, ← h1, ← h2, ← h4, tTx_same h3, catN_congr hi]
   unfold kOk at hk
   rcases hk with ⟨hk, hn⟩ | ⟨hk, hn⟩ | ⟨hk, hn⟩ | ⟨hk, hn⟩ | ⟨hk, hn1, hn2⟩
   · rcases hk with hk | hk | hk <;> simp [hk]
   · have e0 := hi 0 (by omega)
     rcases hk with hk | hk <;> simp [hk, e0]
   · have e0 := hi 0 (by omega)
     have e1 := hi 1 (by omega)
     simp [hk, e0, e1]
   · have e0 := hi 0 (by omega)
     have e1 := hi 1 (by omega)
     have e2 := hi 2 (by omega)
     simp [hk, e0, e1, e2]
   simp [hk]
theorem uTx_same {e : UT} : ∀ {e' : UT} {deep : Int}, e.same e' → uOk e deep → uTx e = uTx e' := by
 induction e with
 | nil => exact fun h => False.elim h
 | mk d ka kb ia ib =>
   intro e' deep h hok
   cases e' with
   | nil => exact False.elim h
   | mk d' ka' kb' =>
   obtain ⟨h0, h1, h2, h3, h4, ⟨h5, h6⟩, ⟨h7, h8⟩⟩ := h
   obtain ⟨_, hN, hX, hA, hB⟩ := hok
   obtain ⟨l1, _, l3⟩ := tds_like h4
   have ea : catN d.an (fun i => uTx (ka i)) = catN d'.an (fun i => uTx (ka' i)) := by rw [← h5]; exact catN_congr (fun i hi => ia i (h6 i hi) (hA i hi))
   have eb : catN d.bn (fun i => uTx (kb i)) = catN d'.bn (fun i => uTx (kb' i)) := by rw [← h7]; exact catN_congr (fun i hi => ib i (h8 i hi) (hB i hi))
   have et : catN d.tb.length (fun i => tTx (tbG d.tb i)) = catN d'.tb.length (fun i => tTx (tbG d'.tb i)) := by rw [← l1]; exact catN_congr (fun i hi => tTx_same (l3 i hi))
   have e4 := fun (hx : d.k = 4 ∨ d.k = 5) => eTx_same h2 (hX hx)
   rw [uTx_at (e := .mk d ka kb) (fun h => UT.noConfusion h), uTx_at (e := .mk d' ka' kb') (fun h => UT.noConfusion h)]
   show (if d.k = 0 then itTx d.p.s ++ (itTx d.p.p ++ (itTx d.p.o ++ [46, 32])) else if d.k = 1 then [79, 80, 84, 73, 79, 78, 65, 76, 32] ++ ([123, 32] ++ (catN d.an (fun i => uTx (ka i)) ++ [125, 32]))
     else if d.k = 2 then [85, 78, 73, 79, 78, 32] ++ (([123, 32] ++ (catN d.an (fun i => uTx (ka i)) ++ [125, 32])) ++ ([123, 32] ++ (catN d.bn (fun i => uTx (kb i)) ++ [125, 32]))) else if d.k = 3 then [77, 73, 78, 85, 83, 32] ++ ([123, 32] ++ (catN d.an (fun i => uTx (ka i)) ++ [125, 32])) else if d.k = 4 then [70, 73, 76, 84, 69, 82, 32] ++ eTx d.e else if d.k = 5 then [66, 73, 78, 68, 32] ++ (eTx d.e ++ vTx d.v.b)
     else [86, 65, 76, 85, 69, 83, 32] ++ (vTx d.v.b ++ ([123, 32] ++ (catN d.tb.length (fun i => tTx (tbG d.tb i)) ++ [125, 32])))) =
     if d'.k = 0 then itTx d'.p.s ++ (itTx d'.p.p ++ (itTx d'.p.o ++ [46, 32])) else if d'.k = 1 then [79, 80, 84, 73, 79, 78, 65, 76, 32] ++ ([123, 32] ++ (catN d'.an (fun i => uTx (ka' i)) ++ [125, 32]))
     else if d'.k = 2 then [85, 78, 73, 79, 78, 32] ++ (([123, 32] ++ (catN d'.an (fun i => uTx (ka' i)) ++ [125, 32])) ++ ([123, 32] ++ (catN d'.bn (fun i => uTx (kb' i)) ++ [125, 32]))) else if d'.k = 3 then [77, 73, 78, 85, 83, 32] ++ ([123, 32] ++ (catN d'.an (fun i => uTx (ka' i)) ++ [125, 32])) else if d'.k = 4 then [70, 73, 76, 84, 69, 82, 32] ++ eTx d'.e else if d'.k = 5 then [66, 73, 78, 68, 32] ++ (eTx d'.e ++ vTx d'.v.b)
     else [86, 65, 76, 85, 69, 83, 32] ++ (vTx d'.v.b ++ ([123, 32] ++ (catN d'.tb.length (fun i => tTx (tbG d'.tb i)) ++ [125, 32])))
   rw [← h0, ← h3, ea, eb, et, itTx_same h1.1, itTx_same h1.2.1, itTx_same h1.2.2]
   by_cases hx : d.k = 4 ∨ d.k = 5
   · rw [e4 hx]
   have n4 : ¬ d.k = 4 := fun h => hx (.inl h)
   have n5 : ¬ d.k = 5 := fun h => hx (.inr h)
   simp only [n4, n5, if_false]
theorem gTx_same {n : Nat} {f f' : Nat → UT} {deep : Int} (h : ∀ i, i < n → (f i).same (f' i)) (hk : ∀ i, i < n → uOk (f i) deep) : gTx n f = gTx n f' := by
 unfold gTx
 rw [catN_congr (fun i hi => uTx_same (h i hi) (hk i hi))]
theorem selTx_same {s t : SE} (h : s.same t) : selTx s = selTx t := by
 unfold selTx
 rw [h.1, h.2.1, h.2.2]
theorem keyTx_same {s t : KY} (h : s.same t) : keyTx s = keyTx t := by
 unfold keyTx
 rw [h.1, h.2]
theorem qTx_same {x y : QY} (h : x.same y) (hb : bodyOk x) : qTx x = qTx y := by
 have e1 : catN x.sn (fun i => selTx (x.sel i)) = catN y.sn (fun i => selTx (y.sel i)) := by rw [← h.s.1]; exact catN_congr (fun i hi => selTx_same (h.s.2 i hi))
 have e2 : catN x.gn (fun i => vTx (x.grp i).b) = catN y.gn (fun i => vTx (y.grp i).b) := by rw [← h.g.1]; exact catN_congr (fun i hi => congrArg vTx (h.g.2 i hi))
 have e3 : catN x.on (fun i => keyTx (x.key i)) = catN y.on (fun i => keyTx (y.key i)) := by rw [← h.o.1]; exact catN_congr (fun i hi => keyTx_same (h.o.2 i hi))
 have e4 : gTx x.bn x.body = gTx y.bn y.body := by rw [← h.b.1]; exact gTx_same h.b.2 hb.1
 unfold qTx headTx tailTx disTx starTx grpTx ordTx limTx offTx
 rw [e1, e2, e3, e4, h.ask, h.dis, h.lim, h.off, h.s.1, h.g.1, h.o.1]
theorem outs_same {x y : QY} (h : x.same y) {k : Nat} (hk : k ≤ x.sn) : outs x k = outs y k := by
 induction k with
 | zero => rfl
 | succ k ih =>
   show outs x k ++ [(x.sel k).v.b] = outs y k ++ [(y.sel k).v.b]
   rw [ih (by omega), (h.s.2 k (by omega)).2.2]
theorem inG_imp {x y : QY} (h : x.same y) {k : Nat} (hk : k ≤ x.gn) {b : List Int} (hg : inG x k b) : inG y k b := by
 obtain ⟨j, hj, e⟩ := hg
 have h1 : (x.grp j).b = (y.grp j).b := h.g.2 j (by omega)
 exact ⟨j, hj, by rw [← h1]; exact e⟩
theorem SelP.imp {body : List (List Int)} {s t : SE} (h : s.same t) (hs : SelP body s) : SelP body t := by
 unfold SelP at hs ⊢
 rwa [← h.1, ← h.2.1, ← h.2.2]
theorem bodyOk_imp {x y : QY} (h : x.same y) (hb : bodyOk x) : bodyOk y := by
 have hn := h.b.1
 refine ⟨fun i hi => uOk_imp (h.b.2 i (by omega)) (hb.1 i (by omega)), ?_⟩
 rw [← hn, ← sumN_congr (fun i hi => usz_same (h.b.2 i hi))]
 exact hb.2
theorem qOk_imp {x y : QY} (h : x.same y) (hq : qOk x) : qOk y := by
 have eV : gV y.bn y.body [] = gV x.bn x.body [] := by rw [← h.b.1]; exact (gV_same h.b.2 []).symm
 have hs := h.s.1
 have hg := h.g.1
 have ho := h.o.1
 have hb := h.b.1
 refine ⟨bodyOk_imp h hq.b, ?_, by rw [eV]; exact hq.v, by rw [← hs, ← hg, ← ho, ← h.lim, ← h.off]; exact hq.n, fun ha => ?_, fun ha => ?_⟩
 · rw [← hb]
   exact gBd_imp h.b.2 hq.d
 · rw [← hs, ← hg, ← ho, ← h.lim, ← h.off, ← h.dis]
   exact hq.a (by rw [h.ask]; exact ha)
 have k := hq.s (by rw [h.ask]; exact ha)
 rw [eV]
 have hg' : ∀ i, i < x.gn → (x.grp i).b = (y.grp i).b := fun i hi => h.g.2 i hi
 refine ⟨fun i hi => ?_, fun i hi => ?_, fun hh => ?_, fun i hi => ?_⟩
 · have k1 := k.s i (by omega)
   have e : sV x i = sV y i := (h.s.2 i (by omega)).2.2
   rw [← e, ← outs_same h (show i ≤ x.sn by omega)]
   exact ⟨k1.1, k1.2.imp (h.s.2 i (by omega))⟩
 · have k1 := k.g i (by omega)
   rw [← hg' i (by omega)]
   exact ⟨k1.1, fun hh => k1.2 (inG_imp h.symm (by omega) hh)⟩
 · have k1 := k.p (by
     rcases hh with hh | ⟨i, hi, hf⟩
     · exact .inl (by omega)
     exact .inr ⟨i, by omega, by rw [(h.s.2 i (by omega)).1]; exact hf⟩)
   refine ⟨by omega, fun i hi hf => ?_⟩
   have e : sV x i = sV y i := (h.s.2 i (by omega)).2.2
   rw [← e, ← hg]
   exact inG_imp h (Nat.le_refl _) (k1.2 i (by omega) (by rw [(h.s.2 i (by omega)).1]; exact hf))
 have k1 := k.o i (by omega)
 have e := (h.o.2 i (by omega)).1
 rw [← e, ← hs, ← outs_same h (Nat.le_refl x.sn)]
 exact k1
theorem QOK_imp {x y : QY} (h : x.same y) (hq : QOK x) : QOK y := ⟨qOk_imp h hq.1, by rw [← qTx_same h hq.1.b]; exact hq.2⟩
theorem QOK_same {x y : QY} (h : x.same y) : QOK x ↔ QOK y := ⟨QOK_imp h, QOK_imp h.symm⟩
end Go.Proofs.YthljoojcpbignaaGreatDoor
