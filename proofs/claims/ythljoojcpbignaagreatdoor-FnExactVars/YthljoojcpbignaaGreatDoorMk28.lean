import Derived.Test.YthljoojcpbignaaGreatDoorMk27
namespace Go.Proofs.YthljoojcpbignaaGreatDoor
open Go.RowKit Go.Deep
set_option maxHeartbeats 40000000
set_option maxRecDepth 100000
structure SeM (B C : Nat) (w : World) (g o : Nat) (d : SE) : Prop where
 hB : B ≤ g
 hC : g < C
 n0 : WN w g (o)
 s1 : w.cell? ⟨g, o + 1, none⟩ = some (.slice d.of.a d.of.len d.of.cap)
 t1 : TxM B C w d.of.a d.of.len
 s2 : w.cell? ⟨g, o + 2, none⟩ = some (.slice d.v.a d.v.len d.v.cap)
 t2 : TxM B C w d.v.a d.v.len
theorem SeM.kb {B C : Nat} {w w' : World} {g o : Nat} {d : SE} (h : SeM B C w g o d) (k : KB w w') : SeM B C w' g o d :=
 ⟨h.hB, h.hC, h.n0.kb k, k.s _ _ _ _ _ h.s1, h.t1.kb k, k.s _ _ _ _ _ h.s2, h.t2.kb k⟩
def SeX (B C : Nat) (w : World) (a : Option Addr) (n : Nat) (kid : Nat → SE) : Prop := n = 0 ∨ ∃ g, a = some ⟨g, 0, none⟩ ∧ ∀ i, i < n → SeM B C w g (i * 3) (kid i) ∧ True
theorem SeX.kb {B C : Nat} {w w' : World} {a : Option Addr} {n : Nat} {kid : Nat → SE} (h : SeX B C w a n kid) (k : KB w w') : SeX B C w' a n kid := by
 rcases h with h | ⟨g, ha, hx⟩
 · exact .inl h
 exact .inr ⟨g, ha, fun i hi => ⟨(hx i hi).1.kb k, trivial⟩⟩
theorem markSelS_of (B C : Nat) (a : Option Addr) (cap n : Nat) (kid : Nat → SE) (k : Int) (w : World) (hk : 0 ≤ k) (hk2 : k + ((16 * (n + sumN n (fun i => (kid i).wt)) : Nat) : Int) ≤ 1152921504606846976) (hM : SeX B C w a n kid) :
 Calls Tryz.prog 37 #[.slice a n cap, .int .i64 k] w (MkP B C w k (16 * (n + sumN n (fun i => (kid i).wt)))) := by
 by_cases h0 : n = 0
 · subst h0
   clear hM
   go_in
   go_wp2
   refine wp_loop_rounds 1 ?_
   rw [rounds_succ]
   go_wp2
   go_ret
   exact ⟨⟨k, rfl, by omega, by omega⟩, KB.refl _, Mid.refl _ _ _⟩
 have HT := iH hM
 rcases hM with h | ⟨g, rfl, _⟩
 · exact absurd h h0
 have HX : Hd (∀ wr, KB w wr → ∀ i, i < n → SeM B C wr g (i * 3) (kid i) ∧ True) := fun wr hk i hi => by
  rcases HT.o.kb hk with h | ⟨g', e, hx⟩
  · exact absurd h h0
  cases e
  exact hx i hi
 have hn : n ≤ 1152921504606846976 := by omega
 have HQB := iH hk2
 skip
 clear HT hk2
 go_in
 go_wp2_with fail
 go_loopw [1, 5] (fun a b wr => ∃ (j : Nat) (m : Int), j ≤ n ∧ b = .int .i64 j ∧ a = .int .i64 m ∧ 0 ≤ m ∧ m ≤ 1152921504606846976 ∧ Hd (k ≤ m ∧ m ≤ k + ((16 * (j + sumN j (fun i => (kid i).wt)) : Nat) : Int)) ∧ Hd (KB w wr) ∧ Hd (Mid B C w wr))
  (fun _ b _ => n - (intOf b).toNat)
 case atStart => exact ⟨0, k, nZ, rfl, rfl, hk, by have h := HQB.o; omega, ⟨by omega, by simp [sumN]⟩, KB.refl _, Mid.refl _ _ _⟩
 obtain ⟨j, m, hj, rfl, rfl, hm0, hm1, HM, HK, HD⟩ := hrel
 by_cases hlt : j < n
 · have HW : Hd ((kid j).wt = (kid j).of.len + (kid j).v.len) := (show _ = _ from rfl)
   have HS : Hd (sumN j (fun i => (kid i).wt) + (kid j).wt ≤ sumN n (fun i => (kid i).wt)) := sumN_mono (f := (fun i => (kid i).wt)) hlt
   have hE := HX.o _ HK.o j hlt
   have HKa := fun (v0 : Int) => (show Hd (KB w (wr.setCell ⟨g, j * 3, none⟩ (.int .i64 v0))) from (HK.o.trans (hE.1.n0.set (v := v0))))
   have HDa := fun (v0 : Int) => (show Hd (Mid B C w (wr.setCell ⟨g, j * 3, none⟩ (.int .i64 v0))) from (HD.o.set hE.1.hB hE.1.hC))
   obtain ⟨⟨y0, c0⟩, f0⟩ := hE.1.n0
   have s1 := hE.1.s1
   clear hE
   go_wp2_with fail
   refine (markText_m B C (kid j).of.a (kid j).of.len (kid j).of.cap _ _ (HX.o _ (HKa _).o j hlt).1.t1 ?_ ?_).mono ?_
   · omega
   · omega
   rintro e w1 ⟨⟨q1, rfl, a1, b1⟩, hk', hd'⟩
   have HK1 := iH ((HKa _).o.trans hk')
   have HD1 := iH ((HDa _).o.tr hd')
   clear hk' hd' HKa HDa c0 f0 s1 HK HD
   have G1 : Hd (m ≤ q1 ∧ q1 ≤ m + ((1 + (kid j).of.len : Nat) : Int)) := (show _ ∧ _ by omega)
   clear a1 b1
   have u1 : q1 ≤ 1152921504606846976 := by have z1 := HM.o; have z2 := HS.o; have z3 := HW.o; have z4 := HQB.o; have z5 := G1.o; omega
   have p1 : 0 ≤ q1 := by have z := G1.o; omega
   have hE := HX.o _ HK1.o j hlt
   have s2 := hE.1.s2
   clear hE
   go_wp2_with fail
   refine (markText_m B C (kid j).v.a (kid j).v.len (kid j).v.cap _ _ (HX.o _ HK1.o j hlt).1.t2 ?_ ?_).mono ?_
   · omega
   · omega
   rintro e w2 ⟨⟨q2, rfl, a2, b2⟩, hk', hd'⟩
   have HK2 := iH (HK1.o.trans hk')
   have HD2 := iH (HD1.o.tr hd')
   clear hk' hd' s2 HK1 HD1
   have G2 : Hd (m ≤ q2 ∧ q2 ≤ m + ((1 + (kid j).of.len + (kid j).v.len : Nat) : Int)) := (show _ ∧ _ by have z := G1.o; omega)
   clear a2 b2 u1 p1
   have u2 : q2 ≤ 1152921504606846976 := by have z1 := HM.o; have z2 := HS.o; have z3 := HW.o; have z4 := HQB.o; have z5 := G2.o; omega
   have p2 : 0 ≤ q2 := by have z := G2.o; omega
   clear G1
   go_wp2
   go_roundw
   case rel =>
    refine ⟨j + 1, _, by omega, by go_num, rfl, by omega, by omega, ?_, HK2, HD2⟩
    have z5 := G2.o
    have z1 := HM.o
    have z2 := HW.o
    show k ≤ _ ∧ _ ≤ k + ((16 * (j + 1 + (sumN j (fun i => (kid i).wt) + (kid j).wt)) : Nat) : Int)
    omega
   case measure => simp [intOf]; omega
 obtain rfl : j = n := by omega
 go_wp2
 go_ret
 exact ⟨⟨m, rfl, HM.o.1, HM.o.2⟩, HK.o, HD.o⟩
structure KyM (B C : Nat) (w : World) (g o : Nat) (d : KY) : Prop where
 hB : B ≤ g
 hC : g < C
 n1 : WO w g (o + 1)
 s0 : w.cell? ⟨g, o, none⟩ = some (.slice d.v.a d.v.len d.v.cap)
 t0 : TxM B C w d.v.a d.v.len
theorem KyM.kb {B C : Nat} {w w' : World} {g o : Nat} {d : KY} (h : KyM B C w g o d) (k : KB w w') : KyM B C w' g o d :=
 ⟨h.hB, h.hC, h.n1.kb k, k.s _ _ _ _ _ h.s0, h.t0.kb k⟩
def KyX (B C : Nat) (w : World) (a : Option Addr) (n : Nat) (kid : Nat → KY) : Prop := n = 0 ∨ ∃ g, a = some ⟨g, 0, none⟩ ∧ ∀ i, i < n → KyM B C w g (i * 2) (kid i) ∧ True
theorem KyX.kb {B C : Nat} {w w' : World} {a : Option Addr} {n : Nat} {kid : Nat → KY} (h : KyX B C w a n kid) (k : KB w w') : KyX B C w' a n kid := by
 rcases h with h | ⟨g, ha, hx⟩
 · exact .inl h
 exact .inr ⟨g, ha, fun i hi => ⟨(hx i hi).1.kb k, trivial⟩⟩
theorem markKeyS_of (B C : Nat) (a : Option Addr) (cap n : Nat) (kid : Nat → KY) (k : Int) (w : World) (hk : 0 ≤ k) (hk2 : k + ((16 * (n + sumN n (fun i => (kid i).wt)) : Nat) : Int) ≤ 1152921504606846976) (hM : KyX B C w a n kid) :
 Calls Tryz.prog 39 #[.slice a n cap, .int .i64 k] w (MkP B C w k (16 * (n + sumN n (fun i => (kid i).wt)))) := by
 by_cases h0 : n = 0
 · subst h0
   clear hM
   go_in
   go_wp2
   refine wp_loop_rounds 1 ?_
   rw [rounds_succ]
   go_wp2
   go_ret
   exact ⟨⟨k, rfl, by omega, by omega⟩, KB.refl _, Mid.refl _ _ _⟩
 have HT := iH hM
 rcases hM with h | ⟨g, rfl, _⟩
 · exact absurd h h0
 have HX : Hd (∀ wr, KB w wr → ∀ i, i < n → KyM B C wr g (i * 2) (kid i) ∧ True) := fun wr hk i hi => by
  rcases HT.o.kb hk with h | ⟨g', e, hx⟩
  · exact absurd h h0
  cases e
  exact hx i hi
 have hn : n ≤ 1152921504606846976 := by omega
 have HQB := iH hk2
 skip
 clear HT hk2
 go_in
 go_wp2_with fail
 go_loopw [1, 5] (fun a b wr => ∃ (j : Nat) (m : Int), j ≤ n ∧ b = .int .i64 j ∧ a = .int .i64 m ∧ 0 ≤ m ∧ m ≤ 1152921504606846976 ∧ Hd (k ≤ m ∧ m ≤ k + ((16 * (j + sumN j (fun i => (kid i).wt)) : Nat) : Int)) ∧ Hd (KB w wr) ∧ Hd (Mid B C w wr))
  (fun _ b _ => n - (intOf b).toNat)
 case atStart => exact ⟨0, k, nZ, rfl, rfl, hk, by have h := HQB.o; omega, ⟨by omega, by simp [sumN]⟩, KB.refl _, Mid.refl _ _ _⟩
 obtain ⟨j, m, hj, rfl, rfl, hm0, hm1, HM, HK, HD⟩ := hrel
 by_cases hlt : j < n
 · have HW : Hd ((kid j).wt = (kid j).v.len) := (show _ = _ from rfl)
   have HS : Hd (sumN j (fun i => (kid i).wt) + (kid j).wt ≤ sumN n (fun i => (kid i).wt)) := sumN_mono (f := (fun i => (kid i).wt)) hlt
   have hE := HX.o _ HK.o j hlt
   have s0 := hE.1.s0
   clear hE
   go_wp2_with fail
   refine (markText_m B C (kid j).v.a (kid j).v.len (kid j).v.cap _ _ (HX.o _ HK.o j hlt).1.t0 ?_ ?_).mono ?_
   · omega
   · omega
   rintro e w1 ⟨⟨q1, rfl, a1, b1⟩, hk', hd'⟩
   have HK1 := iH (HK.o.trans hk')
   have HD1 := iH (HD.o.tr hd')
   clear hk' hd' s0 HK HD
   have G1 : Hd (m ≤ q1 ∧ q1 ≤ m + (((kid j).v.len : Nat) : Int)) := (show _ ∧ _ by omega)
   clear a1 b1
   have u1 : q1 ≤ 1152921504606846976 := by have z1 := HM.o; have z2 := HS.o; have z3 := HW.o; have z4 := HQB.o; have z5 := G1.o; omega
   have p1 : 0 ≤ q1 := by have z := G1.o; omega
   have ub : q1 + 1 ≤ 1152921504606846976 := by have z1 := HM.o; have z2 := HS.o; have z3 := HW.o; have z4 := HQB.o; have z5 := G1.o; omega
   have hE := HX.o _ HK1.o j hlt
   have HKa := fun (v0 : Bool) => (show Hd (KB w (w1.setCell ⟨g, j * 2 + 1, none⟩ (.bool v0))) from (HK1.o.trans (hE.1.n1.set (v := v0))))
   have HDa := fun (v0 : Bool) => (show Hd (Mid B C w (w1.setCell ⟨g, j * 2 + 1, none⟩ (.bool v0))) from (HD1.o.set hE.1.hB hE.1.hC))
   obtain ⟨⟨y1, c1⟩, f1⟩ := hE.1.n1
   clear hE
   go_wp2
   go_roundw
   case rel =>
    refine ⟨j + 1, _, by omega, by go_num, rfl, by omega, by omega, ?_, HKa _, HDa _⟩
    have z5 := G1.o
    have z1 := HM.o
    have z2 := HW.o
    show k ≤ _ ∧ _ ≤ k + ((16 * (j + 1 + (sumN j (fun i => (kid i).wt) + (kid j).wt)) : Nat) : Int)
    omega
   case measure => simp [intOf]; omega
 obtain rfl : j = n := by omega
 go_wp2
 go_ret
 exact ⟨⟨m, rfl, HM.o.1, HM.o.2⟩, HK.o, HD.o⟩
structure GrM (B C : Nat) (w : World) (g o : Nat) (d : SL) : Prop where
 hB : B ≤ g
 hC : g < C
 s0 : w.cell? ⟨g, o, none⟩ = some (.slice d.a d.len d.cap)
 t0 : TxM B C w d.a d.len
theorem GrM.kb {B C : Nat} {w w' : World} {g o : Nat} {d : SL} (h : GrM B C w g o d) (k : KB w w') : GrM B C w' g o d :=
 ⟨h.hB, h.hC, k.s _ _ _ _ _ h.s0, h.t0.kb k⟩
def GrX (B C : Nat) (w : World) (a : Option Addr) (n : Nat) (kid : Nat → SL) : Prop := n = 0 ∨ ∃ g, a = some ⟨g, 0, none⟩ ∧ ∀ i, i < n → GrM B C w g i (kid i) ∧ True
theorem GrX.kb {B C : Nat} {w w' : World} {a : Option Addr} {n : Nat} {kid : Nat → SL} (h : GrX B C w a n kid) (k : KB w w') : GrX B C w' a n kid := by
 rcases h with h | ⟨g, ha, hx⟩
 · exact .inl h
 exact .inr ⟨g, ha, fun i hi => ⟨(hx i hi).1.kb k, trivial⟩⟩
theorem markByteSS_of (B C : Nat) (a : Option Addr) (cap n : Nat) (kid : Nat → SL) (k : Int) (w : World) (hk : 0 ≤ k) (hk2 : k + ((16 * (n + sumN n (fun i => (kid i).wt)) : Nat) : Int) ≤ 1152921504606846976) (hM : GrX B C w a n kid) :
 Calls Tryz.prog 13 #[.slice a n cap, .int .i64 k] w (MkP B C w k (16 * (n + sumN n (fun i => (kid i).wt)))) := by
 by_cases h0 : n = 0
 · subst h0
   clear hM
   go_in
   go_wp2
   refine wp_loop_rounds 1 ?_
   rw [rounds_succ]
   go_wp2
   go_ret
   exact ⟨⟨k, rfl, by omega, by omega⟩, KB.refl _, Mid.refl _ _ _⟩
 have HT := iH hM
 rcases hM with h | ⟨g, rfl, _⟩
 · exact absurd h h0
 have HX : Hd (∀ wr, KB w wr → ∀ i, i < n → GrM B C wr g i (kid i) ∧ True) := fun wr hk i hi => by
  rcases HT.o.kb hk with h | ⟨g', e, hx⟩
  · exact absurd h h0
  cases e
  exact hx i hi
 have hn : n ≤ 1152921504606846976 := by omega
 have HQB := iH hk2
 skip
 clear HT hk2
 go_in
 go_wp2_with fail
 go_loopw [1, 5] (fun a b wr => ∃ (j : Nat) (m : Int), j ≤ n ∧ b = .int .i64 j ∧ a = .int .i64 m ∧ 0 ≤ m ∧ m ≤ 1152921504606846976 ∧ Hd (k ≤ m ∧ m ≤ k + ((16 * (j + sumN j (fun i => (kid i).wt)) : Nat) : Int)) ∧ Hd (KB w wr) ∧ Hd (Mid B C w wr))
  (fun _ b _ => n - (intOf b).toNat)
 case atStart => exact ⟨0, k, nZ, rfl, rfl, hk, by have h := HQB.o; omega, ⟨by omega, by simp [sumN]⟩, KB.refl _, Mid.refl _ _ _⟩
 obtain ⟨j, m, hj, rfl, rfl, hm0, hm1, HM, HK, HD⟩ := hrel
 by_cases hlt : j < n
 · have HW : Hd ((kid j).wt = (kid j).len) := (show _ = _ from rfl)
   have HS : Hd (sumN j (fun i => (kid i).wt) + (kid j).wt ≤ sumN n (fun i => (kid i).wt)) := sumN_mono (f := (fun i => (kid i).wt)) hlt
   have hE := HX.o _ HK.o j hlt
   have s0 := hE.1.s0
   clear hE
   go_wp2_with fail
   refine (markText_m B C (kid j).a (kid j).len (kid j).cap _ _ (HX.o _ HK.o j hlt).1.t0 ?_ ?_).mono ?_
   · omega
   · omega
   rintro e w1 ⟨⟨q1, rfl, a1, b1⟩, hk', hd'⟩
   have HK1 := iH (HK.o.trans hk')
   have HD1 := iH (HD.o.tr hd')
   clear hk' hd' s0 HK HD
   have G1 : Hd (m ≤ q1 ∧ q1 ≤ m + (((kid j).len : Nat) : Int)) := (show _ ∧ _ by omega)
   clear a1 b1
   have u1 : q1 ≤ 1152921504606846976 := by have z1 := HM.o; have z2 := HS.o; have z3 := HW.o; have z4 := HQB.o; have z5 := G1.o; omega
   have p1 : 0 ≤ q1 := by have z := G1.o; omega
   go_wp2
   go_roundw
   case rel =>
    refine ⟨j + 1, _, by omega, by go_num, rfl, by omega, by omega, ?_, HK1, HD1⟩
    have z5 := G1.o
    have z1 := HM.o
    have z2 := HW.o
    show k ≤ _ ∧ _ ≤ k + ((16 * (j + 1 + (sumN j (fun i => (kid i).wt) + (kid j).wt)) : Nat) : Int)
    omega
   case measure => simp [intOf]; omega
 obtain rfl : j = n := by omega
 go_wp2
 go_ret
 exact ⟨⟨m, rfl, HM.o.1, HM.o.2⟩, HK.o, HD.o⟩
structure QM (B C : Nat) (w : World) (y : QY) : Prop where
 s : SeX B C w y.sa y.sn y.sel
 b : UX B C w y.ba y.bn y.body
 g : GrX B C w y.ga y.gn y.grp
 o : KyX B C w y.oa y.on y.key
theorem markQuery_b (B C : Nat) (y : QY) (w : World) (hw : y.wt ≤ 1048576) (hM : ∀ o, QM B C (w.alloc o) y) :
 Calls Tryz.prog 12 #[.agg y.ar, .int .i64 1] w fun e w' => ∃ (q : Int) (o : Obj), e = .returned (.int .i64 q) ∧ 0 ≤ q ∧ Mid B C (w.alloc o) w' := by
 have HM := iH hM
 have HWT : Hd ((y.sn + sumN y.sn (fun i => (y.sel i).wt)) + (y.bn + sumN y.bn (fun i => (y.body i).wt)) + (y.gn + sumN y.gn (fun i => (y.grp i).wt)) + (y.on + sumN y.on (fun i => (y.key i).wt)) ≤ 1048576) := hw
 clear hM hw
 go_in
 go_wp2_with fail
 refine (markSelS_of B C y.sa y.sc y.sn y.sel 1 _ ?_ ?_ (HM.o _).s).mono ?_
 · omega
 · have z := HWT.o; omega
 rintro e w1 ⟨⟨q1, rfl, a1, b1⟩, hk', hd'⟩
 have HK1 : Hd (KB (w.alloc (.cells y.ar 34)) w1) := hk'
 have HD1 : Hd (Mid B C (w.alloc (.cells y.ar 34)) w1) := hd'
 clear hk' hd'
 have u1 : q1 ≤ 33554432 := by have z := HWT.o; omega
 have c1 : w1.cell? ⟨w.heap.size, 3, none⟩ = some (.slice y.ba y.bn y.bc) := HK1.o.s _ _ _ _ _ (by simp [go_sem])
 have c0 : w.heap.size < w1.heap.size := by rw [HD1.o.size]; simp
 go_wp2_with fail
 clear c0
 refine (markElemS_of B C y.ba y.bc y.bn y.body q1 _ ?_ ?_ ((HM.o _).b.kb HK1.o) fun i hi W k h1 h3 => markBody_any B C (y.body i) W k h1 h3).mono ?_
 · omega
 · have z := HWT.o; omega
 rintro e w2 ⟨⟨q2, rfl, a2, b2⟩, hk', hd'⟩
 have HK2 := iH (HK1.o.trans hk')
 have HD2 := iH (HD1.o.tr hd')
 clear hk' hd' c1 HK1 HD1
 have u2 : q2 ≤ 33554432 := by have z := HWT.o; omega
 have c1 : w2.cell? ⟨w.heap.size, 4, none⟩ = some (.slice y.ga y.gn y.gc) := HK2.o.s _ _ _ _ _ (by simp [go_sem])
 have c0 : w.heap.size < w2.heap.size := by rw [HD2.o.size]; simp
 go_wp2_with fail
 clear c0
 refine (markByteSS_of B C y.ga y.gc y.gn y.grp q2 _ ?_ ?_ ((HM.o _).g.kb HK2.o)).mono ?_
 · omega
 · have z := HWT.o; omega
 rintro e w3 ⟨⟨q3, rfl, a3, b3⟩, hk', hd'⟩
 have HK3 := iH (HK2.o.trans hk')
 have HD3 := iH (HD2.o.tr hd')
 clear hk' hd' c1 HK2 HD2
 have u3 : q3 ≤ 33554432 := by have z := HWT.o; omega
 have c1 : w3.cell? ⟨w.heap.size, 5, none⟩ = some (.slice y.oa y.on y.oc) := HK3.o.s _ _ _ _ _ (by simp [go_sem])
 have c0 : w.heap.size < w3.heap.size := by rw [HD3.o.size]; simp
 go_wp2_with fail
 clear c0
 refine (markKeyS_of B C y.oa y.oc y.on y.key q3 _ ?_ ?_ ((HM.o _).o.kb HK3.o)).mono ?_
 · omega
 · have z := HWT.o; omega
 rintro e w4 ⟨⟨q4, rfl, a4, b4⟩, hk', hd'⟩
 have HK4 := iH (HK3.o.trans hk')
 have HD4 := iH (HD3.o.tr hd')
 clear hk' hd' c1 HK3 HD3
 have u4 : q4 ≤ 33554432 := by have z := HWT.o; omega
 go_wp2
 go_ret
 exact ⟨q4, _, rfl, by omega, HD4.o⟩
theorem row_own {B : Nat} {w w' : World} {sz n : Nat} {a : Option Addr} {C : Nat → List Value} (hR : KRow B w sz a n C) (hF : RoW B w a (n * sz)) (hb : Bl w w') (h0 : n ≠ 0) (hz : 0 < sz) :
 ∃ g, a = some ⟨g, 0, none⟩ ∧ B ≤ g ∧ g < w.heap.size ∧ (∀ i, i < n → ∀ c u, (C i)[c]? = some u → w'.cell? ⟨g, i * sz + c, none⟩ = some u) ∧ ∀ i, i < n → ∀ c, c < sz → w'.frozen? ⟨g, i * sz + c, none⟩ = false := by
 obtain ⟨g, ha, hF⟩ := hF
 rcases hR with h | ⟨b, off, ha', hB, hlt, hc⟩
 · exact absurd h h0
 rw [ha] at ha'
 cases ha'
 have h2 : 1 * 1 ≤ n * sz := Nat.mul_le_mul (by omega) hz
 rcases hF with hF | ⟨_, _, hF⟩
 · omega
 refine ⟨g, ha, hB, hlt, fun i hi c u hu => (hb.cell (p := ⟨g, i * sz + c, none⟩) hlt).trans (by have h := hc i hi c u hu; rwa [Nat.zero_add] at h), fun i hi c hcc => (hb.frozen (p := ⟨g, i * sz + c, none⟩) hlt).trans (hF _ ?_)⟩
 have h1 : (i + 1) * sz ≤ n * sz := Nat.mul_le_mul_right sz hi
 rw [Nat.succ_mul] at h1
 omega
theorem sl_marks {B : Nat} {w w' : World} {x : SL} (h1 : BsF B w x) (h2 : TxW B w x) (hb : Bl w w') : TxM B w.heap.size w' x.a x.len := SL.own.marks ⟨h1, h2⟩ hb
theorem em_of {B : Nat} {w w' : World} {g o : Nat} {e : ET} (hl : e.lies B w) (hw : e.wr B w) (hb : Bl w w') (hB : B ≤ g) (hC : g < w.heap.size) (cc : ∀ c u, (e.d.cells)[c]? = some u → w'.cell? ⟨g, o + c, none⟩ = some u) (ff : ∀ c, c < 8 → w'.frozen? ⟨g, o + c, none⟩ = false) : EM B w.heap.size w' g o e.d := by
 cases e with
 | nil => exact False.elim hl
 | mk d kid => exact ⟨hB, hC, ⟨⟨_, cc 0 _ rfl⟩, ff 0 (by omega)⟩, ⟨⟨_, cc 1 _ rfl⟩, ff 1 (by omega)⟩, ⟨⟨_, cc 3 _ rfl⟩, ff 3 (by omega)⟩, ⟨⟨_, cc 5 _ rfl⟩, ff 5 (by omega)⟩, ⟨⟨_, cc 6 _ rfl⟩, ff 6 (by omega)⟩, cc 2 _ rfl, sl_marks hl.1 hw.1 hb, cc 4 _ rfl, sl_marks (x := d.t.sl) hl.2.1 hw.2.1 hb, cc 7 _ rfl⟩
theorem km_of {B : Nat} {w w' : World} (hb : Bl w w') (e : ET) (hl : e.lies B w) (hw : e.wr B w) : KM B w.heap.size w' e := by
 induction e with
 | nil => exact False.elim hl
 | mk d kid ih =>
  by_cases h0 : d.n = 0
  · exact .inl h0
  obtain ⟨g, ha, hB, hC, cc, ff⟩ := row_own hl.2.2.2.2.1 hw.2.2.1 hb h0 (by omega)
  exact .inr ⟨g, ha, fun i hi => ⟨em_of (hl.2.2.2.2.2 i hi) (hw.2.2.2 i hi) hb hB hC (cc i hi) (ff i hi), ih i (hl.2.2.2.2.2 i hi) (hw.2.2.2 i hi)⟩⟩
theorem tx_of {B : Nat} {w w' : World} {a : Option Addr} {tb : List TB} (hl : TRowF B w a tb) (hw : TsW B w a tb) (hb : Bl w w') : TsX B w.heap.size w' a tb.length (tbN tb) := by
 by_cases h0 : tb.length = 0
 · exact .inl h0
 have h1 : tb ≠ [] := fun e => h0 (by rw [e]; rfl)
 obtain ⟨⟨g, ha, hF⟩, hx⟩ := hw
 obtain ⟨hR, hp, hs⟩ := hl
 rcases hR with h | ⟨b, off, ha', hlt, hc⟩
 · exact absurd h h1
 rw [ha] at ha'
 cases ha'
 rcases hF with hF | ⟨hB, _, hF⟩
 · omega
 refine .inr ⟨g, ha, fun i hi => ⟨?_, trivial⟩⟩
 have he : tbN tb i = tb[i] := by
  unfold tbN
  rw [List.getElem?_eq_getElem hi]
  rfl
 have cc := fun j u hu => (hb.cell (p := ⟨g, 0 + j, none⟩) hlt).trans (hc j u hu)
 obtain ⟨c0, c1, c2, c3⟩ := TRow.at cc i hi
 rw [Nat.zero_add] at c0 c1 c2 c3
 have ff : ∀ c, c < 4 → w'.frozen? ⟨g, i * 4 + c, none⟩ = false := fun c hcc => (hb.frozen (p := ⟨g, i * 4 + c, none⟩) hlt).trans (hF _ (by omega))
 rw [he]
 exact ⟨hB, hlt, ⟨⟨_, c0⟩, ff 0 (by omega)⟩, ⟨⟨_, c2⟩, ff 2 (by omega)⟩, ⟨⟨_, c3⟩, ff 3 (by omega)⟩, c1, sl_marks (x := tb[i].sl) (hs _ (List.getElem_mem hi)).1 (hx _ (List.getElem_mem hi)) hb⟩
theorem et_d {B : Nat} {w : World} {e : ET} (hl : e.lies B w) (hw : e.wr B w) : (BsF B w e.d.v ∧ TxW B w e.d.v) ∧ BsF B w e.d.t.sl ∧ TxW B w e.d.t.sl := by
 cases e with
 | nil => exact False.elim hl
 | mk d kid => exact ⟨⟨hl.1, hw.1⟩, hl.2.1, hw.2.1⟩
theorem um_of {B : Nat} {w w' : World} {g o : Nat} {e : UT} (hl : e.lies B w) (hw : e.wr B w) (hb : Bl w w') (hB : B ≤ g) (hC : g < w.heap.size) (cc : ∀ c u, (e.d.cells)[c]? = some u → w'.cell? ⟨g, o + c, none⟩ = some u) (ff : ∀ c, c < 28 → w'.frozen? ⟨g, o + c, none⟩ = false) : UM B w.heap.size w' g o e.d := by
 cases e with
 | nil => exact False.elim hl
 | mk d ka kb =>
  obtain ⟨hp, he, hv, ht, _⟩ := hl
  obtain ⟨wp, we, wv, wt, _⟩ := hw
  obtain ⟨⟨e1, e2⟩, e3, e4⟩ := et_d he we
  exact ⟨hB, hC, ⟨⟨_, cc 0 _ rfl⟩, ff 0 (by omega)⟩, ⟨⟨_, cc 2 _ rfl⟩, ff 2 (by omega)⟩, ⟨⟨_, cc 4 _ rfl⟩, ff 4 (by omega)⟩, ⟨⟨_, cc 5 _ rfl⟩, ff 5 (by omega)⟩, ⟨⟨_, cc 7 _ rfl⟩, ff 7 (by omega)⟩, ⟨⟨_, cc 9 _ rfl⟩, ff 9 (by omega)⟩, ⟨⟨_, cc 10 _ rfl⟩, ff 10 (by omega)⟩, ⟨⟨_, cc 12 _ rfl⟩, ff 12 (by omega)⟩, ⟨⟨_, cc 14 _ rfl⟩, ff 14 (by omega)⟩, ⟨⟨_, cc 15 _ rfl⟩, ff 15 (by omega)⟩, ⟨⟨_, cc 16 _ rfl⟩, ff 16 (by omega)⟩, ⟨⟨_, cc 17 _ rfl⟩, ff 17 (by omega)⟩, ⟨⟨_, cc 19 _ rfl⟩, ff 19 (by omega)⟩, ⟨⟨_, cc 21 _ rfl⟩, ff 21 (by omega)⟩, ⟨⟨_, cc 22 _ rfl⟩, ff 22 (by omega)⟩,
   cc 1 _ rfl, sl_marks wp.1.1.1 wp.1.2.1 hb, cc 3 _ rfl, sl_marks (x := d.p.s.t.sl) wp.1.1.2.1 wp.1.2.2 hb, cc 6 _ rfl, sl_marks wp.2.1.1.1 wp.2.1.2.1 hb, cc 8 _ rfl, sl_marks (x := d.p.p.t.sl) wp.2.1.1.2.1 wp.2.1.2.2 hb, cc 11 _ rfl, sl_marks wp.2.2.1.1 wp.2.2.2.1 hb, cc 13 _ rfl, sl_marks (x := d.p.o.t.sl) wp.2.2.1.2.1 wp.2.2.2.2 hb,
   cc 18 _ rfl, sl_marks e1 e2 hb, cc 20 _ rfl, sl_marks (x := d.e.d.t.sl) e3 e4 hb, cc 24 _ rfl, sl_marks hv wv hb, cc 23 _ rfl, cc 25 _ rfl, cc 26 _ rfl, cc 27 _ rfl, km_of hb d.e he we, tx_of ht wt hb⟩
theorem lm_of {B : Nat} {w w' : World} (hb : Bl w w') (e : UT) (hl : e.lies B w) (hw : e.wr B w) : LM B w.heap.size w' e := by
 induction e with
 | nil => exact False.elim hl
 | mk d ka kb ia ib =>
  obtain ⟨_, _, _, _, _, ⟨_, aR⟩, ⟨_, bR⟩, la, lb⟩ := hl
  obtain ⟨_, _, _, _, aF, bF, _, wa, wb⟩ := hw
  constructor
  · by_cases h0 : d.an = 0
    · exact .inl h0
    obtain ⟨g, ha, hB, hC, cc, ff⟩ := row_own aR aF hb h0 (by omega)
    exact .inr ⟨g, ha, fun i hi => ⟨um_of (la i hi) (wa i hi) hb hB hC (cc i hi) (ff i hi), ia i (la i hi) (wa i hi)⟩⟩
  by_cases h0 : d.bn = 0
  · exact .inl h0
  obtain ⟨g, ha, hB, hC, cc, ff⟩ := row_own bR bF hb h0 (by omega)
  exact .inr ⟨g, ha, fun i hi => ⟨um_of (lb i hi) (wb i hi) hb hB hC (cc i hi) (ff i hi), ib i (lb i hi) (wb i hi)⟩⟩
theorem QY.own.marks {B : Nat} {w w' : World} {x : QY} (h : x.own B w) (hb : Bl w w') : QM B w.heap.size w' x := by
 obtain ⟨hl, hw⟩ := h
 refine ⟨?_, ?_, ?_, ?_⟩
 · by_cases h0 : x.sn = 0
   · exact .inl h0
   obtain ⟨g, ha, hB, hC, cc, ff⟩ := row_own hl.s.1 hw.s.1 hb h0 (by omega)
   exact .inr ⟨g, ha, fun i hi => ⟨⟨hB, hC, ⟨⟨_, cc i hi 0 _ rfl⟩, ff i hi 0 (by omega)⟩, cc i hi 1 _ rfl, sl_marks (hw.s.2 i hi).1.1 (hw.s.2 i hi).2.1 hb, cc i hi 2 _ rfl, sl_marks (hw.s.2 i hi).1.2 (hw.s.2 i hi).2.2 hb⟩, trivial⟩⟩
 · by_cases h0 : x.bn = 0
   · exact .inl h0
   obtain ⟨g, ha, hB, hC, cc, ff⟩ := row_own hl.b.1 hw.b.1 hb h0 (by omega)
   exact .inr ⟨g, ha, fun i hi => ⟨um_of (hw.b.2 i hi).1 (hw.b.2 i hi).2 hb hB hC (cc i hi) (ff i hi), lm_of hb _ (hw.b.2 i hi).1 (hw.b.2 i hi).2⟩⟩
 · by_cases h0 : x.gn = 0
   · exact .inl h0
   obtain ⟨g, ha, hB, hC, cc, ff⟩ := row_own hl.g.1 (show RoW B w x.ga (x.gn * 1) by rw [Nat.mul_one]; exact hw.g.1) hb h0 (by omega)
   exact .inr ⟨g, ha, fun i hi => ⟨⟨hB, hC, by have h := cc i hi 0 _ rfl; rwa [Nat.mul_one] at h, sl_marks (hw.g.2 i hi).1 (hw.g.2 i hi).2 hb⟩, trivial⟩⟩
 by_cases h0 : x.on = 0
 · exact .inl h0
 obtain ⟨g, ha, hB, hC, cc, ff⟩ := row_own hl.o.1 hw.o.1 hb h0 (by omega)
 exact .inr ⟨g, ha, fun i hi => ⟨⟨hB, hC, ⟨⟨_, cc i hi 1 _ rfl⟩, ff i hi 1 (by omega)⟩, cc i hi 0 _ rfl, sl_marks (hw.o.2 i hi).1 (hw.o.2 i hi).2 hb⟩, trivial⟩⟩
end Go.Proofs.YthljoojcpbignaaGreatDoor
