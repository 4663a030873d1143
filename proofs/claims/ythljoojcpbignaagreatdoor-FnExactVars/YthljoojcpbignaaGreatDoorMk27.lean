import Derived.Test.YthljoojcpbignaaGreatDoorMk26
namespace Go.Proofs.YthljoojcpbignaaGreatDoor
open Go.RowKit Go.Deep
set_option maxHeartbeats 40000000
set_option maxRecDepth 100000
def WN (w : World) (g j : Nat) : Prop := N64 w g j ∧ w.frozen? ⟨g, j, none⟩ = false
def WO (w : World) (g j : Nat) : Prop := Bo w g j ∧ w.frozen? ⟨g, j, none⟩ = false
theorem WN.kb {w w' : World} {g j : Nat} (h : WN w g j) (k : KB w w') : WN w' g j := ⟨k.i _ _ h.1, (k.f _).trans h.2⟩
theorem WO.kb {w w' : World} {g j : Nat} (h : WO w g j) (k : KB w w') : WO w' g j := ⟨k.o _ _ h.1, (k.f _).trans h.2⟩
theorem WN.set {w : World} {g j : Nat} {v : Int} (h : WN w g j) : KB w (w.setCell ⟨g, j, none⟩ (.int .i64 v)) := KB.set h.1
theorem WO.set {w : World} {g j : Nat} {v : Bool} (h : WO w g j) : KB w (w.setCell ⟨g, j, none⟩ (.bool v)) := KB.seto h.1
def MkP (B C : Nat) (w : World) (k : Int) (c : Nat) (e : Ending) (w' : World) : Prop := (∃ q : Int, e = .returned (.int .i64 q) ∧ k ≤ q ∧ q ≤ k + (c : Int)) ∧ KB w w' ∧ Mid B C w w'
theorem markText_m (B C : Nat) (a : Option Addr) (len cap : Nat) (k : Int) (w : World) (h : TxM B C w a len) (hk : 0 ≤ k) (hk2 : k ≤ 2305843009213693952) :
 Calls Tryz.prog 20 #[.slice a len cap, .int .i64 k] w (MkP B C w k len) :=
 (markText_b B C a len cap k w h hk (by omega)).mono fun _ _ ⟨h1, h2⟩ => ⟨⟨_, h1, by omega, by omega⟩, h2⟩
structure EM (B C : Nat) (w : World) (g o : Nat) (d : EN) : Prop where
 hB : B ≤ g
 hC : g < C
 n0 : WN w g (o)
 n1 : WN w g (o + 1)
 n3 : WN w g (o + 3)
 n5 : WN w g (o + 5)
 n6 : WN w g (o + 6)
 s2 : w.cell? ⟨g, o + 2, none⟩ = some (.slice d.v.a d.v.len d.v.cap)
 t2 : TxM B C w d.v.a d.v.len
 s4 : w.cell? ⟨g, o + 4, none⟩ = some (.slice d.t.t.a d.t.t.len d.t.t.cap)
 t4 : TxM B C w d.t.t.a d.t.t.len
 s7 : w.cell? ⟨g, o + 7, none⟩ = some (.slice d.ka d.n d.kc)
theorem EM.kb {B C : Nat} {w w' : World} {g o : Nat} {d : EN} (h : EM B C w g o d) (k : KB w w') : EM B C w' g o d :=
 ⟨h.hB, h.hC, h.n0.kb k, h.n1.kb k, h.n3.kb k, h.n5.kb k, h.n6.kb k, k.s _ _ _ _ _ h.s2, h.t2.kb k, k.s _ _ _ _ _ h.s4, h.t4.kb k, k.s _ _ _ _ _ h.s7⟩
def KM (B C : Nat) (w : World) : ET → Prop
 | .nil => True
 | .mk d kid => d.n = 0 ∨ ∃ g, d.ka = some ⟨g, 0, none⟩ ∧ ∀ i, i < d.n → EM B C w g (i * 8) (kid i).d ∧ KM B C w (kid i)
theorem KM.kb {B C : Nat} {w w' : World} {e : ET} (h : KM B C w e) (k : KB w w') : KM B C w' e := by
 induction e with
 | nil => exact trivial
 | mk d kid ih =>
  rcases h with h | ⟨g, ha, hx⟩
  · exact .inl h
  exact .inr ⟨g, ha, fun i hi => ⟨(hx i hi).1.kb k, ih i (hx i hi).2⟩⟩
def kwt : ET → Nat
 | .nil => 0
 | .mk d kid => d.n + sumN d.n (fun i => (kid i).wt)
theorem wt_kwt (e : ET) : e.wt = e.d.v.len + e.d.t.t.len + kwt e := by
 cases e with
 | nil => rfl
 | mk d kid => rfl
def XM (B C : Nat) (w : World) (a : Option Addr) (n : Nat) (kid : Nat → ET) : Prop := n = 0 ∨ ∃ g, a = some ⟨g, 0, none⟩ ∧ ∀ i, i < n → EM B C w g (i * 8) (kid i).d ∧ KM B C w (kid i)
theorem XM.kb {B C : Nat} {w w' : World} {a : Option Addr} {n : Nat} {kid : Nat → ET} (h : XM B C w a n kid) (k : KB w w') : XM B C w' a n kid := by
 rcases h with h | ⟨g, ha, hx⟩
 · exact .inl h
 exact .inr ⟨g, ha, fun i hi => ⟨(hx i hi).1.kb k, (hx i hi).2.kb k⟩⟩
theorem markExprS_of (B C : Nat) (a : Option Addr) (cap n : Nat) (kid : Nat → ET) (k : Int) (w : World) (hk : 0 ≤ k) (hk2 : k + ((16 * (n + sumN n (fun i => (kid i).wt)) : Nat) : Int) ≤ 1152921504606846976) (hM : XM B C w a n kid)
 (IH : ∀ i, i < n → ∀ (W : World) (k : Int), 0 ≤ k → k + ((16 * kwt (kid i) : Nat) : Int) ≤ 1152921504606846976 → KM B C W (kid i) → Calls Tryz.prog 61 #[.slice (kid i).d.ka (kid i).d.n (kid i).d.kc, .int .i64 k] W (MkP B C W k (16 * kwt (kid i)))) :
 Calls Tryz.prog 61 #[.slice a n cap, .int .i64 k] w (MkP B C w k (16 * (n + sumN n (fun i => (kid i).wt)))) := by
 by_cases h0 : n = 0
 · subst h0
   clear hM IH
   go_in
   go_wp2
   refine wp_loop_rounds 1 ?_
   rw [rounds_succ]
   go_wp2
   go_ret
   exact ⟨⟨k, rfl, by omega, by omega⟩, KB.refl _, Mid.refl _ _ _⟩
 have HT := iH hM
 rcases hM with h | ⟨g, rfl, _⟩
 · exact absurd h h0
 have HX : Hd (∀ wr, KB w wr → ∀ i, i < n → EM B C wr g (i * 8) (kid i).d ∧ KM B C wr (kid i)) := fun wr hk i hi => by
  rcases HT.o.kb hk with h | ⟨g', e, hx⟩
  · exact absurd h h0
  cases e
  exact hx i hi
 have hn : n ≤ 1152921504606846976 := by omega
 have HQB := iH hk2
 have HI := iH IH
 clear HT hk2 IH
 go_in
 go_wp2_with fail
 go_loopw [1, 5] (fun a b wr => ∃ (j : Nat) (m : Int), j ≤ n ∧ b = .int .i64 j ∧ a = .int .i64 m ∧ 0 ≤ m ∧ m ≤ 1152921504606846976 ∧ Hd (k ≤ m ∧ m ≤ k + ((16 * (j + sumN j (fun i => (kid i).wt)) : Nat) : Int)) ∧ Hd (KB w wr) ∧ Hd (Mid B C w wr))
  (fun _ b _ => n - (intOf b).toNat)
 case atStart => exact ⟨0, k, nZ, rfl, rfl, hk, by have h := HQB.o; omega, ⟨by omega, by simp [sumN]⟩, KB.refl _, Mid.refl _ _ _⟩
 obtain ⟨j, m, hj, rfl, rfl, hm0, hm1, HM, HK, HD⟩ := hrel
 by_cases hlt : j < n
 · have HW := iH (wt_kwt (kid j))
   have HS : Hd (sumN j (fun i => (kid i).wt) + (kid j).wt ≤ sumN n (fun i => (kid i).wt)) := sumN_mono (f := (fun i => (kid i).wt)) hlt
   have hE := HX.o _ HK.o j hlt
   have HKa := fun (v0 : Int) (v1 : Int) => (show Hd (KB w ((wr.setCell ⟨g, j * 8, none⟩ (.int .i64 v0)).setCell ⟨g, j * 8 + 1, none⟩ (.int .i64 v1))) from ((HK.o.trans (hE.1.n0.set (v := v0))).trans ((hE.1.n1.kb (hE.1.n0.set (v := v0))).set (v := v1))))
   have HDa := fun (v0 : Int) (v1 : Int) => (show Hd (Mid B C w ((wr.setCell ⟨g, j * 8, none⟩ (.int .i64 v0)).setCell ⟨g, j * 8 + 1, none⟩ (.int .i64 v1))) from ((HD.o.set hE.1.hB hE.1.hC).set hE.1.hB hE.1.hC))
   obtain ⟨⟨y0, c0⟩, f0⟩ := hE.1.n0
   obtain ⟨⟨y1, c1⟩, f1⟩ := hE.1.n1
   have s2 := hE.1.s2
   clear hE
   go_wp2_with fail
   refine (markText_m B C (kid j).d.v.a (kid j).d.v.len (kid j).d.v.cap _ _ (HX.o _ (HKa _ _).o j hlt).1.t2 ?_ ?_).mono ?_
   · omega
   · omega
   rintro e w1 ⟨⟨q1, rfl, a1, b1⟩, hk', hd'⟩
   have HK1 := iH ((HKa _ _).o.trans hk')
   have HD1 := iH ((HDa _ _).o.tr hd')
   clear hk' hd' HKa HDa c0 f0 c1 f1 s2 HK HD
   have G1 : Hd (m ≤ q1 ∧ q1 ≤ m + ((2 + (kid j).d.v.len : Nat) : Int)) := (show _ ∧ _ by omega)
   clear a1 b1
   have u1 : q1 ≤ 1152921504606846976 := by have z1 := HM.o; have z2 := HS.o; have z3 := HW.o; have z4 := HQB.o; have z5 := G1.o; omega
   have p1 : 0 ≤ q1 := by have z := G1.o; omega
   have hE := HX.o _ HK1.o j hlt
   have HKa := fun (v0 : Int) => (show Hd (KB w (w1.setCell ⟨g, j * 8 + 3, none⟩ (.int .i64 v0))) from (HK1.o.trans (hE.1.n3.set (v := v0))))
   have HDa := fun (v0 : Int) => (show Hd (Mid B C w (w1.setCell ⟨g, j * 8 + 3, none⟩ (.int .i64 v0))) from (HD1.o.set hE.1.hB hE.1.hC))
   obtain ⟨⟨y3, c3⟩, f3⟩ := hE.1.n3
   have s4 := hE.1.s4
   clear hE
   go_wp2_with fail
   refine (markText_m B C (kid j).d.t.t.a (kid j).d.t.t.len (kid j).d.t.t.cap _ _ (HX.o _ (HKa _).o j hlt).1.t4 ?_ ?_).mono ?_
   · omega
   · omega
   rintro e w2 ⟨⟨q2, rfl, a2, b2⟩, hk', hd'⟩
   have HK2 := iH ((HKa _).o.trans hk')
   have HD2 := iH ((HDa _).o.tr hd')
   clear hk' hd' HKa HDa c3 f3 s4 HK1 HD1
   have G2 : Hd (m ≤ q2 ∧ q2 ≤ m + ((3 + (kid j).d.v.len + (kid j).d.t.t.len : Nat) : Int)) := (show _ ∧ _ by have z := G1.o; omega)
   clear a2 b2 u1 p1
   have u2 : q2 ≤ 1152921504606846976 := by have z1 := HM.o; have z2 := HS.o; have z3 := HW.o; have z4 := HQB.o; have z5 := G2.o; omega
   have p2 : 0 ≤ q2 := by have z := G2.o; omega
   clear G1
   have hE := HX.o _ HK2.o j hlt
   have HKa := fun (v0 : Int) (v1 : Int) => (show Hd (KB w ((w2.setCell ⟨g, j * 8 + 5, none⟩ (.int .i64 v0)).setCell ⟨g, j * 8 + 6, none⟩ (.int .i64 v1))) from ((HK2.o.trans (hE.1.n5.set (v := v0))).trans ((hE.1.n6.kb (hE.1.n5.set (v := v0))).set (v := v1))))
   have HDa := fun (v0 : Int) (v1 : Int) => (show Hd (Mid B C w ((w2.setCell ⟨g, j * 8 + 5, none⟩ (.int .i64 v0)).setCell ⟨g, j * 8 + 6, none⟩ (.int .i64 v1))) from ((HD2.o.set hE.1.hB hE.1.hC).set hE.1.hB hE.1.hC))
   obtain ⟨⟨y5, c5⟩, f5⟩ := hE.1.n5
   obtain ⟨⟨y6, c6⟩, f6⟩ := hE.1.n6
   have s7 := hE.1.s7
   clear hE
   go_wp2_with fail
   refine (HI.o j hlt _ _ ?_ ?_ (HX.o _ (HKa _ _).o j hlt).2).mono ?_
   · omega
   · have z1 := HM.o; have z2 := HS.o; have z3 := HW.o; have z4 := HQB.o; have z5 := G2.o; omega
   rintro e w3 ⟨⟨q3, rfl, a3, b3⟩, hk', hd'⟩
   have HK3 := iH ((HKa _ _).o.trans hk')
   have HD3 := iH ((HDa _ _).o.tr hd')
   clear hk' hd' HKa HDa c5 f5 c6 f6 s7 HK2 HD2
   have G3 : Hd (m ≤ q3 ∧ q3 ≤ m + ((5 + (kid j).d.v.len + (kid j).d.t.t.len + 16 * kwt (kid j) : Nat) : Int)) := (show _ ∧ _ by have z := G2.o; omega)
   clear a3 b3 u2 p2
   have u3 : q3 ≤ 1152921504606846976 := by have z1 := HM.o; have z2 := HS.o; have z3 := HW.o; have z4 := HQB.o; have z5 := G3.o; omega
   have p3 : 0 ≤ q3 := by have z := G3.o; omega
   clear G2
   go_wp2
   go_roundw
   case rel =>
    refine ⟨j + 1, _, by omega, by go_num, rfl, by omega, by omega, ?_, HK3, HD3⟩
    have z5 := G3.o
    have z1 := HM.o
    have z2 := HW.o
    show k ≤ _ ∧ _ ≤ k + ((16 * (j + 1 + (sumN j (fun i => (kid i).wt) + (kid j).wt)) : Nat) : Int)
    omega
   case measure => simp [intOf]; omega
 obtain rfl : j = n := by omega
 go_wp2
 go_ret
 exact ⟨⟨m, rfl, HM.o.1, HM.o.2⟩, HK.o, HD.o⟩
theorem markKids_any (B C : Nat) (e : ET) : ∀ (w : World) (k : Int), 0 ≤ k → k + ((16 * kwt e : Nat) : Int) ≤ 1152921504606846976 → KM B C w e →
 Calls Tryz.prog 61 #[.slice e.d.ka e.d.n e.d.kc, .int .i64 k] w (MkP B C w k (16 * kwt e)) := by
 induction e with
 | nil => exact fun w k hk hk2 _ => markExprS_of B C _ _ 0 (fun _ => .nil) k w hk (by have h : kwt .nil = 0 := rfl; simp [sumN]; omega) (.inl rfl) (fun i hi => absurd hi nN)
 | mk d kid ih => exact fun w k hk hk2 hM => markExprS_of B C d.ka d.kc d.n kid k w hk hk2 hM fun i hi W k' h1 h2 h3 => ih i W k' h1 h2 h3
structure TE (B C : Nat) (w : World) (g o : Nat) (d : TB) : Prop where
 hB : B ≤ g
 hC : g < C
 n0 : WN w g (o)
 n2 : WN w g (o + 2)
 n3 : WN w g (o + 3)
 s1 : w.cell? ⟨g, o + 1, none⟩ = some (.slice d.t.a d.t.len d.t.cap)
 t1 : TxM B C w d.t.a d.t.len
theorem TE.kb {B C : Nat} {w w' : World} {g o : Nat} {d : TB} (h : TE B C w g o d) (k : KB w w') : TE B C w' g o d :=
 ⟨h.hB, h.hC, h.n0.kb k, h.n2.kb k, h.n3.kb k, k.s _ _ _ _ _ h.s1, h.t1.kb k⟩
def TsX (B C : Nat) (w : World) (a : Option Addr) (n : Nat) (kid : Nat → TB) : Prop := n = 0 ∨ ∃ g, a = some ⟨g, 0, none⟩ ∧ ∀ i, i < n → TE B C w g (i * 4) (kid i) ∧ True
theorem TsX.kb {B C : Nat} {w w' : World} {a : Option Addr} {n : Nat} {kid : Nat → TB} (h : TsX B C w a n kid) (k : KB w w') : TsX B C w' a n kid := by
 rcases h with h | ⟨g, ha, hx⟩
 · exact .inl h
 exact .inr ⟨g, ha, fun i hi => ⟨(hx i hi).1.kb k, trivial⟩⟩
theorem markTermS_of (B C : Nat) (a : Option Addr) (cap n : Nat) (kid : Nat → TB) (k : Int) (w : World) (hk : 0 ≤ k) (hk2 : k + ((16 * (n + sumN n (fun i => (kid i).t.len)) : Nat) : Int) ≤ 1152921504606846976) (hM : TsX B C w a n kid) :
 Calls Tryz.prog 62 #[.slice a n cap, .int .i64 k] w (MkP B C w k (16 * (n + sumN n (fun i => (kid i).t.len)))) := by
 by_cases h0 : n = 0
 · subst h0
   clear hM
   go_in
   go_wp2
   refine wp_loop_rounds 1 ?_
   rw [rounds_succ]
   go_wp2
   go_ret
   exact ⟨⟨k, rfl, by omega, by omega⟩, KB.refl _, Mid.refl _ _ _⟩
 have HT := iH hM
 rcases hM with h | ⟨g, rfl, _⟩
 · exact absurd h h0
 have HX : Hd (∀ wr, KB w wr → ∀ i, i < n → TE B C wr g (i * 4) (kid i) ∧ True) := fun wr hk i hi => by
  rcases HT.o.kb hk with h | ⟨g', e, hx⟩
  · exact absurd h h0
  cases e
  exact hx i hi
 have hn : n ≤ 1152921504606846976 := by omega
 have HQB := iH hk2
 skip
 clear HT hk2
 go_in
 go_wp2_with fail
 go_loopw [1, 5] (fun a b wr => ∃ (j : Nat) (m : Int), j ≤ n ∧ b = .int .i64 j ∧ a = .int .i64 m ∧ 0 ≤ m ∧ m ≤ 1152921504606846976 ∧ Hd (k ≤ m ∧ m ≤ k + ((16 * (j + sumN j (fun i => (kid i).t.len)) : Nat) : Int)) ∧ Hd (KB w wr) ∧ Hd (Mid B C w wr))
  (fun _ b _ => n - (intOf b).toNat)
 case atStart => exact ⟨0, k, nZ, rfl, rfl, hk, by have h := HQB.o; omega, ⟨by omega, by simp [sumN]⟩, KB.refl _, Mid.refl _ _ _⟩
 obtain ⟨j, m, hj, rfl, rfl, hm0, hm1, HM, HK, HD⟩ := hrel
 by_cases hlt : j < n
 · have HS : Hd (sumN j (fun i => (kid i).t.len) + (kid j).t.len ≤ sumN n (fun i => (kid i).t.len)) := sumN_mono (f := (fun i => (kid i).t.len)) hlt
   have hE := HX.o _ HK.o j hlt
   have HKa := fun (v0 : Int) => (show Hd (KB w (wr.setCell ⟨g, j * 4, none⟩ (.int .i64 v0))) from (HK.o.trans (hE.1.n0.set (v := v0))))
   have HDa := fun (v0 : Int) => (show Hd (Mid B C w (wr.setCell ⟨g, j * 4, none⟩ (.int .i64 v0))) from (HD.o.set hE.1.hB hE.1.hC))
   obtain ⟨⟨y0, c0⟩, f0⟩ := hE.1.n0
   have s1 := hE.1.s1
   clear hE
   go_wp2_with fail
   refine (markText_m B C (kid j).t.a (kid j).t.len (kid j).t.cap _ _ (HX.o _ (HKa _).o j hlt).1.t1 ?_ ?_).mono ?_
   · omega
   · omega
   rintro e w1 ⟨⟨q1, rfl, a1, b1⟩, hk', hd'⟩
   have HK1 := iH ((HKa _).o.trans hk')
   have HD1 := iH ((HDa _).o.tr hd')
   clear hk' hd' HKa HDa c0 f0 s1 HK HD
   have G1 : Hd (m ≤ q1 ∧ q1 ≤ m + ((1 + (kid j).t.len : Nat) : Int)) := (show _ ∧ _ by omega)
   clear a1 b1
   have u1 : q1 ≤ 1152921504606846976 := by have z1 := HM.o; have z2 := HS.o; have z4 := HQB.o; have z5 := G1.o; omega
   have p1 : 0 ≤ q1 := by have z := G1.o; omega
   have ub : q1 + 2 ≤ 1152921504606846976 := by have z1 := HM.o; have z2 := HS.o; have z4 := HQB.o; have z5 := G1.o; omega
   have hE := HX.o _ HK1.o j hlt
   have HKa := fun (v0 : Int) (v1 : Int) => (show Hd (KB w ((w1.setCell ⟨g, j * 4 + 2, none⟩ (.int .i64 v0)).setCell ⟨g, j * 4 + 3, none⟩ (.int .i64 v1))) from ((HK1.o.trans (hE.1.n2.set (v := v0))).trans ((hE.1.n3.kb (hE.1.n2.set (v := v0))).set (v := v1))))
   have HDa := fun (v0 : Int) (v1 : Int) => (show Hd (Mid B C w ((w1.setCell ⟨g, j * 4 + 2, none⟩ (.int .i64 v0)).setCell ⟨g, j * 4 + 3, none⟩ (.int .i64 v1))) from ((HD1.o.set hE.1.hB hE.1.hC).set hE.1.hB hE.1.hC))
   obtain ⟨⟨y2, c2⟩, f2⟩ := hE.1.n2
   obtain ⟨⟨y3, c3⟩, f3⟩ := hE.1.n3
   clear hE
   go_wp2
   go_roundw
   case rel =>
    refine ⟨j + 1, _, by omega, by go_num, rfl, by omega, by omega, ?_, HKa _ _, HDa _ _⟩
    have z5 := G1.o
    have z1 := HM.o
    show k ≤ _ ∧ _ ≤ k + ((16 * (j + 1 + (sumN j (fun i => (kid i).t.len) + (kid j).t.len)) : Nat) : Int)
    omega
   case measure => simp [intOf]; omega
 obtain rfl : j = n := by omega
 go_wp2
 go_ret
 exact ⟨⟨m, rfl, HM.o.1, HM.o.2⟩, HK.o, HD.o⟩
def tbN (tb : List TB) (i : Nat) : TB := tb[i]?.getD EN0.t
theorem twt_eq (tb : List TB) : twt tb tb.length = sumN tb.length (fun i => (tbN tb i).t.len) := by
 refine sumN_congr fun i hi => ?_
 unfold tbN
 rw [List.getElem?_eq_getElem hi]
 rfl
theorem markTermS_m (B C : Nat) (a : Option Addr) (cap : Nat) (tb : List TB) (k : Int) (w : World) (hk : 0 ≤ k) (hk2 : k + ((16 * (tb.length + twt tb tb.length) : Nat) : Int) ≤ 1152921504606846976) (hM : TsX B C w a tb.length (tbN tb)) :
 Calls Tryz.prog 62 #[.slice a tb.length cap, .int .i64 k] w (MkP B C w k (16 * (tb.length + twt tb tb.length))) := by
 rw [twt_eq] at hk2 ⊢
 exact markTermS_of B C a cap tb.length (tbN tb) k w hk hk2 hM
structure UM (B C : Nat) (w : World) (g o : Nat) (d : UN) : Prop where
 hB : B ≤ g
 hC : g < C
 n0 : WN w g (o)
 n2 : WN w g (o + 2)
 n4 : WN w g (o + 4)
 n5 : WN w g (o + 5)
 n7 : WN w g (o + 7)
 n9 : WN w g (o + 9)
 n10 : WN w g (o + 10)
 n12 : WN w g (o + 12)
 n14 : WN w g (o + 14)
 n15 : WN w g (o + 15)
 n16 : WN w g (o + 16)
 n17 : WN w g (o + 17)
 n19 : WN w g (o + 19)
 n21 : WN w g (o + 21)
 n22 : WN w g (o + 22)
 s1 : w.cell? ⟨g, o + 1, none⟩ = some (.slice d.p.s.v.a d.p.s.v.len d.p.s.v.cap)
 t1 : TxM B C w d.p.s.v.a d.p.s.v.len
 s3 : w.cell? ⟨g, o + 3, none⟩ = some (.slice d.p.s.t.t.a d.p.s.t.t.len d.p.s.t.t.cap)
 t3 : TxM B C w d.p.s.t.t.a d.p.s.t.t.len
 s6 : w.cell? ⟨g, o + 6, none⟩ = some (.slice d.p.p.v.a d.p.p.v.len d.p.p.v.cap)
 t6 : TxM B C w d.p.p.v.a d.p.p.v.len
 s8 : w.cell? ⟨g, o + 8, none⟩ = some (.slice d.p.p.t.t.a d.p.p.t.t.len d.p.p.t.t.cap)
 t8 : TxM B C w d.p.p.t.t.a d.p.p.t.t.len
 s11 : w.cell? ⟨g, o + 11, none⟩ = some (.slice d.p.o.v.a d.p.o.v.len d.p.o.v.cap)
 t11 : TxM B C w d.p.o.v.a d.p.o.v.len
 s13 : w.cell? ⟨g, o + 13, none⟩ = some (.slice d.p.o.t.t.a d.p.o.t.t.len d.p.o.t.t.cap)
 t13 : TxM B C w d.p.o.t.t.a d.p.o.t.t.len
 s18 : w.cell? ⟨g, o + 18, none⟩ = some (.slice d.e.d.v.a d.e.d.v.len d.e.d.v.cap)
 t18 : TxM B C w d.e.d.v.a d.e.d.v.len
 s20 : w.cell? ⟨g, o + 20, none⟩ = some (.slice d.e.d.t.t.a d.e.d.t.t.len d.e.d.t.t.cap)
 t20 : TxM B C w d.e.d.t.t.a d.e.d.t.t.len
 s24 : w.cell? ⟨g, o + 24, none⟩ = some (.slice d.v.a d.v.len d.v.cap)
 t24 : TxM B C w d.v.a d.v.len
 s23 : w.cell? ⟨g, o + 23, none⟩ = some (.slice d.e.d.ka d.e.d.n d.e.d.kc)
 s25 : w.cell? ⟨g, o + 25, none⟩ = some (.slice d.ta d.tb.length d.tc)
 s26 : w.cell? ⟨g, o + 26, none⟩ = some (.slice d.aa d.an d.ac)
 s27 : w.cell? ⟨g, o + 27, none⟩ = some (.slice d.ba d.bn d.bc)
 ke : KM B C w d.e
 te : TsX B C w d.ta d.tb.length (tbN d.tb)
theorem UM.kb {B C : Nat} {w w' : World} {g o : Nat} {d : UN} (h : UM B C w g o d) (k : KB w w') : UM B C w' g o d :=
 ⟨h.hB, h.hC, h.n0.kb k, h.n2.kb k, h.n4.kb k, h.n5.kb k, h.n7.kb k, h.n9.kb k, h.n10.kb k, h.n12.kb k, h.n14.kb k, h.n15.kb k, h.n16.kb k, h.n17.kb k, h.n19.kb k, h.n21.kb k, h.n22.kb k, k.s _ _ _ _ _ h.s1, h.t1.kb k, k.s _ _ _ _ _ h.s3, h.t3.kb k, k.s _ _ _ _ _ h.s6, h.t6.kb k, k.s _ _ _ _ _ h.s8, h.t8.kb k, k.s _ _ _ _ _ h.s11, h.t11.kb k, k.s _ _ _ _ _ h.s13, h.t13.kb k, k.s _ _ _ _ _ h.s18, h.t18.kb k, k.s _ _ _ _ _ h.s20, h.t20.kb k, k.s _ _ _ _ _ h.s24, h.t24.kb k, k.s _ _ _ _ _ h.s23, k.s _ _ _ _ _ h.s25, k.s _ _ _ _ _ h.s26, k.s _ _ _ _ _ h.s27, h.ke.kb k, h.te.kb k⟩
def LM (B C : Nat) (w : World) : UT → Prop
 | .nil => True
 | .mk d ka kb => (d.an = 0 ∨ ∃ g, d.aa = some ⟨g, 0, none⟩ ∧ ∀ i, i < d.an → UM B C w g (i * 28) (ka i).d ∧ LM B C w (ka i)) ∧ (d.bn = 0 ∨ ∃ g, d.ba = some ⟨g, 0, none⟩ ∧ ∀ i, i < d.bn → UM B C w g (i * 28) (kb i).d ∧ LM B C w (kb i))
theorem LM.kb {B C : Nat} {w w' : World} {e : UT} (h : LM B C w e) (k : KB w w') : LM B C w' e := by
 induction e with
 | nil => exact trivial
 | mk d ka kb ia ib =>
  obtain ⟨ha, hb⟩ := h
  constructor
  · rcases ha with h | ⟨g, ha, hx⟩
    · exact .inl h
    exact .inr ⟨g, ha, fun i hi => ⟨(hx i hi).1.kb k, ia i (hx i hi).2⟩⟩
  rcases hb with h | ⟨g, ha, hx⟩
  · exact .inl h
  exact .inr ⟨g, ha, fun i hi => ⟨(hx i hi).1.kb k, ib i (hx i hi).2⟩⟩
def UX (B C : Nat) (w : World) (a : Option Addr) (n : Nat) (kid : Nat → UT) : Prop := n = 0 ∨ ∃ g, a = some ⟨g, 0, none⟩ ∧ ∀ i, i < n → UM B C w g (i * 28) (kid i).d ∧ LM B C w (kid i)
theorem UX.kb {B C : Nat} {w w' : World} {a : Option Addr} {n : Nat} {kid : Nat → UT} (h : UX B C w a n kid) (k : KB w w') : UX B C w' a n kid := by
 rcases h with h | ⟨g, ha, hx⟩
 · exact .inl h
 exact .inr ⟨g, ha, fun i hi => ⟨(hx i hi).1.kb k, (hx i hi).2.kb k⟩⟩
def awt : UT → Nat
 | .nil => 0
 | .mk d ka _ => d.an + sumN d.an (fun i => (ka i).wt)
def bwt : UT → Nat
 | .nil => 0
 | .mk d _ kb => d.bn + sumN d.bn (fun i => (kb i).wt)
theorem wt_uwt (e : UT) : e.wt = ((e.d.p.s.v.len + e.d.p.s.t.t.len) + (e.d.p.p.v.len + e.d.p.p.t.t.len) + (e.d.p.o.v.len + e.d.p.o.t.t.len)) + (e.d.e.d.v.len + e.d.e.d.t.t.len + kwt e.d.e) + e.d.v.len + (e.d.tb.length + twt e.d.tb e.d.tb.length) + awt e + bwt e := by
 cases e with
 | nil => rfl
 | mk d ka kb =>
  show d.p.wt + d.e.wt + d.v.len + _ + _ + _ = _
  rw [wt_kwt d.e]
  rfl
theorem markElemS_of (B C : Nat) (a : Option Addr) (cap n : Nat) (kid : Nat → UT) (k : Int) (w : World) (hk : 0 ≤ k) (hk2 : k + ((16 * (n + sumN n (fun i => (kid i).wt)) : Nat) : Int) ≤ 1152921504606846976) (hM : UX B C w a n kid)
 (IH : ∀ i, i < n → ∀ (W : World) (k : Int), 0 ≤ k → LM B C W (kid i) → (k + ((16 * awt (kid i) : Nat) : Int) ≤ 1152921504606846976 → Calls Tryz.prog 38 #[.slice (kid i).d.aa (kid i).d.an (kid i).d.ac, .int .i64 k] W (MkP B C W k (16 * awt (kid i)))) ∧ (k + ((16 * bwt (kid i) : Nat) : Int) ≤ 1152921504606846976 → Calls Tryz.prog 38 #[.slice (kid i).d.ba (kid i).d.bn (kid i).d.bc, .int .i64 k] W (MkP B C W k (16 * bwt (kid i))))) :
 Calls Tryz.prog 38 #[.slice a n cap, .int .i64 k] w (MkP B C w k (16 * (n + sumN n (fun i => (kid i).wt)))) := by
 by_cases h0 : n = 0
 · subst h0
   clear hM IH
   go_in
   go_wp2
   refine wp_loop_rounds 1 ?_
   rw [rounds_succ]
   go_wp2
   go_ret
   exact ⟨⟨k, rfl, by omega, by omega⟩, KB.refl _, Mid.refl _ _ _⟩
 have HT := iH hM
 rcases hM with h | ⟨g, rfl, _⟩
 · exact absurd h h0
 have HX : Hd (∀ wr, KB w wr → ∀ i, i < n → UM B C wr g (i * 28) (kid i).d ∧ LM B C wr (kid i)) := fun wr hk i hi => by
  rcases HT.o.kb hk with h | ⟨g', e, hx⟩
  · exact absurd h h0
  cases e
  exact hx i hi
 have hn : n ≤ 1152921504606846976 := by omega
 have HQB := iH hk2
 have HI := iH IH
 clear HT hk2 IH
 go_in
 go_wp2_with fail
 go_loopw [1, 5] (fun a b wr => ∃ (j : Nat) (m : Int), j ≤ n ∧ b = .int .i64 j ∧ a = .int .i64 m ∧ 0 ≤ m ∧ m ≤ 1152921504606846976 ∧ Hd (k ≤ m ∧ m ≤ k + ((16 * (j + sumN j (fun i => (kid i).wt)) : Nat) : Int)) ∧ Hd (KB w wr) ∧ Hd (Mid B C w wr))
  (fun _ b _ => n - (intOf b).toNat)
 case atStart => exact ⟨0, k, nZ, rfl, rfl, hk, by have h := HQB.o; omega, ⟨by omega, by simp [sumN]⟩, KB.refl _, Mid.refl _ _ _⟩
 obtain ⟨j, m, hj, rfl, rfl, hm0, hm1, HM, HK, HD⟩ := hrel
 by_cases hlt : j < n
 · have HW := iH (wt_uwt (kid j))
   have HS : Hd (sumN j (fun i => (kid i).wt) + (kid j).wt ≤ sumN n (fun i => (kid i).wt)) := sumN_mono (f := (fun i => (kid i).wt)) hlt
   have hE := HX.o _ HK.o j hlt
   have HKa := fun (v0 : Int) => (show Hd (KB w (wr.setCell ⟨g, j * 28, none⟩ (.int .i64 v0))) from (HK.o.trans (hE.1.n0.set (v := v0))))
   have HDa := fun (v0 : Int) => (show Hd (Mid B C w (wr.setCell ⟨g, j * 28, none⟩ (.int .i64 v0))) from (HD.o.set hE.1.hB hE.1.hC))
   obtain ⟨⟨y0, c0⟩, f0⟩ := hE.1.n0
   have s1 := hE.1.s1
   clear hE
   go_wp2_with fail
   refine (markText_m B C (kid j).d.p.s.v.a (kid j).d.p.s.v.len (kid j).d.p.s.v.cap _ _ (HX.o _ (HKa _).o j hlt).1.t1 ?_ ?_).mono ?_
   · omega
   · omega
   rintro e w1 ⟨⟨q1, rfl, a1, b1⟩, hk', hd'⟩
   have HK1 := iH ((HKa _).o.trans hk')
   have HD1 := iH ((HDa _).o.tr hd')
   clear hk' hd' HKa HDa c0 f0 s1 HK HD
   have G1 : Hd (m ≤ q1 ∧ q1 ≤ m + ((1 + (kid j).d.p.s.v.len : Nat) : Int)) := (show _ ∧ _ by omega)
   clear a1 b1
   have u1 : q1 ≤ 1152921504606846976 := by have z1 := HM.o; have z2 := HS.o; have z3 := HW.o; have z4 := HQB.o; have z5 := G1.o; omega
   have p1 : 0 ≤ q1 := by have z := G1.o; omega
   have hE := HX.o _ HK1.o j hlt
   have HKa := fun (v0 : Int) => (show Hd (KB w (w1.setCell ⟨g, j * 28 + 2, none⟩ (.int .i64 v0))) from (HK1.o.trans (hE.1.n2.set (v := v0))))
   have HDa := fun (v0 : Int) => (show Hd (Mid B C w (w1.setCell ⟨g, j * 28 + 2, none⟩ (.int .i64 v0))) from (HD1.o.set hE.1.hB hE.1.hC))
   obtain ⟨⟨y2, c2⟩, f2⟩ := hE.1.n2
   have s3 := hE.1.s3
   clear hE
   go_wp2_with fail
   refine (markText_m B C (kid j).d.p.s.t.t.a (kid j).d.p.s.t.t.len (kid j).d.p.s.t.t.cap _ _ (HX.o _ (HKa _).o j hlt).1.t3 ?_ ?_).mono ?_
   · omega
   · omega
   rintro e w2 ⟨⟨q2, rfl, a2, b2⟩, hk', hd'⟩
   have HK2 := iH ((HKa _).o.trans hk')
   have HD2 := iH ((HDa _).o.tr hd')
   clear hk' hd' HKa HDa c2 f2 s3 HK1 HD1
   have G2 : Hd (m ≤ q2 ∧ q2 ≤ m + ((2 + (kid j).d.p.s.v.len + (kid j).d.p.s.t.t.len : Nat) : Int)) := (show _ ∧ _ by have z := G1.o; omega)
   clear a2 b2 u1 p1
   have u2 : q2 ≤ 1152921504606846976 := by have z1 := HM.o; have z2 := HS.o; have z3 := HW.o; have z4 := HQB.o; have z5 := G2.o; omega
   have p2 : 0 ≤ q2 := by have z := G2.o; omega
   clear G1
   have hE := HX.o _ HK2.o j hlt
   have HKa := fun (v0 : Int) (v1 : Int) => (show Hd (KB w ((w2.setCell ⟨g, j * 28 + 4, none⟩ (.int .i64 v0)).setCell ⟨g, j * 28 + 5, none⟩ (.int .i64 v1))) from ((HK2.o.trans (hE.1.n4.set (v := v0))).trans ((hE.1.n5.kb (hE.1.n4.set (v := v0))).set (v := v1))))
   have HDa := fun (v0 : Int) (v1 : Int) => (show Hd (Mid B C w ((w2.setCell ⟨g, j * 28 + 4, none⟩ (.int .i64 v0)).setCell ⟨g, j * 28 + 5, none⟩ (.int .i64 v1))) from ((HD2.o.set hE.1.hB hE.1.hC).set hE.1.hB hE.1.hC))
   obtain ⟨⟨y4, c4⟩, f4⟩ := hE.1.n4
   obtain ⟨⟨y5, c5⟩, f5⟩ := hE.1.n5
   have s6 := hE.1.s6
   clear hE
   go_wp2_with fail
   refine (markText_m B C (kid j).d.p.p.v.a (kid j).d.p.p.v.len (kid j).d.p.p.v.cap _ _ (HX.o _ (HKa _ _).o j hlt).1.t6 ?_ ?_).mono ?_
   · omega
   · omega
   rintro e w3 ⟨⟨q3, rfl, a3, b3⟩, hk', hd'⟩
   have HK3 := iH ((HKa _ _).o.trans hk')
   have HD3 := iH ((HDa _ _).o.tr hd')
   clear hk' hd' HKa HDa c4 f4 c5 f5 s6 HK2 HD2
   have G3 : Hd (m ≤ q3 ∧ q3 ≤ m + ((4 + (kid j).d.p.s.v.len + (kid j).d.p.s.t.t.len + (kid j).d.p.p.v.len : Nat) : Int)) := (show _ ∧ _ by have z := G2.o; omega)
   clear a3 b3 u2 p2
   have u3 : q3 ≤ 1152921504606846976 := by have z1 := HM.o; have z2 := HS.o; have z3 := HW.o; have z4 := HQB.o; have z5 := G3.o; omega
   have p3 : 0 ≤ q3 := by have z := G3.o; omega
   clear G2
   have hE := HX.o _ HK3.o j hlt
   have HKa := fun (v0 : Int) => (show Hd (KB w (w3.setCell ⟨g, j * 28 + 7, none⟩ (.int .i64 v0))) from (HK3.o.trans (hE.1.n7.set (v := v0))))
   have HDa := fun (v0 : Int) => (show Hd (Mid B C w (w3.setCell ⟨g, j * 28 + 7, none⟩ (.int .i64 v0))) from (HD3.o.set hE.1.hB hE.1.hC))
   obtain ⟨⟨y7, c7⟩, f7⟩ := hE.1.n7
   have s8 := hE.1.s8
   clear hE
   go_wp2_with fail
   refine (markText_m B C (kid j).d.p.p.t.t.a (kid j).d.p.p.t.t.len (kid j).d.p.p.t.t.cap _ _ (HX.o _ (HKa _).o j hlt).1.t8 ?_ ?_).mono ?_
   · omega
   · omega
   rintro e w4 ⟨⟨q4, rfl, a4, b4⟩, hk', hd'⟩
   have HK4 := iH ((HKa _).o.trans hk')
   have HD4 := iH ((HDa _).o.tr hd')
   clear hk' hd' HKa HDa c7 f7 s8 HK3 HD3
   have G4 : Hd (m ≤ q4 ∧ q4 ≤ m + ((5 + (kid j).d.p.s.v.len + (kid j).d.p.s.t.t.len + (kid j).d.p.p.v.len + (kid j).d.p.p.t.t.len : Nat) : Int)) := (show _ ∧ _ by have z := G3.o; omega)
   clear a4 b4 u3 p3
   have u4 : q4 ≤ 1152921504606846976 := by have z1 := HM.o; have z2 := HS.o; have z3 := HW.o; have z4 := HQB.o; have z5 := G4.o; omega
   have p4 : 0 ≤ q4 := by have z := G4.o; omega
   clear G3
   have hE := HX.o _ HK4.o j hlt
   have HKa := fun (v0 : Int) (v1 : Int) => (show Hd (KB w ((w4.setCell ⟨g, j * 28 + 9, none⟩ (.int .i64 v0)).setCell ⟨g, j * 28 + 10, none⟩ (.int .i64 v1))) from ((HK4.o.trans (hE.1.n9.set (v := v0))).trans ((hE.1.n10.kb (hE.1.n9.set (v := v0))).set (v := v1))))
   have HDa := fun (v0 : Int) (v1 : Int) => (show Hd (Mid B C w ((w4.setCell ⟨g, j * 28 + 9, none⟩ (.int .i64 v0)).setCell ⟨g, j * 28 + 10, none⟩ (.int .i64 v1))) from ((HD4.o.set hE.1.hB hE.1.hC).set hE.1.hB hE.1.hC))
   obtain ⟨⟨y9, c9⟩, f9⟩ := hE.1.n9
   obtain ⟨⟨y10, c10⟩, f10⟩ := hE.1.n10
   have s11 := hE.1.s11
   clear hE
   go_wp2_with fail
   refine (markText_m B C (kid j).d.p.o.v.a (kid j).d.p.o.v.len (kid j).d.p.o.v.cap _ _ (HX.o _ (HKa _ _).o j hlt).1.t11 ?_ ?_).mono ?_
   · omega
   · omega
   rintro e w5 ⟨⟨q5, rfl, a5, b5⟩, hk', hd'⟩
   have HK5 := iH ((HKa _ _).o.trans hk')
   have HD5 := iH ((HDa _ _).o.tr hd')
   clear hk' hd' HKa HDa c9 f9 c10 f10 s11 HK4 HD4
   have G5 : Hd (m ≤ q5 ∧ q5 ≤ m + ((7 + (kid j).d.p.s.v.len + (kid j).d.p.s.t.t.len + (kid j).d.p.p.v.len + (kid j).d.p.p.t.t.len + (kid j).d.p.o.v.len : Nat) : Int)) := (show _ ∧ _ by have z := G4.o; omega)
   clear a5 b5 u4 p4
   have u5 : q5 ≤ 1152921504606846976 := by have z1 := HM.o; have z2 := HS.o; have z3 := HW.o; have z4 := HQB.o; have z5 := G5.o; omega
   have p5 : 0 ≤ q5 := by have z := G5.o; omega
   clear G4
   have hE := HX.o _ HK5.o j hlt
   have HKa := fun (v0 : Int) => (show Hd (KB w (w5.setCell ⟨g, j * 28 + 12, none⟩ (.int .i64 v0))) from (HK5.o.trans (hE.1.n12.set (v := v0))))
   have HDa := fun (v0 : Int) => (show Hd (Mid B C w (w5.setCell ⟨g, j * 28 + 12, none⟩ (.int .i64 v0))) from (HD5.o.set hE.1.hB hE.1.hC))
   obtain ⟨⟨y12, c12⟩, f12⟩ := hE.1.n12
   have s13 := hE.1.s13
   clear hE
   go_wp2_with fail
   refine (markText_m B C (kid j).d.p.o.t.t.a (kid j).d.p.o.t.t.len (kid j).d.p.o.t.t.cap _ _ (HX.o _ (HKa _).o j hlt).1.t13 ?_ ?_).mono ?_
   · omega
   · omega
   rintro e w6 ⟨⟨q6, rfl, a6, b6⟩, hk', hd'⟩
   have HK6 := iH ((HKa _).o.trans hk')
   have HD6 := iH ((HDa _).o.tr hd')
   clear hk' hd' HKa HDa c12 f12 s13 HK5 HD5
   have G6 : Hd (m ≤ q6 ∧ q6 ≤ m + ((8 + (kid j).d.p.s.v.len + (kid j).d.p.s.t.t.len + (kid j).d.p.p.v.len + (kid j).d.p.p.t.t.len + (kid j).d.p.o.v.len + (kid j).d.p.o.t.t.len : Nat) : Int)) := (show _ ∧ _ by have z := G5.o; omega)
   clear a6 b6 u5 p5
   have u6 : q6 ≤ 1152921504606846976 := by have z1 := HM.o; have z2 := HS.o; have z3 := HW.o; have z4 := HQB.o; have z5 := G6.o; omega
   have p6 : 0 ≤ q6 := by have z := G6.o; omega
   clear G5
   have hE := HX.o _ HK6.o j hlt
   have HKa := fun (v0 : Int) (v1 : Int) (v2 : Int) (v3 : Int) => (show Hd (KB w ((((w6.setCell ⟨g, j * 28 + 14, none⟩ (.int .i64 v0)).setCell ⟨g, j * 28 + 15, none⟩ (.int .i64 v1)).setCell ⟨g, j * 28 + 16, none⟩ (.int .i64 v2)).setCell ⟨g, j * 28 + 17, none⟩ (.int .i64 v3))) from ((((HK6.o.trans (hE.1.n14.set (v := v0))).trans ((hE.1.n15.kb (hE.1.n14.set (v := v0))).set (v := v1))).trans (((hE.1.n16.kb (hE.1.n14.set (v := v0))).kb ((hE.1.n15.kb (hE.1.n14.set (v := v0))).set (v := v1))).set (v := v2))).trans ((((hE.1.n17.kb (hE.1.n14.set (v := v0))).kb ((hE.1.n15.kb (hE.1.n14.set (v := v0))).set (v := v1))).kb (((hE.1.n16.kb (hE.1.n14.set (v := v0))).kb ((hE.1.n15.kb (hE.1.n14.set (v := v0))).set (v := v1))).set (v := v2))).set (v := v3))))
   have HDa := fun (v0 : Int) (v1 : Int) (v2 : Int) (v3 : Int) => (show Hd (Mid B C w ((((w6.setCell ⟨g, j * 28 + 14, none⟩ (.int .i64 v0)).setCell ⟨g, j * 28 + 15, none⟩ (.int .i64 v1)).setCell ⟨g, j * 28 + 16, none⟩ (.int .i64 v2)).setCell ⟨g, j * 28 + 17, none⟩ (.int .i64 v3))) from ((((HD6.o.set hE.1.hB hE.1.hC).set hE.1.hB hE.1.hC).set hE.1.hB hE.1.hC).set hE.1.hB hE.1.hC))
   obtain ⟨⟨y14, c14⟩, f14⟩ := hE.1.n14
   obtain ⟨⟨y15, c15⟩, f15⟩ := hE.1.n15
   obtain ⟨⟨y16, c16⟩, f16⟩ := hE.1.n16
   obtain ⟨⟨y17, c17⟩, f17⟩ := hE.1.n17
   have s18 := hE.1.s18
   clear hE
   go_wp2_with fail
   refine (markText_m B C (kid j).d.e.d.v.a (kid j).d.e.d.v.len (kid j).d.e.d.v.cap _ _ (HX.o _ (HKa _ _ _ _).o j hlt).1.t18 ?_ ?_).mono ?_
   · omega
   · omega
   rintro e w7 ⟨⟨q7, rfl, a7, b7⟩, hk', hd'⟩
   have HK7 := iH ((HKa _ _ _ _).o.trans hk')
   have HD7 := iH ((HDa _ _ _ _).o.tr hd')
   clear hk' hd' HKa HDa c14 f14 c15 f15 c16 f16 c17 f17 s18 HK6 HD6
   have G7 : Hd (m ≤ q7 ∧ q7 ≤ m + ((12 + (kid j).d.p.s.v.len + (kid j).d.p.s.t.t.len + (kid j).d.p.p.v.len + (kid j).d.p.p.t.t.len + (kid j).d.p.o.v.len + (kid j).d.p.o.t.t.len + (kid j).d.e.d.v.len : Nat) : Int)) := (show _ ∧ _ by have z := G6.o; omega)
   clear a7 b7 u6 p6
   have u7 : q7 ≤ 1152921504606846976 := by have z1 := HM.o; have z2 := HS.o; have z3 := HW.o; have z4 := HQB.o; have z5 := G7.o; omega
   have p7 : 0 ≤ q7 := by have z := G7.o; omega
   clear G6
   have hE := HX.o _ HK7.o j hlt
   have HKa := fun (v0 : Int) => (show Hd (KB w (w7.setCell ⟨g, j * 28 + 19, none⟩ (.int .i64 v0))) from (HK7.o.trans (hE.1.n19.set (v := v0))))
   have HDa := fun (v0 : Int) => (show Hd (Mid B C w (w7.setCell ⟨g, j * 28 + 19, none⟩ (.int .i64 v0))) from (HD7.o.set hE.1.hB hE.1.hC))
   obtain ⟨⟨y19, c19⟩, f19⟩ := hE.1.n19
   have s20 := hE.1.s20
   clear hE
   go_wp2_with fail
   refine (markText_m B C (kid j).d.e.d.t.t.a (kid j).d.e.d.t.t.len (kid j).d.e.d.t.t.cap _ _ (HX.o _ (HKa _).o j hlt).1.t20 ?_ ?_).mono ?_
   · omega
   · omega
   rintro e w8 ⟨⟨q8, rfl, a8, b8⟩, hk', hd'⟩
   have HK8 := iH ((HKa _).o.trans hk')
   have HD8 := iH ((HDa _).o.tr hd')
   clear hk' hd' HKa HDa c19 f19 s20 HK7 HD7
   have G8 : Hd (m ≤ q8 ∧ q8 ≤ m + ((13 + (kid j).d.p.s.v.len + (kid j).d.p.s.t.t.len + (kid j).d.p.p.v.len + (kid j).d.p.p.t.t.len + (kid j).d.p.o.v.len + (kid j).d.p.o.t.t.len + (kid j).d.e.d.v.len + (kid j).d.e.d.t.t.len : Nat) : Int)) := (show _ ∧ _ by have z := G7.o; omega)
   clear a8 b8 u7 p7
   have u8 : q8 ≤ 1152921504606846976 := by have z1 := HM.o; have z2 := HS.o; have z3 := HW.o; have z4 := HQB.o; have z5 := G8.o; omega
   have p8 : 0 ≤ q8 := by have z := G8.o; omega
   clear G7
   have hE := HX.o _ HK8.o j hlt
   have HKa := fun (v0 : Int) (v1 : Int) => (show Hd (KB w ((w8.setCell ⟨g, j * 28 + 21, none⟩ (.int .i64 v0)).setCell ⟨g, j * 28 + 22, none⟩ (.int .i64 v1))) from ((HK8.o.trans (hE.1.n21.set (v := v0))).trans ((hE.1.n22.kb (hE.1.n21.set (v := v0))).set (v := v1))))
   have HDa := fun (v0 : Int) (v1 : Int) => (show Hd (Mid B C w ((w8.setCell ⟨g, j * 28 + 21, none⟩ (.int .i64 v0)).setCell ⟨g, j * 28 + 22, none⟩ (.int .i64 v1))) from ((HD8.o.set hE.1.hB hE.1.hC).set hE.1.hB hE.1.hC))
   obtain ⟨⟨y21, c21⟩, f21⟩ := hE.1.n21
   obtain ⟨⟨y22, c22⟩, f22⟩ := hE.1.n22
   have s23 := hE.1.s23
   clear hE
   go_wp2_with fail
   refine (markKids_any B C (kid j).d.e _ _ ?_ ?_ (HX.o _ (HKa _ _).o j hlt).1.ke).mono ?_
   · omega
   · have z1 := HM.o; have z2 := HS.o; have z3 := HW.o; have z4 := HQB.o; have z5 := G8.o; omega
   rintro e w9 ⟨⟨q9, rfl, a9, b9⟩, hk', hd'⟩
   have HK9 := iH ((HKa _ _).o.trans hk')
   have HD9 := iH ((HDa _ _).o.tr hd')
   clear hk' hd' HKa HDa c21 f21 c22 f22 s23 HK8 HD8
   have G9 : Hd (m ≤ q9 ∧ q9 ≤ m + ((15 + (kid j).d.p.s.v.len + (kid j).d.p.s.t.t.len + (kid j).d.p.p.v.len + (kid j).d.p.p.t.t.len + (kid j).d.p.o.v.len + (kid j).d.p.o.t.t.len + (kid j).d.e.d.v.len + (kid j).d.e.d.t.t.len + 16 * kwt (kid j).d.e : Nat) : Int)) := (show _ ∧ _ by have z := G8.o; omega)
   clear a9 b9 u8 p8
   have u9 : q9 ≤ 1152921504606846976 := by have z1 := HM.o; have z2 := HS.o; have z3 := HW.o; have z4 := HQB.o; have z5 := G9.o; omega
   have p9 : 0 ≤ q9 := by have z := G9.o; omega
   clear G8
   have hE := HX.o _ HK9.o j hlt
   have s24 := hE.1.s24
   clear hE
   go_wp2_with fail
   refine (markText_m B C (kid j).d.v.a (kid j).d.v.len (kid j).d.v.cap _ _ (HX.o _ HK9.o j hlt).1.t24 ?_ ?_).mono ?_
   · omega
   · omega
   rintro e w10 ⟨⟨q10, rfl, a10, b10⟩, hk', hd'⟩
   have HK10 := iH (HK9.o.trans hk')
   have HD10 := iH (HD9.o.tr hd')
   clear hk' hd' s24 HK9 HD9
   have G10 : Hd (m ≤ q10 ∧ q10 ≤ m + ((15 + (kid j).d.p.s.v.len + (kid j).d.p.s.t.t.len + (kid j).d.p.p.v.len + (kid j).d.p.p.t.t.len + (kid j).d.p.o.v.len + (kid j).d.p.o.t.t.len + (kid j).d.e.d.v.len + (kid j).d.e.d.t.t.len + 16 * kwt (kid j).d.e + (kid j).d.v.len : Nat) : Int)) := (show _ ∧ _ by have z := G9.o; omega)
   clear a10 b10 u9 p9
   have u10 : q10 ≤ 1152921504606846976 := by have z1 := HM.o; have z2 := HS.o; have z3 := HW.o; have z4 := HQB.o; have z5 := G10.o; omega
   have p10 : 0 ≤ q10 := by have z := G10.o; omega
   clear G9
   have hE := HX.o _ HK10.o j hlt
   have s25 := hE.1.s25
   clear hE
   go_wp2_with fail
   refine (markTermS_m B C (kid j).d.ta (kid j).d.tc (kid j).d.tb _ _ ?_ ?_ (HX.o _ HK10.o j hlt).1.te).mono ?_
   · omega
   · have z1 := HM.o; have z2 := HS.o; have z3 := HW.o; have z4 := HQB.o; have z5 := G10.o; omega
   rintro e w11 ⟨⟨q11, rfl, a11, b11⟩, hk', hd'⟩
   have HK11 := iH (HK10.o.trans hk')
   have HD11 := iH (HD10.o.tr hd')
   clear hk' hd' s25 HK10 HD10
   have G11 : Hd (m ≤ q11 ∧ q11 ≤ m + ((15 + (kid j).d.p.s.v.len + (kid j).d.p.s.t.t.len + (kid j).d.p.p.v.len + (kid j).d.p.p.t.t.len + (kid j).d.p.o.v.len + (kid j).d.p.o.t.t.len + (kid j).d.e.d.v.len + (kid j).d.e.d.t.t.len + 16 * kwt (kid j).d.e + (kid j).d.v.len + 16 * ((kid j).d.tb.length + twt (kid j).d.tb (kid j).d.tb.length) : Nat) : Int)) := (show _ ∧ _ by have z := G10.o; omega)
   clear a11 b11 u10 p10
   have u11 : q11 ≤ 1152921504606846976 := by have z1 := HM.o; have z2 := HS.o; have z3 := HW.o; have z4 := HQB.o; have z5 := G11.o; omega
   have p11 : 0 ≤ q11 := by have z := G11.o; omega
   clear G10
   have hE := HX.o _ HK11.o j hlt
   have s26 := hE.1.s26
   clear hE
   go_wp2_with fail
   refine ((HI.o j hlt _ _ ?_ (HX.o _ HK11.o j hlt).2).1 ?_).mono ?_
   · omega
   · have z1 := HM.o; have z2 := HS.o; have z3 := HW.o; have z4 := HQB.o; have z5 := G11.o; omega
   rintro e w12 ⟨⟨q12, rfl, a12, b12⟩, hk', hd'⟩
   have HK12 := iH (HK11.o.trans hk')
   have HD12 := iH (HD11.o.tr hd')
   clear hk' hd' s26 HK11 HD11
   have G12 : Hd (m ≤ q12 ∧ q12 ≤ m + ((15 + (kid j).d.p.s.v.len + (kid j).d.p.s.t.t.len + (kid j).d.p.p.v.len + (kid j).d.p.p.t.t.len + (kid j).d.p.o.v.len + (kid j).d.p.o.t.t.len + (kid j).d.e.d.v.len + (kid j).d.e.d.t.t.len + 16 * kwt (kid j).d.e + (kid j).d.v.len + 16 * ((kid j).d.tb.length + twt (kid j).d.tb (kid j).d.tb.length) + 16 * awt (kid j) : Nat) : Int)) := (show _ ∧ _ by have z := G11.o; omega)
   clear a12 b12 u11 p11
   have u12 : q12 ≤ 1152921504606846976 := by have z1 := HM.o; have z2 := HS.o; have z3 := HW.o; have z4 := HQB.o; have z5 := G12.o; omega
   have p12 : 0 ≤ q12 := by have z := G12.o; omega
   clear G11
   have hE := HX.o _ HK12.o j hlt
   have s27 := hE.1.s27
   clear hE
   go_wp2_with fail
   refine ((HI.o j hlt _ _ ?_ (HX.o _ HK12.o j hlt).2).2 ?_).mono ?_
   · omega
   · have z1 := HM.o; have z2 := HS.o; have z3 := HW.o; have z4 := HQB.o; have z5 := G12.o; omega
   rintro e w13 ⟨⟨q13, rfl, a13, b13⟩, hk', hd'⟩
   have HK13 := iH (HK12.o.trans hk')
   have HD13 := iH (HD12.o.tr hd')
   clear hk' hd' s27 HK12 HD12
   have G13 : Hd (m ≤ q13 ∧ q13 ≤ m + ((15 + (kid j).d.p.s.v.len + (kid j).d.p.s.t.t.len + (kid j).d.p.p.v.len + (kid j).d.p.p.t.t.len + (kid j).d.p.o.v.len + (kid j).d.p.o.t.t.len + (kid j).d.e.d.v.len + (kid j).d.e.d.t.t.len + 16 * kwt (kid j).d.e + (kid j).d.v.len + 16 * ((kid j).d.tb.length + twt (kid j).d.tb (kid j).d.tb.length) + 16 * awt (kid j) + 16 * bwt (kid j) : Nat) : Int)) := (show _ ∧ _ by have z := G12.o; omega)
   clear a13 b13 u12 p12
   have u13 : q13 ≤ 1152921504606846976 := by have z1 := HM.o; have z2 := HS.o; have z3 := HW.o; have z4 := HQB.o; have z5 := G13.o; omega
   have p13 : 0 ≤ q13 := by have z := G13.o; omega
   clear G12
   go_wp2
   go_roundw
   case rel =>
    refine ⟨j + 1, _, by omega, by go_num, rfl, by omega, by omega, ?_, HK13, HD13⟩
    have z5 := G13.o
    have z1 := HM.o
    have z2 := HW.o
    show k ≤ _ ∧ _ ≤ k + ((16 * (j + 1 + (sumN j (fun i => (kid i).wt) + (kid j).wt)) : Nat) : Int)
    omega
   case measure => simp [intOf]; omega
 obtain rfl : j = n := by omega
 go_wp2
 go_ret
 exact ⟨⟨m, rfl, HM.o.1, HM.o.2⟩, HK.o, HD.o⟩
theorem markBody_any (B C : Nat) (e : UT) : ∀ (w : World) (k : Int), 0 ≤ k → LM B C w e →
 (k + ((16 * awt e : Nat) : Int) ≤ 1152921504606846976 → Calls Tryz.prog 38 #[.slice e.d.aa e.d.an e.d.ac, .int .i64 k] w (MkP B C w k (16 * awt e))) ∧
 (k + ((16 * bwt e : Nat) : Int) ≤ 1152921504606846976 → Calls Tryz.prog 38 #[.slice e.d.ba e.d.bn e.d.bc, .int .i64 k] w (MkP B C w k (16 * bwt e))) := by
 induction e with
 | nil => exact fun w k hk _ => ⟨fun hk2 => markElemS_of B C _ _ 0 (fun _ => .nil) k w hk hk2 (.inl rfl) (fun i hi => absurd hi nN), fun hk2 => markElemS_of B C _ _ 0 (fun _ => .nil) k w hk hk2 (.inl rfl) (fun i hi => absurd hi nN)⟩
 | mk d ka kb ia ib => exact fun w k hk hM => ⟨fun hk2 => markElemS_of B C d.aa d.ac d.an ka k w hk hk2 hM.1 fun i hi W k' h1 h3 => ia i W k' h1 h3, fun hk2 => markElemS_of B C d.ba d.bc d.bn kb k w hk hk2 hM.2 fun i hi W k' h1 h3 => ib i W k' h1 h3⟩
end Go.Proofs.YthljoojcpbignaaGreatDoor
