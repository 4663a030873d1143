import Derived.Test.YtoloadogihbdeaaGreatMk06
import Derived.Test.YtoloadogihbdeaaGreatMk07
namespace Go.Proofs.YtoloadogihbdeaaGreat
open Go.RowKit Go.Deep
set_option maxHeartbeats 40000000
set_option maxRecDepth 100000
structure TE (B C : Nat) (w : World) (g o : Nat) (d : TB) : Prop where
 hB : B ≤ g
 hC : g < C
 n0 : WN w g (o)
 n2 : WN w g (o + 2)
 n3 : WN w g (o + 3)
 s1 : w.cell? ⟨g, o + 1, none⟩ = some (.slice d.t.a d.t.len d.t.cap)
 t1 : TxM B C w d.t.a d.t.len
theorem TE.kb {B C : Nat} {w w' : World} {g o : Nat} {d : TB} (h : TE B C w g o d) (k : KB w w') : TE B C w' g o d :=
 ⟨h.hB, h.hC, h.n0.kb k, h.n2.kb k, h.n3.kb k, k.s _ _ _ _ _ h.s1, h.t1.kb k⟩
def TsX (B C : Nat) (w : World) (a : Option Addr) (n : Nat) (kid : Nat → TB) : Prop := n = 0 ∨ ∃ g, a = some ⟨g, 0, none⟩ ∧ ∀ i, i < n → TE B C w g (i * 4) (kid i) ∧ True
theorem TsX.kb {B C : Nat} {w w' : World} {a : Option Addr} {n : Nat} {kid : Nat → TB} (h : TsX B C w a n kid) (k : KB w w') : TsX B C w' a n kid := by
 rcases h with h | ⟨g, ha, hx⟩
 · exact .inl h
 exact .inr ⟨g, ha, fun i hi => ⟨(hx i hi).1.kb k, trivial⟩⟩
def tbN (tb : List TB) (i : Nat) : TB := tb[i]?.getD EN0.t
theorem twt_eq (tb : List TB) : twt tb tb.length = sumN tb.length (fun i => (tbN tb i).t.len) := by
 refine sumN_congr fun i hi => ?_
 unfold tbN
 rw [List.getElem?_eq_getElem hi]
 rfl
theorem Mkd.idx {B C : Nat} {w w' : World} {A : List MC} {k m m' : Int} (h : Mkd B C w w' A k m) (e : m' = m) : Mkd B C w w' A k m' := e ▸ h
theorem Mkd.cast {B C : Nat} {w w' : World} {A A' : List MC} {k m : Int} (h : Mkd B C w w' A k m) (e : A = A') : Mkd B C w w' A' k m := e ▸ h
theorem TxM.form {B C : Nat} {w : World} {a : Option Addr} {len : Nat} (h : TxM B C w a len) : len = 0 ∨ ∃ g, a = some ⟨g, 0, none⟩ := h.2.imp id fun ⟨g, e, _⟩ => ⟨g, e⟩
def eF (g o : Nat) (d : EN) (M : List MC) : List MC := [(g, o, false)] ++ ([(g, o + 1, false)] ++ (txC d.v.a d.v.len ++ ([(g, o + 3, false)] ++ (txC d.t.t.a d.t.t.len ++ ([(g, o + 5, false)] ++ ([(g, o + 6, false)] ++ (M)))))))
def ET.ms : ET → List MC
 | .nil => []
 | .mk d kid => catM (fun i => eF (blk d.ka) (i * 8) (kid i).d (kid i).ms) d.n
theorem markExprS_x (B C : Nat) (a : Option Addr) (cap n : Nat) (kid : Nat → ET) (k : Int) (w : World) (hk : 0 ≤ k) (hk2 : k + ((catM (fun i => eF (blk a) (i * 8) (kid i).d (kid i).ms) n).length : Int) ≤ 1152921504606846976) (hM : XM B C w a n kid)
 (IH : ∀ i, i < n → ∀ (W : World) (k : Int), 0 ≤ k → k + ((kid i).ms.length : Int) ≤ 1152921504606846976 → KM B C W (kid i) → Calls Tryz.prog 99 #[.slice (kid i).d.ka (kid i).d.n (kid i).d.kc, .int .i64 k] W (MkX B C W (kid i).ms k)) :
 Calls Tryz.prog 99 #[.slice a n cap, .int .i64 k] w (MkX B C w (catM (fun i => eF (blk a) (i * 8) (kid i).d (kid i).ms) n) k) := by
 by_cases h0 : n = 0
 · subst h0
   clear hM IH
   go_in
   go_wp2
   refine wp_loop_rounds 1 ?_
   rw [rounds_succ]
   go_wp2
   go_ret
   exact ⟨_, rfl, Mkd.refl _ _ _ _⟩
 rcases hM with h | ⟨g, rfl, hx⟩
 · exact absurd h h0
 change k + ((catM (fun i => eF (g) (i * 8) (kid i).d (kid i).ms) n).length : Int) ≤ 1152921504606846976 at hk2
 obtain ⟨F, hF⟩ : ∃ F : Nat → List MC, F = (fun i => eF (g) (i * 8) (kid i).d (kid i).ms) := ⟨_, rfl⟩
 have HF := iH hF
 show Calls _ _ _ w (MkX B C w (catM (fun i => eF (g) (i * 8) (kid i).d (kid i).ms) n) k)
 rw [← hF] at hk2 ⊢
 have HX := iH hx
 have HQ := iH hk2
 have HI := iH IH
 have HFL : ∀ j, (F j).length = 1 + 1 + (kid j).d.v.len + 1 + (kid j).d.t.t.len + 1 + 1 + ((kid j).ms).length := fun j => by
  rw [hF]
  simp only [List.length_append, List.length_cons, List.length_nil, txC_len, Nat.zero_add, Nat.add_assoc, eF]
 have HFH := iH HFL
 have hn : n ≤ 1152921504606846976 := by
  have h := catM_ge (f := F) (fun i => by rw [HFL]; omega) n
  omega
 have HN : Hd (∀ j, j < n → (catM F j).length + (1 + 1 + (kid j).d.v.len + 1 + (kid j).d.t.t.len + 1 + 1 + ((kid j).ms).length) ≤ (catM F n).length) := fun j hlt => by
  have h := catM_le (f := F) hlt
  rw [HFL] at h
  exact h
 clear HFL
 clear hk2 IH hx hF h0
 go_in
 go_wp2_with fail
 go_loopw [1, 5] (fun a b wr => ∃ (j : Nat) (m : Int), j ≤ n ∧ b = .int .i64 j ∧ a = .int .i64 m ∧ 0 ≤ m ∧ m ≤ 1152921504606846976 ∧ Hd (Mkd B C w wr (catM F j) k m))
  (fun _ b _ => n - (intOf b).toNat)
 case atStart => exact ⟨0, k, nZ, rfl, rfl, hk, by have h := HQ.o; omega, Mkd.refl _ _ _ _⟩
 obtain ⟨j, m, hj, rfl, rfl, hm0, hm1, M0⟩ := hrel
 by_cases hlt : j < n
 · have HJ := iH (HN.o j hlt)
   obtain ⟨l2, hl2⟩ : ∃ l, l = (kid j).d.v.len := ⟨_, rfl⟩
   rw [← hl2] at HJ
   have HL2 := iH hl2
   clear hl2
   obtain ⟨l4, hl4⟩ : ∃ l, l = (kid j).d.t.t.len := ⟨_, rfl⟩
   rw [← hl4] at HJ
   have HL4 := iH hl4
   clear hl4
   obtain ⟨l7, hl7⟩ : ∃ l, l = ((kid j).ms).length := ⟨_, rfl⟩
   rw [← hl7] at HJ
   have HL7 := iH hl7
   clear hl7
   have HE := iH (HX.o j hlt)
   have HM := iH M0.o.q
   have G : Hd (m = m) := (show m = m from rfl)
   have hW := HE.o.1.kb M0.o.kb
   obtain ⟨⟨y0, c0⟩, f0⟩ := hW.n0
   obtain ⟨⟨y1, c1⟩, f1⟩ := hW.n1
   have s2 := hW.s2
   clear hW
   have MA := fun (x0 : Int) (x1 : Int) (h0 : x0 = m) (h1 : x1 = m + 1) => iH ((M0.o.num HE.o.1.n0.1 HE.o.1.hB HE.o.1.hC h0).num HE.o.1.n1.1 HE.o.1.hB HE.o.1.hC h1)
   have ub : m + 2 ≤ 1152921504606846976 := by have z := G.o; have z1 := HJ.o; have z2 := HQ.o; have z3 := HM.o; omega
   go_wp2_with fail
   refine (markText_x B C (kid j).d.v.a (kid j).d.v.len (kid j).d.v.cap _ _ (HE.o.1.t2.kb (MA _ _ (by omega) (by omega)).o.kb) (by omega) (by omega)).mono ?_
   rintro e w1 ⟨q1, rfl, hm'⟩
   obtain ⟨A1, HA1, M1⟩ : ∃ A, Hd (A = catM F j ++ [(g, j * 8, false)] ++ [(g, j * 8 + 1, false)] ++ txC (kid j).d.v.a (kid j).d.v.len) ∧ Hd (Mkd B C w w1 A k q1) := ⟨_, rfl, (MA _ _ (by omega) (by omega)).o.app hm' (by omega)⟩
   have G' : Hd (q1 = m + ((1 + 1 + l2 : Nat) : Int)) := (show _ = _ by have z := G.o; have z1 := hm'.q; rw [txC_len, ← HL2.o] at z1; omega)
   clear G
   have G := G'
   clear G'
   clear hm' MA ub c0 f0 c1 f1 s2 M0
   have b1 : 0 ≤ q1 ∧ q1 ≤ 1152921504606846976 := by have z := G.o; have z1 := HJ.o; have z2 := HQ.o; have z3 := HM.o; omega
   obtain ⟨p1, u1⟩ := b1
   have hW := HE.o.1.kb M1.o.kb
   obtain ⟨⟨y3, c3⟩, f3⟩ := hW.n3
   have s4 := hW.s4
   clear hW
   have MA := fun (x0 : Int) (h0 : x0 = q1) => iH (M1.o.num HE.o.1.n3.1 HE.o.1.hB HE.o.1.hC h0)
   have ub : q1 + 1 ≤ 1152921504606846976 := by have z := G.o; have z1 := HJ.o; have z2 := HQ.o; have z3 := HM.o; omega
   go_wp2_with fail
   refine (markText_x B C (kid j).d.t.t.a (kid j).d.t.t.len (kid j).d.t.t.cap _ _ (HE.o.1.t4.kb (MA _ (by omega)).o.kb) (by omega) (by omega)).mono ?_
   rintro e w2 ⟨q2, rfl, hm'⟩
   obtain ⟨A2, HA2, M2⟩ : ∃ A, Hd (A = A1 ++ [(g, j * 8 + 3, false)] ++ txC (kid j).d.t.t.a (kid j).d.t.t.len) ∧ Hd (Mkd B C w w2 A k q2) := ⟨_, rfl, (MA _ (by omega)).o.app hm' (by omega)⟩
   have G' : Hd (q2 = m + ((1 + 1 + l2 + 1 + l4 : Nat) : Int)) := (show _ = _ by have z := G.o; have z1 := hm'.q; rw [txC_len, ← HL4.o] at z1; omega)
   clear G
   have G := G'
   clear G'
   clear hm' MA ub c3 f3 s4 M1 p1 u1
   have b2 : 0 ≤ q2 ∧ q2 ≤ 1152921504606846976 := by have z := G.o; have z1 := HJ.o; have z2 := HQ.o; have z3 := HM.o; omega
   obtain ⟨p2, u2⟩ := b2
   have hW := HE.o.1.kb M2.o.kb
   obtain ⟨⟨y5, c5⟩, f5⟩ := hW.n5
   obtain ⟨⟨y6, c6⟩, f6⟩ := hW.n6
   have s7 := hW.s7
   clear hW
   have MA := fun (x0 : Int) (x1 : Int) (h0 : x0 = q2) (h1 : x1 = q2 + 1) => iH ((M2.o.num HE.o.1.n5.1 HE.o.1.hB HE.o.1.hC h0).num HE.o.1.n6.1 HE.o.1.hB HE.o.1.hC h1)
   have ub : q2 + 2 ≤ 1152921504606846976 := by have z := G.o; have z1 := HJ.o; have z2 := HQ.o; have z3 := HM.o; omega
   go_wp2_with fail
   refine (HI.o j hlt _ _ (by omega) (by have zl := HL7.o; have z := G.o; have z1 := HJ.o; have z2 := HQ.o; have z3 := HM.o; omega) (HE.o.2.kb (MA _ _ (by omega) (by omega)).o.kb)).mono ?_
   rintro e w3 ⟨q3, rfl, hm'⟩
   obtain ⟨A3, HA3, M3⟩ : ∃ A, Hd (A = A2 ++ [(g, j * 8 + 5, false)] ++ [(g, j * 8 + 6, false)] ++ (kid j).ms) ∧ Hd (Mkd B C w w3 A k q3) := ⟨_, rfl, (MA _ _ (by omega) (by omega)).o.app hm' (by omega)⟩
   have G' : Hd (q3 = m + ((1 + 1 + l2 + 1 + l4 + 1 + 1 + l7 : Nat) : Int)) := (show _ = _ by have z := G.o; have z1 := hm'.q; rw [← HL7.o] at z1; omega)
   clear G
   have G := G'
   clear G'
   clear hm' MA ub c5 f5 c6 f6 s7 M2 p2 u2
   have b3 : 0 ≤ q3 ∧ q3 ≤ 1152921504606846976 := by have z := G.o; have z1 := HJ.o; have z2 := HQ.o; have z3 := HM.o; omega
   obtain ⟨p3, u3⟩ := b3
   have MB := iH (M3.o.cast (A' := catM F j ++ F j) (by rw [show F j = _ from congrFun HF.o j, HA3.o, HA2.o, HA1.o]; simp only [List.append_assoc]; first | done | rfl))
   go_wp2
   go_roundw
   case rel =>
    refine ⟨j + 1, _, by omega, by go_num, rfl, by omega, by omega, ?_⟩
    show Mkd B C w _ (catM F j ++ F j) k _
    exact MB.o.idx (by omega)
   case measure => simp [intOf]; omega
 obtain rfl : j = n := by omega
 go_wp2
 go_ret
 exact ⟨m, rfl, M0.o⟩
theorem heldExprS_x (B C : Nat) (a : Option Addr) (cap n : Nat) (kid : Nat → ET) (k : Int) (w : World) (hk : 0 ≤ k) (hk2 : k + ((catM (fun i => eF (blk a) (i * 8) (kid i).d (kid i).ms) n).length : Int) ≤ 1152921504606846976) (hM : XM B C w a n kid)
 (IH : ∀ i, i < n → ∀ (k : Int) (W : World), 0 ≤ k → k + ((kid i).ms.length : Int) ≤ 1152921504606846976 → KM B C W (kid i) → Hl W (kid i).ms k → Calls Tryz.prog 103 #[.slice (kid i).d.ka (kid i).d.n (kid i).d.kc, .int .i64 k] W (HdX W (kid i).ms k))
 (hH : Hl w (catM (fun i => eF (blk a) (i * 8) (kid i).d (kid i).ms) n) k) :
 Calls Tryz.prog 103 #[.slice a n cap, .int .i64 k] w (HdX w (catM (fun i => eF (blk a) (i * 8) (kid i).d (kid i).ms) n) k) := by
 by_cases h0 : n = 0
 · subst h0
   clear hM IH hH
   go_in
   go_wp2
   refine wp_loop_rounds 1 ?_
   rw [rounds_succ]
   go_wp2
   go_ret
   exact ⟨_, rfl, (show k = k + ((0 : Nat) : Int) by simp), rfl⟩
 rcases hM with h | ⟨g, rfl, hx⟩
 · exact absurd h h0
 change k + ((catM (fun i => eF (g) (i * 8) (kid i).d (kid i).ms) n).length : Int) ≤ 1152921504606846976 at hk2
 obtain ⟨F, hF⟩ : ∃ F : Nat → List MC, F = (fun i => eF (g) (i * 8) (kid i).d (kid i).ms) := ⟨_, rfl⟩
 have HF := iH hF
 show Calls _ _ _ w (HdX w (catM (fun i => eF (g) (i * 8) (kid i).d (kid i).ms) n) k)
 rw [← hF] at hk2 ⊢
 have HX := iH hx
 have HQ := iH hk2
 have HI := iH IH
 have HH : Hd (Hl w (catM F n) k) := (show Hl _ _ _ by rw [hF]; exact hH)
 have HFL : ∀ j, (F j).length = 1 + 1 + (kid j).d.v.len + 1 + (kid j).d.t.t.len + 1 + 1 + ((kid j).ms).length := fun j => by
  rw [hF]
  simp only [List.length_append, List.length_cons, List.length_nil, txC_len, Nat.zero_add, Nat.add_assoc, eF]
 have HFH := iH HFL
 have hn : n ≤ 1152921504606846976 := by
  have h := catM_ge (f := F) (fun i => by rw [HFL]; omega) n
  omega
 have HN : Hd (∀ j, j < n → (catM F j).length + (1 + 1 + (kid j).d.v.len + 1 + (kid j).d.t.t.len + 1 + 1 + ((kid j).ms).length) ≤ (catM F n).length) := fun j hlt => by
  have h := catM_le (f := F) hlt
  rw [HFL] at h
  exact h
 clear HFL
 clear hk2 IH hx hF h0 hH
 go_in
 go_wp2_with fail
 go_loop [1, 5] (fun a b => ∃ (j : Nat) (m : Int), j ≤ n ∧ b = .int .i64 j ∧ a = .int .i64 m ∧ 0 ≤ m ∧ m ≤ 1152921504606846976 ∧ Hd (m = k + ((catM F j).length : Int)))
  (fun _ b => n - (intOf b).toNat)
 case atStart => exact ⟨0, k, nZ, rfl, rfl, hk, by have h := HQ.o; omega, (show k = k + ((0 : Nat) : Int) by simp)⟩
 obtain ⟨j, m, hj, rfl, rfl, hm0, hm1, M0⟩ := hrel
 by_cases hlt : j < n
 · have HJ := iH (HN.o j hlt)
   obtain ⟨l2, hl2⟩ : ∃ l, l = (kid j).d.v.len := ⟨_, rfl⟩
   rw [← hl2] at HJ
   have HL2 := iH hl2
   clear hl2
   obtain ⟨l4, hl4⟩ : ∃ l, l = (kid j).d.t.t.len := ⟨_, rfl⟩
   rw [← hl4] at HJ
   have HL4 := iH hl4
   clear hl4
   obtain ⟨l7, hl7⟩ : ∃ l, l = ((kid j).ms).length := ⟨_, rfl⟩
   rw [← hl7] at HJ
   have HL7 := iH hl7
   clear hl7
   have HE := iH (HX.o j hlt)
   have hl := HH.o.cat hlt m M0.o
   rw [show F j = _ from congrFun HF.o j] at hl
   unfold eF at hl
   have G : Hd (m = m) := (show m = m from rfl)
   obtain ⟨e0, hl⟩ := hl.num
   obtain ⟨e1, hl⟩ := hl.num
   have s2 := HE.o.1.s2
   have ub : m + 2 ≤ 1152921504606846976 := by have z := G.o; have z1 := HJ.o; have z2 := HQ.o; have z3 := M0.o; omega
   obtain ⟨ht, hr⟩ := hl.app
   have HR := iH hr
   clear hr
   have HT : Hd (∀ q, q = m + 1 + 1 → Hl w _ q) := fun q hq => (show Hl w _ q by rw [hq]; exact ht)
   clear hl ht
   go_wp2_with fail
   refine (heldText_x (kid j).d.v.a (kid j).d.v.len (kid j).d.v.cap _ w (TxM.form HE.o.1.t2) (HT.o _ (by omega)) (by omega) (by omega) HE.o.1.t2.1).mono ?_
   rintro e w' ⟨q1, rfl, HQ1, hw'⟩
   subst w'
   have G' : Hd (q1 = m + ((1 + 1 + l2 : Nat) : Int)) := (show _ = _ by have z := G.o; have z1 := HQ1.o; rw [txC_len, ← HL2.o] at z1; omega)
   have hl := HR.o q1 (by have z1 := HQ1.o; omega)
   clear G HT HR HQ1 s2 e0 e1 ub
   have G := G'
   clear G'
   have b1 : 0 ≤ q1 ∧ q1 ≤ 1152921504606846976 := by have z := G.o; have z1 := HJ.o; have z2 := HQ.o; have z3 := M0.o; omega
   obtain ⟨p1, u1⟩ := b1
   obtain ⟨e3, hl⟩ := hl.num
   have s4 := HE.o.1.s4
   have ub : q1 + 1 ≤ 1152921504606846976 := by have z := G.o; have z1 := HJ.o; have z2 := HQ.o; have z3 := M0.o; omega
   obtain ⟨ht, hr⟩ := hl.app
   have HR := iH hr
   clear hr
   have HT : Hd (∀ q, q = q1 + 1 → Hl w _ q) := fun q hq => (show Hl w _ q by rw [hq]; exact ht)
   clear hl ht
   go_wp2_with fail
   refine (heldText_x (kid j).d.t.t.a (kid j).d.t.t.len (kid j).d.t.t.cap _ w (TxM.form HE.o.1.t4) (HT.o _ (by omega)) (by omega) (by omega) HE.o.1.t4.1).mono ?_
   rintro e w' ⟨q2, rfl, HQ2, hw'⟩
   subst w'
   have G' : Hd (q2 = m + ((1 + 1 + l2 + 1 + l4 : Nat) : Int)) := (show _ = _ by have z := G.o; have z1 := HQ2.o; rw [txC_len, ← HL4.o] at z1; omega)
   have hl := HR.o q2 (by have z1 := HQ2.o; omega)
   clear G HT HR HQ2 s4 e3 ub p1 u1
   have G := G'
   clear G'
   have b2 : 0 ≤ q2 ∧ q2 ≤ 1152921504606846976 := by have z := G.o; have z1 := HJ.o; have z2 := HQ.o; have z3 := M0.o; omega
   obtain ⟨p2, u2⟩ := b2
   obtain ⟨e5, hl⟩ := hl.num
   obtain ⟨e6, hl⟩ := hl.num
   have s7 := HE.o.1.s7
   have ub : q2 + 2 ≤ 1152921504606846976 := by have z := G.o; have z1 := HJ.o; have z2 := HQ.o; have z3 := M0.o; omega
   have ht := hl
   have HT : Hd (∀ q, q = q2 + 1 + 1 → Hl w _ q) := fun q hq => (show Hl w _ q by rw [hq]; exact ht)
   clear ht hl
   go_wp2_with fail
   refine (HI.o j hlt _ w (by omega) (by have zl := HL7.o; have z := G.o; have z1 := HJ.o; have z2 := HQ.o; have z3 := M0.o; omega) HE.o.2 (HT.o _ (by omega))).mono ?_
   rintro e w' ⟨q3, rfl, HQ3, hw'⟩
   subst w'
   have G' : Hd (q3 = m + ((1 + 1 + l2 + 1 + l4 + 1 + 1 + l7 : Nat) : Int)) := (show _ = _ by have z := G.o; have z1 := HQ3.o; rw [← HL7.o] at z1; omega)
   clear G HT HQ3 s7 e5 e6 ub p2 u2
   have G := G'
   clear G'
   have b3 : 0 ≤ q3 ∧ q3 ≤ 1152921504606846976 := by have z := G.o; have z1 := HJ.o; have z2 := HQ.o; have z3 := M0.o; omega
   obtain ⟨p3, u3⟩ := b3
   go_wp2
   go_round
   case rel =>
    refine ⟨j + 1, _, by omega, by go_num, rfl, by omega, by omega, ?_⟩
    show _ = k + (((catM F j ++ F j).length : Nat) : Int)
    rw [List.length_append, HFH.o j, ← HL2.o, ← HL4.o, ← HL7.o]
    have z := G.o
    have z3 := M0.o
    omega
   case measure => simp [intOf]; omega
 obtain rfl : j = n := by omega
 go_wp2
 go_ret
 exact ⟨m, rfl, M0.o, rfl⟩
theorem markKids_x (B C : Nat) (e : ET) : ∀ (w : World) (k : Int), 0 ≤ k → k + (e.ms.length : Int) ≤ 1152921504606846976 → KM B C w e →
 Calls Tryz.prog 99 #[.slice e.d.ka e.d.n e.d.kc, .int .i64 k] w (MkX B C w e.ms k) := by
 induction e with
 | nil => exact fun w k hk hk2 _ => markExprS_x B C _ _ 0 (fun _ => .nil) k w hk hk2 (.inl rfl) (fun i hi => absurd hi nN)
 | mk d kid ih => exact fun w k hk hk2 hM => markExprS_x B C d.ka d.kc d.n kid k w hk hk2 hM fun i hi W k' h1 h2 h3 => ih i W k' h1 h2 h3
theorem heldKids_x (B C : Nat) (e : ET) : ∀ (k : Int) (w : World), 0 ≤ k → k + (e.ms.length : Int) ≤ 1152921504606846976 → KM B C w e → Hl w e.ms k →
 Calls Tryz.prog 103 #[.slice e.d.ka e.d.n e.d.kc, .int .i64 k] w (HdX w e.ms k) := by
 induction e with
 | nil => exact fun k w hk hk2 _ _ => heldExprS_x B C _ _ 0 (fun _ => .nil) k w hk hk2 (.inl rfl) (fun i hi => absurd hi nN) trivial
 | mk d kid ih => exact fun k w hk hk2 hM hH => heldExprS_x B C d.ka d.kc d.n kid k w hk hk2 hM (fun i hi k' W h1 h2 h3 h4 => ih i k' W h1 h2 h3 h4) hH
def tF (g o : Nat) (d : TB) : List MC := [(g, o, false)] ++ (txC d.t.a d.t.len ++ ([(g, o + 2, false)] ++ ([(g, o + 3, false)])))
theorem markTermS_x (B C : Nat) (a : Option Addr) (cap n : Nat) (kid : Nat → TB) (k : Int) (w : World) (hk : 0 ≤ k) (hk2 : k + ((catM (fun i => tF (blk a) (i * 4) (kid i)) n).length : Int) ≤ 1152921504606846976) (hM : TsX B C w a n kid) :
 Calls Tryz.prog 50 #[.slice a n cap, .int .i64 k] w (MkX B C w (catM (fun i => tF (blk a) (i * 4) (kid i)) n) k) := by
 by_cases h0 : n = 0
 · subst h0
   clear hM
   go_in
   go_wp2
   refine wp_loop_rounds 1 ?_
   rw [rounds_succ]
   go_wp2
   go_ret
   exact ⟨_, rfl, Mkd.refl _ _ _ _⟩
 rcases hM with h | ⟨g, rfl, hx⟩
 · exact absurd h h0
 change k + ((catM (fun i => tF (g) (i * 4) (kid i)) n).length : Int) ≤ 1152921504606846976 at hk2
 obtain ⟨F, hF⟩ : ∃ F : Nat → List MC, F = (fun i => tF (g) (i * 4) (kid i)) := ⟨_, rfl⟩
 have HF := iH hF
 show Calls _ _ _ w (MkX B C w (catM (fun i => tF (g) (i * 4) (kid i)) n) k)
 rw [← hF] at hk2 ⊢
 have HX := iH hx
 have HQ := iH hk2
 skip
 have HFL : ∀ j, (F j).length = 1 + (kid j).t.len + 1 + 1 := fun j => by
  rw [hF]
  simp only [List.length_append, List.length_cons, List.length_nil, txC_len, Nat.zero_add, Nat.add_assoc, tF]
 have HFH := iH HFL
 have hn : n ≤ 1152921504606846976 := by
  have h := catM_ge (f := F) (fun i => by rw [HFL]; omega) n
  omega
 have HN : Hd (∀ j, j < n → (catM F j).length + (1 + (kid j).t.len + 1 + 1) ≤ (catM F n).length) := fun j hlt => by
  have h := catM_le (f := F) hlt
  rw [HFL] at h
  exact h
 clear HFL
 clear hk2 hx hF h0
 go_in
 go_wp2_with fail
 go_loopw [1, 5] (fun a b wr => ∃ (j : Nat) (m : Int), j ≤ n ∧ b = .int .i64 j ∧ a = .int .i64 m ∧ 0 ≤ m ∧ m ≤ 1152921504606846976 ∧ Hd (Mkd B C w wr (catM F j) k m))
  (fun _ b _ => n - (intOf b).toNat)
 case atStart => exact ⟨0, k, nZ, rfl, rfl, hk, by have h := HQ.o; omega, Mkd.refl _ _ _ _⟩
 obtain ⟨j, m, hj, rfl, rfl, hm0, hm1, M0⟩ := hrel
 by_cases hlt : j < n
 · have HJ := iH (HN.o j hlt)
   obtain ⟨l1, hl1⟩ : ∃ l, l = (kid j).t.len := ⟨_, rfl⟩
   rw [← hl1] at HJ
   have HL1 := iH hl1
   clear hl1
   have HE := iH (HX.o j hlt)
   have HM := iH M0.o.q
   have G : Hd (m = m) := (show m = m from rfl)
   have hW := HE.o.1.kb M0.o.kb
   obtain ⟨⟨y0, c0⟩, f0⟩ := hW.n0
   have s1 := hW.s1
   clear hW
   have MA := fun (x0 : Int) (h0 : x0 = m) => iH (M0.o.num HE.o.1.n0.1 HE.o.1.hB HE.o.1.hC h0)
   have ub : m + 1 ≤ 1152921504606846976 := by have z := G.o; have z1 := HJ.o; have z2 := HQ.o; have z3 := HM.o; omega
   go_wp2_with fail
   refine (markText_x B C (kid j).t.a (kid j).t.len (kid j).t.cap _ _ (HE.o.1.t1.kb (MA _ (by omega)).o.kb) (by omega) (by omega)).mono ?_
   rintro e w1 ⟨q1, rfl, hm'⟩
   obtain ⟨A1, HA1, M1⟩ : ∃ A, Hd (A = catM F j ++ [(g, j * 4, false)] ++ txC (kid j).t.a (kid j).t.len) ∧ Hd (Mkd B C w w1 A k q1) := ⟨_, rfl, (MA _ (by omega)).o.app hm' (by omega)⟩
   have G' : Hd (q1 = m + ((1 + l1 : Nat) : Int)) := (show _ = _ by have z := G.o; have z1 := hm'.q; rw [txC_len, ← HL1.o] at z1; omega)
   clear G
   have G := G'
   clear G'
   clear hm' MA ub c0 f0 s1 M0
   have b1 : 0 ≤ q1 ∧ q1 ≤ 1152921504606846976 := by have z := G.o; have z1 := HJ.o; have z2 := HQ.o; have z3 := HM.o; omega
   obtain ⟨p1, u1⟩ := b1
   have hW := HE.o.1.kb M1.o.kb
   obtain ⟨⟨y2, c2⟩, f2⟩ := hW.n2
   obtain ⟨⟨y3, c3⟩, f3⟩ := hW.n3
   clear hW
   have MA := fun (x0 : Int) (x1 : Int) (h0 : x0 = q1) (h1 : x1 = q1 + 1) => iH ((M1.o.num HE.o.1.n2.1 HE.o.1.hB HE.o.1.hC h0).num HE.o.1.n3.1 HE.o.1.hB HE.o.1.hC h1)
   have ub : q1 + 2 ≤ 1152921504606846976 := by have z := G.o; have z1 := HJ.o; have z2 := HQ.o; have z3 := HM.o; omega
   have MB := fun (x0 : Int) (x1 : Int) (h0 : x0 = q1) (h1 : x1 = q1 + 1) => iH ((MA x0 x1 h0 h1).o.cast (A' := catM F j ++ F j) (by rw [show F j = _ from congrFun HF.o j, HA1.o]; simp only [List.append_assoc]; first | done | rfl))
   clear MA
   go_wp2
   go_roundw
   case rel =>
    refine ⟨j + 1, _, by omega, by go_num, rfl, by omega, by omega, ?_⟩
    show Mkd B C w _ (catM F j ++ F j) k _
    exact (MB _ _ (by omega) (by omega)).o.idx (by omega)
   case measure => simp [intOf]; omega
 obtain rfl : j = n := by omega
 go_wp2
 go_ret
 exact ⟨m, rfl, M0.o⟩
theorem heldTermS_x (B C : Nat) (a : Option Addr) (cap n : Nat) (kid : Nat → TB) (k : Int) (w : World) (hk : 0 ≤ k) (hk2 : k + ((catM (fun i => tF (blk a) (i * 4) (kid i)) n).length : Int) ≤ 1152921504606846976) (hM : TsX B C w a n kid)
 (hH : Hl w (catM (fun i => tF (blk a) (i * 4) (kid i)) n) k) :
 Calls Tryz.prog 57 #[.slice a n cap, .int .i64 k] w (HdX w (catM (fun i => tF (blk a) (i * 4) (kid i)) n) k) := by
 by_cases h0 : n = 0
 · subst h0
   clear hM hH
   go_in
   go_wp2
   refine wp_loop_rounds 1 ?_
   rw [rounds_succ]
   go_wp2
   go_ret
   exact ⟨_, rfl, (show k = k + ((0 : Nat) : Int) by simp), rfl⟩
 rcases hM with h | ⟨g, rfl, hx⟩
 · exact absurd h h0
 change k + ((catM (fun i => tF (g) (i * 4) (kid i)) n).length : Int) ≤ 1152921504606846976 at hk2
 obtain ⟨F, hF⟩ : ∃ F : Nat → List MC, F = (fun i => tF (g) (i * 4) (kid i)) := ⟨_, rfl⟩
 have HF := iH hF
 show Calls _ _ _ w (HdX w (catM (fun i => tF (g) (i * 4) (kid i)) n) k)
 rw [← hF] at hk2 ⊢
 have HX := iH hx
 have HQ := iH hk2
 skip
 have HH : Hd (Hl w (catM F n) k) := (show Hl _ _ _ by rw [hF]; exact hH)
 have HFL : ∀ j, (F j).length = 1 + (kid j).t.len + 1 + 1 := fun j => by
  rw [hF]
  simp only [List.length_append, List.length_cons, List.length_nil, txC_len, Nat.zero_add, Nat.add_assoc, tF]
 have HFH := iH HFL
 have hn : n ≤ 1152921504606846976 := by
  have h := catM_ge (f := F) (fun i => by rw [HFL]; omega) n
  omega
 have HN : Hd (∀ j, j < n → (catM F j).length + (1 + (kid j).t.len + 1 + 1) ≤ (catM F n).length) := fun j hlt => by
  have h := catM_le (f := F) hlt
  rw [HFL] at h
  exact h
 clear HFL
 clear hk2 hx hF h0 hH
 go_in
 go_wp2_with fail
 go_loop [1, 5] (fun a b => ∃ (j : Nat) (m : Int), j ≤ n ∧ b = .int .i64 j ∧ a = .int .i64 m ∧ 0 ≤ m ∧ m ≤ 1152921504606846976 ∧ Hd (m = k + ((catM F j).length : Int)))
  (fun _ b => n - (intOf b).toNat)
 case atStart => exact ⟨0, k, nZ, rfl, rfl, hk, by have h := HQ.o; omega, (show k = k + ((0 : Nat) : Int) by simp)⟩
 obtain ⟨j, m, hj, rfl, rfl, hm0, hm1, M0⟩ := hrel
 by_cases hlt : j < n
 · have HJ := iH (HN.o j hlt)
   obtain ⟨l1, hl1⟩ : ∃ l, l = (kid j).t.len := ⟨_, rfl⟩
   rw [← hl1] at HJ
   have HL1 := iH hl1
   clear hl1
   have HE := iH (HX.o j hlt)
   have hl := HH.o.cat hlt m M0.o
   rw [show F j = _ from congrFun HF.o j] at hl
   unfold tF at hl
   have G : Hd (m = m) := (show m = m from rfl)
   obtain ⟨e0, hl⟩ := hl.num
   have s1 := HE.o.1.s1
   have ub : m + 1 ≤ 1152921504606846976 := by have z := G.o; have z1 := HJ.o; have z2 := HQ.o; have z3 := M0.o; omega
   obtain ⟨ht, hr⟩ := hl.app
   have HR := iH hr
   clear hr
   have HT : Hd (∀ q, q = m + 1 → Hl w _ q) := fun q hq => (show Hl w _ q by rw [hq]; exact ht)
   clear hl ht
   go_wp2_with fail
   refine (heldText_x (kid j).t.a (kid j).t.len (kid j).t.cap _ w (TxM.form HE.o.1.t1) (HT.o _ (by omega)) (by omega) (by omega) HE.o.1.t1.1).mono ?_
   rintro e w' ⟨q1, rfl, HQ1, hw'⟩
   subst w'
   have G' : Hd (q1 = m + ((1 + l1 : Nat) : Int)) := (show _ = _ by have z := G.o; have z1 := HQ1.o; rw [txC_len, ← HL1.o] at z1; omega)
   have hl := HR.o q1 (by have z1 := HQ1.o; omega)
   clear G HT HR HQ1 s1 e0 ub
   have G := G'
   clear G'
   have b1 : 0 ≤ q1 ∧ q1 ≤ 1152921504606846976 := by have z := G.o; have z1 := HJ.o; have z2 := HQ.o; have z3 := M0.o; omega
   obtain ⟨p1, u1⟩ := b1
   obtain ⟨e2, hl⟩ := hl.num
   obtain ⟨e3, _⟩ := hl.num (L := [])
   have ub : q1 + 2 ≤ 1152921504606846976 := by have z := G.o; have z1 := HJ.o; have z2 := HQ.o; have z3 := M0.o; omega
   go_wp2
   go_round
   case rel =>
    refine ⟨j + 1, _, by omega, by go_num, rfl, by omega, by omega, ?_⟩
    show _ = k + (((catM F j ++ F j).length : Nat) : Int)
    rw [List.length_append, HFH.o j, ← HL1.o]
    have z := G.o
    have z3 := M0.o
    omega
   case measure => simp [intOf]; omega
 obtain rfl : j = n := by omega
 go_wp2
 go_ret
 exact ⟨m, rfl, M0.o, rfl⟩
end Go.Proofs.YtoloadogihbdeaaGreat
