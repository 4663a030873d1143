import Derived.Test.YtoloadogihbdeaaGreatMk03
namespace Go.Proofs.YtoloadogihbdeaaGreat
open Go.RowKit Go.Deep
set_option maxHeartbeats 40000000
set_option maxRecDepth 100000
variable {k m : Int} {A : List MC} {B C g o : Nat} {a : Option Addr} {w w' : World}
theorem Mkd.idx {m' : Int} (h : Mkd B C w w' A k m) (e : m' = m) : Mkd B C w w' A k m' := e ▸ h
theorem Mkd.cast {A' : List MC} (h : Mkd B C w w' A k m) (e : A = A') : Mkd B C w w' A' k m := e ▸ h
theorem TxM.form {len : Nat} (h : TxM B C w a len) : len = 0 ∨ ∃ g, a = some ⟨g, 0, none⟩ := h.2.imp id fun ⟨g, e, _⟩ => ⟨g, e⟩
def eF (g o : Nat) (d : EN) (M : List MC) : List MC := [(g, o, false)] ++ ([(g, o + 1, false)] ++ (txC d.v.a d.v.len ++ ([(g, o + 3, false)] ++ (txC d.t.t.a d.t.t.len ++ ([(g, o + 5, false)] ++ ([(g, o + 6, false)] ++ (M)))))))
def ET.ms : ET → List MC
 | .nil => []
 | .mk d kid => catM (fun i => eF (blk d.ka) (i * 8) (kid i).d (kid i).ms) d.n
theorem markExprS_x (B C : Nat) (a : Option Addr) (cap n : Nat) (kid : Nat → ET) (k : Int) (w : World) (hk : 0 ≤ k) (hk2 : k + ((catM (fun i => eF (blk a) (i * 8) (kid i).d (kid i).ms) n).length : Int) ≤ 1152921504606846976) (hM : XM B C w a n kid)
 (IH : ∀ i, i < n → ∀ (W : World) (k : Int), 0 ≤ k → k + ((kid i).ms.length : Int) ≤ 1152921504606846976 → KM B C W (kid i) → Calls Tryz.prog 99 #[.slice (kid i).d.ka (kid i).d.n (kid i).d.kc, .int .i64 k] W (MkX B C W (kid i).ms k)) :
 Calls Tryz.prog 99 #[.slice a n cap, .int .i64 k] w (MkX B C w (catM (fun i => eF (blk a) (i * 8) (kid i).d (kid i).ms) n) k) := by
 by_cases h0 : n = 0
 · subst h0
   clear hM IH;go_in;go_wp2;refine wl1 ?_;go_wp2;go_ret;exact ⟨_, rfl, Mkd.refl _ _ _ _⟩
 rcases hM with h | ⟨g, rfl, hx⟩
 · exact absurd h h0
 change k + ((catM (fun i => eF (g) (i * 8) (kid i).d (kid i).ms) n).length : Int) ≤ 1152921504606846976 at hk2;obtain ⟨F, hF⟩ : ∃ F : Nat → List MC, F = (fun i => eF (g) (i * 8) (kid i).d (kid i).ms) := ⟨_, rfl⟩;have HF := iH hF;show Calls _ _ _ w (MkX B C w (catM (fun i => eF (g) (i * 8) (kid i).d (kid i).ms) n) k);rw [← hF] at hk2 ⊢;have HX := iH hx;have HQ := iH hk2;have HI := iH IH
 have HFL : ∀ j, (F j).length = 1 + 1 + (kid j).d.v.len + 1 + (kid j).d.t.t.len + 1 + 1 + ((kid j).ms).length := fun j => by
  rw [hF];simp only [List.length_append, List.length_cons, List.length_nil, txC_len, Nat.zero_add, Nat.add_assoc, eF]
 have HFH := iH HFL;have hn : n ≤ 1152921504606846976 := by
  have h := catM_ge (f := F) (fun i => by rw [HFL]; omega) n;omega
 have HN : Hd (∀ j, j < n → (catM F j).length + (1 + 1 + (kid j).d.v.len + 1 + (kid j).d.t.t.len + 1 + 1 + ((kid j).ms).length) ≤ (catM F n).length) := fun j hlt => by
  have h := catM_le (f := F) hlt;rw [HFL] at h;exact h
 clear HFL;clear hk2 IH hx hF h0;go_in;go_wp2_with fail
 go_loopw [1, 5] (fun a b wr => ∃ (j : Nat) (m : Int), j ≤ n ∧ b = .int .i64 j ∧ a = .int .i64 m ∧ 0 ≤ m ∧ m ≤ 1152921504606846976 ∧ Hd (Mkd B C w wr (catM F j) k m))
  (fun _ b _ => n - (intOf b).toNat)
 case atStart => exact ⟨0, k, nZ, rfl, rfl, hk, by have h := HQ.o; omega, Mkd.refl _ _ _ _⟩
 obtain ⟨j, m, hj, rfl, rfl, hm0, hm1, M0⟩ := hrel;by_cases hlt : j < n
 · have HJ := iH (HN.o j hlt)
   obtain ⟨l2, HL2⟩ : ∃ l, Hd (l = (kid j).d.v.len) := ⟨_, rfl⟩;rw [← HL2.o] at HJ;obtain ⟨l4, HL4⟩ : ∃ l, Hd (l = (kid j).d.t.t.len) := ⟨_, rfl⟩;rw [← HL4.o] at HJ;obtain ⟨l7, HL7⟩ : ∃ l, Hd (l = ((kid j).ms).length) := ⟨_, rfl⟩;rw [← HL7.o] at HJ;have HE := iH (HX.o j hlt);have HM := iH M0.o.q;have G := iH (show m = m from rfl);have hW := HE.o.1.kb M0.o.kb;obtain ⟨⟨y0, c0⟩, f0⟩ := hW.n0;obtain ⟨⟨y1, c1⟩, f1⟩ := hW.n1;have s2 := hW.s2;clear hW;have MA := fun (x0 : Int) (x1 : Int) (h0 : x0 = m) (h1 : x1 = m + 1) => iH ((M0.o.num HE.o.1.n0.1 HE.o.1.hB HE.o.1.hC h0).num HE.o.1.n1.1 HE.o.1.hB HE.o.1.hC h1);have ub : m + 2 ≤ 1152921504606846976 := by have z := G.o; have z1 := HJ.o; have z2 := HQ.o; have z3 := HM.o; omega
   go_wp2_with fail
   refine (markText_x B C (kid j).d.v.a (kid j).d.v.len (kid j).d.v.cap _ _ (HE.o.1.t2.kb (MA _ _ (by omega) (by omega)).o.kb) (by omega) (by omega)).mono ?_;rintro e w1 ⟨q1, rfl, hm'⟩;obtain ⟨A1, HA1, M1⟩ : ∃ A, Hd (A = catM F j ++ [(g, j * 8, false)] ++ [(g, j * 8 + 1, false)] ++ txC (kid j).d.v.a (kid j).d.v.len) ∧ Hd (Mkd B C w w1 A k q1) := ⟨_, rfl, (MA _ _ (by omega) (by omega)).o.app hm' (by omega)⟩;have G' : Hd (q1 = m + ((1 + 1 + l2 : Nat) : Int)) := (show _ = _ by have z := G.o; have z1 := hm'.q; rw [txC_len, ← HL2.o] at z1; omega);clear G;have G := G';clear G';clear hm' MA ub c0 f0 c1 f1 s2 M0;obtain ⟨p1, u1⟩ : 0 ≤ q1 ∧ q1 ≤ 1152921504606846976 := by have z := G.o; have z1 := HJ.o; have z2 := HQ.o; have z3 := HM.o; omega
   have hW := HE.o.1.kb M1.o.kb;obtain ⟨⟨y3, c3⟩, f3⟩ := hW.n3;have s4 := hW.s4;clear hW;have MA := fun (x0 : Int) (h0 : x0 = q1) => iH (M1.o.num HE.o.1.n3.1 HE.o.1.hB HE.o.1.hC h0);have ub : q1 + 1 ≤ 1152921504606846976 := by have z := G.o; have z1 := HJ.o; have z2 := HQ.o; have z3 := HM.o; omega
   go_wp2_with fail
   refine (markText_x B C (kid j).d.t.t.a (kid j).d.t.t.len (kid j).d.t.t.cap _ _ (HE.o.1.t4.kb (MA _ (by omega)).o.kb) (by omega) (by omega)).mono ?_;rintro e w2 ⟨q2, rfl, hm'⟩;obtain ⟨A2, HA2, M2⟩ : ∃ A, Hd (A = A1 ++ [(g, j * 8 + 3, false)] ++ txC (kid j).d.t.t.a (kid j).d.t.t.len) ∧ Hd (Mkd B C w w2 A k q2) := ⟨_, rfl, (MA _ (by omega)).o.app hm' (by omega)⟩;have G' : Hd (q2 = m + ((1 + 1 + l2 + 1 + l4 : Nat) : Int)) := (show _ = _ by have z := G.o; have z1 := hm'.q; rw [txC_len, ← HL4.o] at z1; omega);clear G;have G := G';clear G';clear hm' MA ub c3 f3 s4 M1 p1 u1;obtain ⟨p2, u2⟩ : 0 ≤ q2 ∧ q2 ≤ 1152921504606846976 := by have z := G.o; have z1 := HJ.o; have z2 := HQ.o; have z3 := HM.o; omega
   have hW := HE.o.1.kb M2.o.kb;obtain ⟨⟨y5, c5⟩, f5⟩ := hW.n5;obtain ⟨⟨y6, c6⟩, f6⟩ := hW.n6;have s7 := hW.s7;clear hW;have MA := fun (x0 : Int) (x1 : Int) (h0 : x0 = q2) (h1 : x1 = q2 + 1) => iH ((M2.o.num HE.o.1.n5.1 HE.o.1.hB HE.o.1.hC h0).num HE.o.1.n6.1 HE.o.1.hB HE.o.1.hC h1);have ub : q2 + 2 ≤ 1152921504606846976 := by have z := G.o; have z1 := HJ.o; have z2 := HQ.o; have z3 := HM.o; omega
   go_wp2_with fail
   refine (HI.o j hlt _ _ (by omega) (by have zl := HL7.o; have z := G.o; have z1 := HJ.o; have z2 := HQ.o; have z3 := HM.o; omega) (HE.o.2.kb (MA _ _ (by omega) (by omega)).o.kb)).mono ?_;rintro e w3 ⟨q3, rfl, hm'⟩;obtain ⟨A3, HA3, M3⟩ : ∃ A, Hd (A = A2 ++ [(g, j * 8 + 5, false)] ++ [(g, j * 8 + 6, false)] ++ (kid j).ms) ∧ Hd (Mkd B C w w3 A k q3) := ⟨_, rfl, (MA _ _ (by omega) (by omega)).o.app hm' (by omega)⟩;have G' : Hd (q3 = m + ((1 + 1 + l2 + 1 + l4 + 1 + 1 + l7 : Nat) : Int)) := (show _ = _ by have z := G.o; have z1 := hm'.q; rw [← HL7.o] at z1; omega);clear G;have G := G';clear G';clear hm' MA ub c5 f5 c6 f6 s7 M2 p2 u2;obtain ⟨p3, u3⟩ : 0 ≤ q3 ∧ q3 ≤ 1152921504606846976 := by have z := G.o; have z1 := HJ.o; have z2 := HQ.o; have z3 := HM.o; omega
   have MB := iH (M3.o.cast (A' := catM F j ++ F j) (by rw [show F j = _ from congrFun HF.o j, HA3.o, HA2.o, HA1.o]; simp only [List.append_assoc]; first | done | rfl));go_wp2;go_roundw
   case rel =>
    refine ⟨j + 1, _, by omega, by go_num, rfl, by omega, by omega, ?_⟩
    show Mkd B C w _ (catM F j ++ F j) k _;exact MB.o.idx (by omega)
   case measure => simp [intOf]; omega
 obtain rfl : j = n := by omega
 go_wp2;go_ret;exact ⟨m, rfl, M0.o⟩
theorem heldExprS_x (B C : Nat) (a : Option Addr) (cap n : Nat) (kid : Nat → ET) (k : Int) (w : World) (hk : 0 ≤ k) (hk2 : k + ((catM (fun i => eF (blk a) (i * 8) (kid i).d (kid i).ms) n).length : Int) ≤ 1152921504606846976) (hM : XM B C w a n kid)
 (IH : ∀ i, i < n → ∀ (k : Int) (W : World), 0 ≤ k → k + ((kid i).ms.length : Int) ≤ 1152921504606846976 → KM B C W (kid i) → Hl W (kid i).ms k → Calls Tryz.prog 103 #[.slice (kid i).d.ka (kid i).d.n (kid i).d.kc, .int .i64 k] W (HdX W (kid i).ms k))
 (hH : Hl w (catM (fun i => eF (blk a) (i * 8) (kid i).d (kid i).ms) n) k) :
 Calls Tryz.prog 103 #[.slice a n cap, .int .i64 k] w (HdX w (catM (fun i => eF (blk a) (i * 8) (kid i).d (kid i).ms) n) k) := by
 by_cases h0 : n = 0
 · subst h0
   clear hM IH hH;go_in;go_wp2;refine wl1 ?_;go_wp2;go_ret;exact ⟨_, rfl, (show k = k + ((0 : Nat) : Int) by simp), rfl⟩
 rcases hM with h | ⟨g, rfl, hx⟩
 · exact absurd h h0
 change k + ((catM (fun i => eF (g) (i * 8) (kid i).d (kid i).ms) n).length : Int) ≤ 1152921504606846976 at hk2;obtain ⟨F, hF⟩ : ∃ F : Nat → List MC, F = (fun i => eF (g) (i * 8) (kid i).d (kid i).ms) := ⟨_, rfl⟩;have HF := iH hF;show Calls _ _ _ w (HdX w (catM (fun i => eF (g) (i * 8) (kid i).d (kid i).ms) n) k);rw [← hF] at hk2 ⊢;have HX := iH hx;have HQ := iH hk2;have HI := iH IH;have HH : Hd (Hl w (catM F n) k) := (show Hl _ _ _ by rw [hF]; exact hH);have HFL : ∀ j, (F j).length = 1 + 1 + (kid j).d.v.len + 1 + (kid j).d.t.t.len + 1 + 1 + ((kid j).ms).length := fun j => by
  rw [hF];simp only [List.length_append, List.length_cons, List.length_nil, txC_len, Nat.zero_add, Nat.add_assoc, eF]
 have HFH := iH HFL;have hn : n ≤ 1152921504606846976 := by
  have h := catM_ge (f := F) (fun i => by rw [HFL]; omega) n;omega
 have HN : Hd (∀ j, j < n → (catM F j).length + (1 + 1 + (kid j).d.v.len + 1 + (kid j).d.t.t.len + 1 + 1 + ((kid j).ms).length) ≤ (catM F n).length) := fun j hlt => by
  have h := catM_le (f := F) hlt;rw [HFL] at h;exact h
 clear HFL;clear hk2 IH hx hF h0 hH;go_in;go_wp2_with fail
 go_loop [1, 5] (fun a b => ∃ (j : Nat) (m : Int), j ≤ n ∧ b = .int .i64 j ∧ a = .int .i64 m ∧ 0 ≤ m ∧ m ≤ 1152921504606846976 ∧ Hd (m = k + ((catM F j).length : Int)))
  (fun _ b => n - (intOf b).toNat)
 case atStart => exact ⟨0, k, nZ, rfl, rfl, hk, by have h := HQ.o; omega, (show k = k + ((0 : Nat) : Int) by simp)⟩
 obtain ⟨j, m, hj, rfl, rfl, hm0, hm1, M0⟩ := hrel;by_cases hlt : j < n
 · have HJ := iH (HN.o j hlt)
   obtain ⟨l2, HL2⟩ : ∃ l, Hd (l = (kid j).d.v.len) := ⟨_, rfl⟩;rw [← HL2.o] at HJ;obtain ⟨l4, HL4⟩ : ∃ l, Hd (l = (kid j).d.t.t.len) := ⟨_, rfl⟩;rw [← HL4.o] at HJ;obtain ⟨l7, HL7⟩ : ∃ l, Hd (l = ((kid j).ms).length) := ⟨_, rfl⟩;rw [← HL7.o] at HJ;have HE := iH (HX.o j hlt);have hl := HH.o.cat hlt m M0.o;rw [show F j = _ from congrFun HF.o j] at hl;unfold eF at hl;have G := iH (show m = m from rfl);obtain ⟨e0, hl⟩ := hl.num;obtain ⟨e1, hl⟩ := hl.num;have s2 := HE.o.1.s2;have ub : m + 2 ≤ 1152921504606846976 := by have z := G.o; have z1 := HJ.o; have z2 := HQ.o; have z3 := M0.o; omega
   obtain ⟨ht, hr⟩ := hl.app;have HR := iH hr;clear hr;have HT : Hd (∀ q, q = m + 1 + 1 → Hl w _ q) := fun q hq => (show Hl w _ q by rw [hq]; exact ht);clear hl ht;go_wp2_with fail
   refine (heldText_x (kid j).d.v.a (kid j).d.v.len (kid j).d.v.cap _ w (TxM.form HE.o.1.t2) (HT.o _ (by omega)) (by omega) (by omega) HE.o.1.t2.1).mono ?_;rintro e w' ⟨q1, rfl, HQ1, hw'⟩;subst w';have G' : Hd (q1 = m + ((1 + 1 + l2 : Nat) : Int)) := (show _ = _ by have z := G.o; have z1 := HQ1.o; rw [txC_len, ← HL2.o] at z1; omega);have hl := HR.o q1 (by have z1 := HQ1.o; omega);clear G HT HR HQ1 s2 e0 e1 ub;have G := G';clear G';obtain ⟨p1, u1⟩ : 0 ≤ q1 ∧ q1 ≤ 1152921504606846976 := by have z := G.o; have z1 := HJ.o; have z2 := HQ.o; have z3 := M0.o; omega
   obtain ⟨e3, hl⟩ := hl.num;have s4 := HE.o.1.s4;have ub : q1 + 1 ≤ 1152921504606846976 := by have z := G.o; have z1 := HJ.o; have z2 := HQ.o; have z3 := M0.o; omega
   obtain ⟨ht, hr⟩ := hl.app;have HR := iH hr;clear hr;have HT : Hd (∀ q, q = q1 + 1 → Hl w _ q) := fun q hq => (show Hl w _ q by rw [hq]; exact ht);clear hl ht;go_wp2_with fail
   refine (heldText_x (kid j).d.t.t.a (kid j).d.t.t.len (kid j).d.t.t.cap _ w (TxM.form HE.o.1.t4) (HT.o _ (by omega)) (by omega) (by omega) HE.o.1.t4.1).mono ?_;rintro e w' ⟨q2, rfl, HQ2, hw'⟩;subst w';have G' : Hd (q2 = m + ((1 + 1 + l2 + 1 + l4 : Nat) : Int)) := (show _ = _ by have z := G.o; have z1 := HQ2.o; rw [txC_len, ← HL4.o] at z1; omega);replace ht := HR.o q2 (by have z1 := HQ2.o; omega);clear G HT HR HQ2 s4 e3 ub p1 u1;have G := G';clear G';obtain ⟨p2, u2⟩ : 0 ≤ q2 ∧ q2 ≤ 1152921504606846976 := by have z := G.o; have z1 := HJ.o; have z2 := HQ.o; have z3 := M0.o; omega
   obtain ⟨e5, ht⟩ := ht.num;obtain ⟨e6, ht⟩ := ht.num;have s7 := HE.o.1.s7;have ub : q2 + 2 ≤ 1152921504606846976 := by have z := G.o; have z1 := HJ.o; have z2 := HQ.o; have z3 := M0.o; omega
   have HT : Hd (∀ q, q = q2 + 1 + 1 → Hl w _ q) := fun q hq => (show Hl w _ q by rw [hq]; exact ht);clear ht;go_wp2_with fail
   refine (HI.o j hlt _ w (by omega) (by have zl := HL7.o; have z := G.o; have z1 := HJ.o; have z2 := HQ.o; have z3 := M0.o; omega) HE.o.2 (HT.o _ (by omega))).mono ?_;rintro e w' ⟨q3, rfl, HQ3, hw'⟩;subst w';have G' : Hd (q3 = m + ((1 + 1 + l2 + 1 + l4 + 1 + 1 + l7 : Nat) : Int)) := (show _ = _ by have z := G.o; have z1 := HQ3.o; rw [← HL7.o] at z1; omega);clear G HT HQ3 s7 e5 e6 ub p2 u2;have G := G';clear G';obtain ⟨p3, u3⟩ : 0 ≤ q3 ∧ q3 ≤ 1152921504606846976 := by have z := G.o; have z1 := HJ.o; have z2 := HQ.o; have z3 := M0.o; omega
   go_wp2;go_round
   case rel =>
    refine ⟨j + 1, _, by omega, by go_num, rfl, by omega, by omega, ?_⟩
    show _ = k + (((catM F j ++ F j).length : Nat) : Int);rw [List.length_append, HFH.o j, ← HL2.o, ← HL4.o, ← HL7.o];have z := G.o;have z3 := M0.o;omega
   case measure => simp [intOf]; omega
 obtain rfl : j = n := by omega
 go_wp2;go_ret;exact ⟨m, rfl, M0.o, rfl⟩
theorem markKids_x (B C : Nat) (e : ET) : ∀ (w : World) (k : Int), 0 ≤ k → k + (e.ms.length : Int) ≤ 1152921504606846976 → KM B C w e →
 Calls Tryz.prog 99 #[.slice e.d.ka e.d.n e.d.kc, .int .i64 k] w (MkX B C w e.ms k) := by
 induction e with
 | nil => exact fun w k hk hk2 _ => markExprS_x B C _ _ 0 (fun _ => .nil) k w hk hk2 (.inl rfl) (fun i hi => absurd hi nN)
 | mk d kid ih => exact fun w k hk hk2 hM => markExprS_x B C d.ka d.kc d.n kid k w hk hk2 hM fun i hi W k' h1 h2 h3 => ih i W k' h1 h2 h3
theorem heldKids_x (B C : Nat) (e : ET) : ∀ (k : Int) (w : World), 0 ≤ k → k + (e.ms.length : Int) ≤ 1152921504606846976 → KM B C w e → Hl w e.ms k →
 Calls Tryz.prog 103 #[.slice e.d.ka e.d.n e.d.kc, .int .i64 k] w (HdX w e.ms k) := by
 induction e with
 | nil => exact fun k w hk hk2 _ _ => heldExprS_x B C _ _ 0 (fun _ => .nil) k w hk hk2 (.inl rfl) (fun i hi => absurd hi nN) trivial
 | mk d kid ih => exact fun k w hk hk2 hM hH => heldExprS_x B C d.ka d.kc d.n kid k w hk hk2 hM (fun i hi k' W h1 h2 h3 h4 => ih i k' W h1 h2 h3 h4) hH
def tF (g o : Nat) (d : TB) : List MC := [(g, o, false)] ++ (txC d.t.a d.t.len ++ ([(g, o + 2, false)] ++ ([(g, o + 3, false)])))
theorem markTermS_x (B C : Nat) (a : Option Addr) (cap n : Nat) (kid : Nat → TB) (k : Int) (w : World) (hk : 0 ≤ k) (hk2 : k + ((catM (fun i => tF (blk a) (i * 4) (kid i)) n).length : Int) ≤ 1152921504606846976) (hM : TsX B C w a n kid) :
 Calls Tryz.prog 50 #[.slice a n cap, .int .i64 k] w (MkX B C w (catM (fun i => tF (blk a) (i * 4) (kid i)) n) k) := by
 by_cases h0 : n = 0
 · subst h0
   clear hM;go_in;go_wp2;refine wl1 ?_;go_wp2;go_ret;exact ⟨_, rfl, Mkd.refl _ _ _ _⟩
 rcases hM with h | ⟨g, rfl, hx⟩
 · exact absurd h h0
 change k + ((catM (fun i => tF (g) (i * 4) (kid i)) n).length : Int) ≤ 1152921504606846976 at hk2;obtain ⟨F, hF⟩ : ∃ F : Nat → List MC, F = (fun i => tF (g) (i * 4) (kid i)) := ⟨_, rfl⟩;have HF := iH hF;show Calls _ _ _ w (MkX B C w (catM (fun i => tF (g) (i * 4) (kid i)) n) k);rw [← hF] at hk2 ⊢;have HX := iH hx;have HQ := iH hk2;skip
 have HFL : ∀ j, (F j).length = 1 + (kid j).t.len + 1 + 1 := fun j => by
  rw [hF];simp only [List.length_append, List.length_cons, List.length_nil, txC_len, Nat.zero_add, Nat.add_assoc, tF]
 have HFH := iH HFL;have hn : n ≤ 1152921504606846976 := by
  have h := catM_ge (f := F) (fun i => by rw [HFL]; omega) n;omega
 have HN : Hd (∀ j, j < n → (catM F j).length + (1 + (kid j).t.len + 1 + 1) ≤ (catM F n).length) := fun j hlt => by
  have h := catM_le (f := F) hlt;rw [HFL] at h;exact h
 clear HFL;clear hk2 hx hF h0;go_in;go_wp2_with fail
 go_loopw [1, 5] (fun a b wr => ∃ (j : Nat) (m : Int), j ≤ n ∧ b = .int .i64 j ∧ a = .int .i64 m ∧ 0 ≤ m ∧ m ≤ 1152921504606846976 ∧ Hd (Mkd B C w wr (catM F j) k m))
  (fun _ b _ => n - (intOf b).toNat)
 case atStart => exact ⟨0, k, nZ, rfl, rfl, hk, by have h := HQ.o; omega, Mkd.refl _ _ _ _⟩
 obtain ⟨j, m, hj, rfl, rfl, hm0, hm1, M0⟩ := hrel;by_cases hlt : j < n
 · have HJ := iH (HN.o j hlt)
   obtain ⟨l1, HL1⟩ : ∃ l, Hd (l = (kid j).t.len) := ⟨_, rfl⟩;rw [← HL1.o] at HJ;have HE := iH (HX.o j hlt);have HM := iH M0.o.q;have G := iH (show m = m from rfl);have hW := HE.o.1.kb M0.o.kb;obtain ⟨⟨y0, c0⟩, f0⟩ := hW.n0;have s1 := hW.s1;clear hW;have MA := fun (x0 : Int) (h0 : x0 = m) => iH (M0.o.num HE.o.1.n0.1 HE.o.1.hB HE.o.1.hC h0);have ub : m + 1 ≤ 1152921504606846976 := by have z := G.o; have z1 := HJ.o; have z2 := HQ.o; have z3 := HM.o; omega
   go_wp2_with fail
   refine (markText_x B C (kid j).t.a (kid j).t.len (kid j).t.cap _ _ (HE.o.1.t1.kb (MA _ (by omega)).o.kb) (by omega) (by omega)).mono ?_;rintro e w1 ⟨q1, rfl, hm'⟩;obtain ⟨A1, HA1, M1⟩ : ∃ A, Hd (A = catM F j ++ [(g, j * 4, false)] ++ txC (kid j).t.a (kid j).t.len) ∧ Hd (Mkd B C w w1 A k q1) := ⟨_, rfl, (MA _ (by omega)).o.app hm' (by omega)⟩;have G' : Hd (q1 = m + ((1 + l1 : Nat) : Int)) := (show _ = _ by have z := G.o; have z1 := hm'.q; rw [txC_len, ← HL1.o] at z1; omega);clear G;have G := G';clear G';clear hm' MA ub c0 f0 s1 M0;obtain ⟨p1, u1⟩ : 0 ≤ q1 ∧ q1 ≤ 1152921504606846976 := by have z := G.o; have z1 := HJ.o; have z2 := HQ.o; have z3 := HM.o; omega
   have hW := HE.o.1.kb M1.o.kb;obtain ⟨⟨y2, c2⟩, f2⟩ := hW.n2;obtain ⟨⟨y3, c3⟩, f3⟩ := hW.n3;clear hW;have MA := fun (x0 : Int) (x1 : Int) (h0 : x0 = q1) (h1 : x1 = q1 + 1) => iH ((M1.o.num HE.o.1.n2.1 HE.o.1.hB HE.o.1.hC h0).num HE.o.1.n3.1 HE.o.1.hB HE.o.1.hC h1);have ub : q1 + 2 ≤ 1152921504606846976 := by have z := G.o; have z1 := HJ.o; have z2 := HQ.o; have z3 := HM.o; omega
   have MB := fun (x0 : Int) (x1 : Int) (h0 : x0 = q1) (h1 : x1 = q1 + 1) => iH ((MA x0 x1 h0 h1).o.cast (A' := catM F j ++ F j) (by rw [show F j = _ from congrFun HF.o j, HA1.o]; simp only [List.append_assoc]; first | done | rfl));clear MA;go_wp2;go_roundw
   case rel =>
    refine ⟨j + 1, _, by omega, by go_num, rfl, by omega, by omega, ?_⟩
    show Mkd B C w _ (catM F j ++ F j) k _;exact (MB _ _ (by omega) (by omega)).o.idx (by omega)
   case measure => simp [intOf]; omega
 obtain rfl : j = n := by omega
 go_wp2;go_ret;exact ⟨m, rfl, M0.o⟩
theorem heldTermS_x (B C : Nat) (a : Option Addr) (cap n : Nat) (kid : Nat → TB) (k : Int) (w : World) (hk : 0 ≤ k) (hk2 : k + ((catM (fun i => tF (blk a) (i * 4) (kid i)) n).length : Int) ≤ 1152921504606846976) (hM : TsX B C w a n kid)
 (hH : Hl w (catM (fun i => tF (blk a) (i * 4) (kid i)) n) k) :
 Calls Tryz.prog 57 #[.slice a n cap, .int .i64 k] w (HdX w (catM (fun i => tF (blk a) (i * 4) (kid i)) n) k) := by
 by_cases h0 : n = 0
 · subst h0
   clear hM hH;go_in;go_wp2;refine wl1 ?_;go_wp2;go_ret;exact ⟨_, rfl, (show k = k + ((0 : Nat) : Int) by simp), rfl⟩
 rcases hM with h | ⟨g, rfl, hx⟩
 · exact absurd h h0
 change k + ((catM (fun i => tF (g) (i * 4) (kid i)) n).length : Int) ≤ 1152921504606846976 at hk2;obtain ⟨F, hF⟩ : ∃ F : Nat → List MC, F = (fun i => tF (g) (i * 4) (kid i)) := ⟨_, rfl⟩;have HF := iH hF;show Calls _ _ _ w (HdX w (catM (fun i => tF (g) (i * 4) (kid i)) n) k);rw [← hF] at hk2 ⊢;have HX := iH hx;have HQ := iH hk2;skip;have HH : Hd (Hl w (catM F n) k) := (show Hl _ _ _ by rw [hF]; exact hH);have HFL : ∀ j, (F j).length = 1 + (kid j).t.len + 1 + 1 := fun j => by
  rw [hF];simp only [List.length_append, List.length_cons, List.length_nil, txC_len, Nat.zero_add, Nat.add_assoc, tF]
 have HFH := iH HFL;have hn : n ≤ 1152921504606846976 := by
  have h := catM_ge (f := F) (fun i => by rw [HFL]; omega) n;omega
 have HN : Hd (∀ j, j < n → (catM F j).length + (1 + (kid j).t.len + 1 + 1) ≤ (catM F n).length) := fun j hlt => by
  have h := catM_le (f := F) hlt;rw [HFL] at h;exact h
 clear HFL;clear hk2 hx hF h0 hH;go_in;go_wp2_with fail
 go_loop [1, 5] (fun a b => ∃ (j : Nat) (m : Int), j ≤ n ∧ b = .int .i64 j ∧ a = .int .i64 m ∧ 0 ≤ m ∧ m ≤ 1152921504606846976 ∧ Hd (m = k + ((catM F j).length : Int)))
  (fun _ b => n - (intOf b).toNat)
 case atStart => exact ⟨0, k, nZ, rfl, rfl, hk, by have h := HQ.o; omega, (show k = k + ((0 : Nat) : Int) by simp)⟩
 obtain ⟨j, m, hj, rfl, rfl, hm0, hm1, M0⟩ := hrel;by_cases hlt : j < n
 · have HJ := iH (HN.o j hlt)
   obtain ⟨l1, HL1⟩ : ∃ l, Hd (l = (kid j).t.len) := ⟨_, rfl⟩;rw [← HL1.o] at HJ;have HE := iH (HX.o j hlt);have hl := HH.o.cat hlt m M0.o;rw [show F j = _ from congrFun HF.o j] at hl;unfold tF at hl;have G := iH (show m = m from rfl);obtain ⟨e0, hl⟩ := hl.num;have s1 := HE.o.1.s1;have ub : m + 1 ≤ 1152921504606846976 := by have z := G.o; have z1 := HJ.o; have z2 := HQ.o; have z3 := M0.o; omega
   obtain ⟨ht, hr⟩ := hl.app;have HR := iH hr;clear hr;have HT : Hd (∀ q, q = m + 1 → Hl w _ q) := fun q hq => (show Hl w _ q by rw [hq]; exact ht);clear hl ht;go_wp2_with fail
   refine (heldText_x (kid j).t.a (kid j).t.len (kid j).t.cap _ w (TxM.form HE.o.1.t1) (HT.o _ (by omega)) (by omega) (by omega) HE.o.1.t1.1).mono ?_;rintro e w' ⟨q1, rfl, HQ1, hw'⟩;subst w';have G' : Hd (q1 = m + ((1 + l1 : Nat) : Int)) := (show _ = _ by have z := G.o; have z1 := HQ1.o; rw [txC_len, ← HL1.o] at z1; omega);have hl := HR.o q1 (by have z1 := HQ1.o; omega);clear G HT HR HQ1 s1 e0 ub;have G := G';clear G';obtain ⟨p1, u1⟩ : 0 ≤ q1 ∧ q1 ≤ 1152921504606846976 := by have z := G.o; have z1 := HJ.o; have z2 := HQ.o; have z3 := M0.o; omega
   obtain ⟨e2, hl⟩ := hl.num;obtain ⟨e3, _⟩ := hl.num (L := []);have ub : q1 + 2 ≤ 1152921504606846976 := by have z := G.o; have z1 := HJ.o; have z2 := HQ.o; have z3 := M0.o; omega
   go_wp2;go_round
   case rel =>
    refine ⟨j + 1, _, by omega, by go_num, rfl, by omega, by omega, ?_⟩
    show _ = k + (((catM F j ++ F j).length : Nat) : Int);rw [List.length_append, HFH.o j, ← HL1.o];have z := G.o;have z3 := M0.o;omega
   case measure => simp [intOf]; omega
 obtain rfl : j = n := by omega
 go_wp2;go_ret;exact ⟨m, rfl, M0.o, rfl⟩
structure PM (B C : Nat) (w : World) (g o : Nat) (d : PB) : Prop where
 hB : B ≤ g
 hC : g < C
 n1 : WN w g (o + 1)
 n3 : WN w g (o + 3)
 n4 : WN w g (o + 4)
 n6 : WN w g (o + 6)
 n8 : WN w g (o + 8)
 n9 : WN w g (o + 9)
 n11 : WN w g (o + 11)
 n13 : WN w g (o + 13)
 n14 : WN w g (o + 14)
 s0 : w.cell? ⟨g, o, none⟩ = some (.slice d.s.v.a d.s.v.len d.s.v.cap)
 t0 : TxM B C w d.s.v.a d.s.v.len
 s2 : w.cell? ⟨g, o + 2, none⟩ = some (.slice d.s.t.t.a d.s.t.t.len d.s.t.t.cap)
 t2 : TxM B C w d.s.t.t.a d.s.t.t.len
 s5 : w.cell? ⟨g, o + 5, none⟩ = some (.slice d.p.v.a d.p.v.len d.p.v.cap)
 t5 : TxM B C w d.p.v.a d.p.v.len
 s7 : w.cell? ⟨g, o + 7, none⟩ = some (.slice d.p.t.t.a d.p.t.t.len d.p.t.t.cap)
 t7 : TxM B C w d.p.t.t.a d.p.t.t.len
 s10 : w.cell? ⟨g, o + 10, none⟩ = some (.slice d.o.v.a d.o.v.len d.o.v.cap)
 t10 : TxM B C w d.o.v.a d.o.v.len
 s12 : w.cell? ⟨g, o + 12, none⟩ = some (.slice d.o.t.t.a d.o.t.t.len d.o.t.t.cap)
 t12 : TxM B C w d.o.t.t.a d.o.t.t.len
theorem PM.kb {d : PB} (h : PM B C w g o d) (k : KB w w') : PM B C w' g o d :=
 ⟨h.hB, h.hC, h.n1.kb k, h.n3.kb k, h.n4.kb k, h.n6.kb k, h.n8.kb k, h.n9.kb k, h.n11.kb k, h.n13.kb k, h.n14.kb k, k.s _ _ _ _ _ h.s0, h.t0.kb k, k.s _ _ _ _ _ h.s2, h.t2.kb k, k.s _ _ _ _ _ h.s5, h.t5.kb k, k.s _ _ _ _ _ h.s7, h.t7.kb k, k.s _ _ _ _ _ h.s10, h.t10.kb k, k.s _ _ _ _ _ h.s12, h.t12.kb k⟩
def PX (B C : Nat) (w : World) (a : Option Addr) (n : Nat) (kid : Nat → PB) : Prop := n = 0 ∨ ∃ g, a = some ⟨g, 0, none⟩ ∧ ∀ i, i < n → PM B C w g (i * 15) (kid i) ∧ True
theorem PX.kb {n : Nat} {kid : Nat → PB} (h : PX B C w a n kid) (k : KB w w') : PX B C w' a n kid := by
 rcases h with h | ⟨g, ha, hx⟩
 · exact .inl h
 exact .inr ⟨g, ha, fun i hi => ⟨(hx i hi).1.kb k, trivial⟩⟩
def pF (g o : Nat) (d : PB) : List MC := txC d.s.v.a d.s.v.len ++ ([(g, o + 1, false)] ++ (txC d.s.t.t.a d.s.t.t.len ++ ([(g, o + 3, false)] ++ ([(g, o + 4, false)] ++ (txC d.p.v.a d.p.v.len ++ ([(g, o + 6, false)] ++ (txC d.p.t.t.a d.p.t.t.len ++ ([(g, o + 8, false)] ++ ([(g, o + 9, false)] ++ (txC d.o.v.a d.o.v.len ++ ([(g, o + 11, false)] ++ (txC d.o.t.t.a d.o.t.t.len ++ ([(g, o + 13, false)] ++ ([(g, o + 14, false)]))))))))))))))
def patM (a : Option Addr) (n : Nat) (kid : Nat → PB) : List MC := catM (fun i => pF (blk a) (i * 15) (kid i)) n
def termM (a : Option Addr) (tb : List TB) : List MC := catM (fun i => tF (blk a) (i * 4) (tbN tb i)) tb.length
theorem markPatS_x (B C : Nat) (a : Option Addr) (cap n : Nat) (kid : Nat → PB) (k : Int) (w : World) (hk : 0 ≤ k) (hk2 : k + ((catM (fun i => pF (blk a) (i * 15) (kid i)) n).length : Int) ≤ 1152921504606846976) (hM : PX B C w a n kid) :
 Calls Tryz.prog 47 #[.slice a n cap, .int .i64 k] w (MkX B C w (catM (fun i => pF (blk a) (i * 15) (kid i)) n) k) := by
 by_cases h0 : n = 0
 · subst h0
   clear hM;go_in;go_wp2;refine wl1 ?_;go_wp2;go_ret;exact ⟨_, rfl, Mkd.refl _ _ _ _⟩
 rcases hM with h | ⟨g, rfl, hx⟩
 · exact absurd h h0
 change k + ((catM (fun i => pF (g) (i * 15) (kid i)) n).length : Int) ≤ 1152921504606846976 at hk2;obtain ⟨F, hF⟩ : ∃ F : Nat → List MC, F = (fun i => pF (g) (i * 15) (kid i)) := ⟨_, rfl⟩;have HF := iH hF;show Calls _ _ _ w (MkX B C w (catM (fun i => pF (g) (i * 15) (kid i)) n) k);rw [← hF] at hk2 ⊢;have HX := iH hx;have HQ := iH hk2;skip
 have HFL : ∀ j, (F j).length = (kid j).s.v.len + 1 + (kid j).s.t.t.len + 1 + 1 + (kid j).p.v.len + 1 + (kid j).p.t.t.len + 1 + 1 + (kid j).o.v.len + 1 + (kid j).o.t.t.len + 1 + 1 := fun j => by
  rw [hF];simp only [List.length_append, List.length_cons, List.length_nil, txC_len, Nat.zero_add, Nat.add_assoc, pF]
 have HFH := iH HFL;have hn : n ≤ 1152921504606846976 := by
  have h := catM_ge (f := F) (fun i => by rw [HFL]; omega) n;omega
 have HN : Hd (∀ j, j < n → (catM F j).length + ((kid j).s.v.len + 1 + (kid j).s.t.t.len + 1 + 1 + (kid j).p.v.len + 1 + (kid j).p.t.t.len + 1 + 1 + (kid j).o.v.len + 1 + (kid j).o.t.t.len + 1 + 1) ≤ (catM F n).length) := fun j hlt => by
  have h := catM_le (f := F) hlt;rw [HFL] at h;exact h
 clear HFL;clear hk2 hx hF h0;go_in;go_wp2_with fail
 go_loopw [1, 5] (fun a b wr => ∃ (j : Nat) (m : Int), j ≤ n ∧ b = .int .i64 j ∧ a = .int .i64 m ∧ 0 ≤ m ∧ m ≤ 1152921504606846976 ∧ Hd (Mkd B C w wr (catM F j) k m))
  (fun _ b _ => n - (intOf b).toNat)
 case atStart => exact ⟨0, k, nZ, rfl, rfl, hk, by have h := HQ.o; omega, Mkd.refl _ _ _ _⟩
 obtain ⟨j, m, hj, rfl, rfl, hm0, hm1, M0⟩ := hrel;by_cases hlt : j < n
 · have HJ := iH (HN.o j hlt)
   obtain ⟨l0, HL0⟩ : ∃ l, Hd (l = (kid j).s.v.len) := ⟨_, rfl⟩;rw [← HL0.o] at HJ;obtain ⟨l2, HL2⟩ : ∃ l, Hd (l = (kid j).s.t.t.len) := ⟨_, rfl⟩;rw [← HL2.o] at HJ;obtain ⟨l5, HL5⟩ : ∃ l, Hd (l = (kid j).p.v.len) := ⟨_, rfl⟩;rw [← HL5.o] at HJ;obtain ⟨l7, HL7⟩ : ∃ l, Hd (l = (kid j).p.t.t.len) := ⟨_, rfl⟩;rw [← HL7.o] at HJ;obtain ⟨l10, HL10⟩ : ∃ l, Hd (l = (kid j).o.v.len) := ⟨_, rfl⟩;rw [← HL10.o] at HJ;obtain ⟨l12, HL12⟩ : ∃ l, Hd (l = (kid j).o.t.t.len) := ⟨_, rfl⟩;rw [← HL12.o] at HJ;have HE := iH (HX.o j hlt);have HM := iH M0.o.q;have G := iH (show m = m from rfl);have hW := HE.o.1.kb M0.o.kb;have s0 := hW.s0;clear hW;go_wp2_with fail
   refine (markText_x B C (kid j).s.v.a (kid j).s.v.len (kid j).s.v.cap _ _ (HE.o.1.t0.kb M0.o.kb) (by omega) (by omega)).mono ?_;rintro e w1 ⟨q1, rfl, hm'⟩;obtain ⟨A1, HA1, M1⟩ : ∃ A, Hd (A = catM F j ++ txC (kid j).s.v.a (kid j).s.v.len) ∧ Hd (Mkd B C w w1 A k q1) := ⟨_, rfl, M0.o.app hm' (by omega)⟩;have G' : Hd (q1 = m + ((l0 : Nat) : Int)) := (show _ = _ by have z := G.o; have z1 := hm'.q; rw [txC_len, ← HL0.o] at z1; omega);clear G;have G := G';clear G';clear hm' s0 M0;obtain ⟨p1, u1⟩ : 0 ≤ q1 ∧ q1 ≤ 1152921504606846976 := by have z := G.o; have z1 := HJ.o; have z2 := HQ.o; have z3 := HM.o; omega
   have hW := HE.o.1.kb M1.o.kb;obtain ⟨⟨y1, c1⟩, f1⟩ := hW.n1;have s2 := hW.s2;clear hW;have MA := fun (x0 : Int) (h0 : x0 = q1) => iH (M1.o.num HE.o.1.n1.1 HE.o.1.hB HE.o.1.hC h0);have ub : q1 + 1 ≤ 1152921504606846976 := by have z := G.o; have z1 := HJ.o; have z2 := HQ.o; have z3 := HM.o; omega
   go_wp2_with fail
   refine (markText_x B C (kid j).s.t.t.a (kid j).s.t.t.len (kid j).s.t.t.cap _ _ (HE.o.1.t2.kb (MA _ (by omega)).o.kb) (by omega) (by omega)).mono ?_;rintro e w2 ⟨q2, rfl, hm'⟩;obtain ⟨A2, HA2, M2⟩ : ∃ A, Hd (A = A1 ++ [(g, j * 15 + 1, false)] ++ txC (kid j).s.t.t.a (kid j).s.t.t.len) ∧ Hd (Mkd B C w w2 A k q2) := ⟨_, rfl, (MA _ (by omega)).o.app hm' (by omega)⟩;have G' : Hd (q2 = m + ((l0 + 1 + l2 : Nat) : Int)) := (show _ = _ by have z := G.o; have z1 := hm'.q; rw [txC_len, ← HL2.o] at z1; omega);clear G;have G := G';clear G';clear hm' MA ub c1 f1 s2 M1 p1 u1;obtain ⟨p2, u2⟩ : 0 ≤ q2 ∧ q2 ≤ 1152921504606846976 := by have z := G.o; have z1 := HJ.o; have z2 := HQ.o; have z3 := HM.o; omega
   have hW := HE.o.1.kb M2.o.kb;obtain ⟨⟨y3, c3⟩, f3⟩ := hW.n3;obtain ⟨⟨y4, c4⟩, f4⟩ := hW.n4;have s5 := hW.s5;clear hW;have MA := fun (x0 : Int) (x1 : Int) (h0 : x0 = q2) (h1 : x1 = q2 + 1) => iH ((M2.o.num HE.o.1.n3.1 HE.o.1.hB HE.o.1.hC h0).num HE.o.1.n4.1 HE.o.1.hB HE.o.1.hC h1);have ub : q2 + 2 ≤ 1152921504606846976 := by have z := G.o; have z1 := HJ.o; have z2 := HQ.o; have z3 := HM.o; omega
   go_wp2_with fail
   refine (markText_x B C (kid j).p.v.a (kid j).p.v.len (kid j).p.v.cap _ _ (HE.o.1.t5.kb (MA _ _ (by omega) (by omega)).o.kb) (by omega) (by omega)).mono ?_;rintro e w3 ⟨q3, rfl, hm'⟩;obtain ⟨A3, HA3, M3⟩ : ∃ A, Hd (A = A2 ++ [(g, j * 15 + 3, false)] ++ [(g, j * 15 + 4, false)] ++ txC (kid j).p.v.a (kid j).p.v.len) ∧ Hd (Mkd B C w w3 A k q3) := ⟨_, rfl, (MA _ _ (by omega) (by omega)).o.app hm' (by omega)⟩;have G' : Hd (q3 = m + ((l0 + 1 + l2 + 1 + 1 + l5 : Nat) : Int)) := (show _ = _ by have z := G.o; have z1 := hm'.q; rw [txC_len, ← HL5.o] at z1; omega);clear G;have G := G';clear G';clear hm' MA ub c3 f3 c4 f4 s5 M2 p2 u2;obtain ⟨p3, u3⟩ : 0 ≤ q3 ∧ q3 ≤ 1152921504606846976 := by have z := G.o; have z1 := HJ.o; have z2 := HQ.o; have z3 := HM.o; omega
   have hW := HE.o.1.kb M3.o.kb;obtain ⟨⟨y6, c6⟩, f6⟩ := hW.n6;have s7 := hW.s7;clear hW;have MA := fun (x0 : Int) (h0 : x0 = q3) => iH (M3.o.num HE.o.1.n6.1 HE.o.1.hB HE.o.1.hC h0);have ub : q3 + 1 ≤ 1152921504606846976 := by have z := G.o; have z1 := HJ.o; have z2 := HQ.o; have z3 := HM.o; omega
   go_wp2_with fail
   refine (markText_x B C (kid j).p.t.t.a (kid j).p.t.t.len (kid j).p.t.t.cap _ _ (HE.o.1.t7.kb (MA _ (by omega)).o.kb) (by omega) (by omega)).mono ?_;rintro e w4 ⟨q4, rfl, hm'⟩;obtain ⟨A4, HA4, M4⟩ : ∃ A, Hd (A = A3 ++ [(g, j * 15 + 6, false)] ++ txC (kid j).p.t.t.a (kid j).p.t.t.len) ∧ Hd (Mkd B C w w4 A k q4) := ⟨_, rfl, (MA _ (by omega)).o.app hm' (by omega)⟩;have G' : Hd (q4 = m + ((l0 + 1 + l2 + 1 + 1 + l5 + 1 + l7 : Nat) : Int)) := (show _ = _ by have z := G.o; have z1 := hm'.q; rw [txC_len, ← HL7.o] at z1; omega);clear G;have G := G';clear G';clear hm' MA ub c6 f6 s7 M3 p3 u3;obtain ⟨p4, u4⟩ : 0 ≤ q4 ∧ q4 ≤ 1152921504606846976 := by have z := G.o; have z1 := HJ.o; have z2 := HQ.o; have z3 := HM.o; omega
   have hW := HE.o.1.kb M4.o.kb;obtain ⟨⟨y8, c8⟩, f8⟩ := hW.n8;obtain ⟨⟨y9, c9⟩, f9⟩ := hW.n9;have s10 := hW.s10;clear hW;have MA := fun (x0 : Int) (x1 : Int) (h0 : x0 = q4) (h1 : x1 = q4 + 1) => iH ((M4.o.num HE.o.1.n8.1 HE.o.1.hB HE.o.1.hC h0).num HE.o.1.n9.1 HE.o.1.hB HE.o.1.hC h1);have ub : q4 + 2 ≤ 1152921504606846976 := by have z := G.o; have z1 := HJ.o; have z2 := HQ.o; have z3 := HM.o; omega
   go_wp2_with fail
   refine (markText_x B C (kid j).o.v.a (kid j).o.v.len (kid j).o.v.cap _ _ (HE.o.1.t10.kb (MA _ _ (by omega) (by omega)).o.kb) (by omega) (by omega)).mono ?_;rintro e w5 ⟨q5, rfl, hm'⟩;obtain ⟨A5, HA5, M5⟩ : ∃ A, Hd (A = A4 ++ [(g, j * 15 + 8, false)] ++ [(g, j * 15 + 9, false)] ++ txC (kid j).o.v.a (kid j).o.v.len) ∧ Hd (Mkd B C w w5 A k q5) := ⟨_, rfl, (MA _ _ (by omega) (by omega)).o.app hm' (by omega)⟩;have G' : Hd (q5 = m + ((l0 + 1 + l2 + 1 + 1 + l5 + 1 + l7 + 1 + 1 + l10 : Nat) : Int)) := (show _ = _ by have z := G.o; have z1 := hm'.q; rw [txC_len, ← HL10.o] at z1; omega);clear G;have G := G';clear G';clear hm' MA ub c8 f8 c9 f9 s10 M4 p4 u4;obtain ⟨p5, u5⟩ : 0 ≤ q5 ∧ q5 ≤ 1152921504606846976 := by have z := G.o; have z1 := HJ.o; have z2 := HQ.o; have z3 := HM.o; omega
   have hW := HE.o.1.kb M5.o.kb;obtain ⟨⟨y11, c11⟩, f11⟩ := hW.n11;have s12 := hW.s12;clear hW;have MA := fun (x0 : Int) (h0 : x0 = q5) => iH (M5.o.num HE.o.1.n11.1 HE.o.1.hB HE.o.1.hC h0);have ub : q5 + 1 ≤ 1152921504606846976 := by have z := G.o; have z1 := HJ.o; have z2 := HQ.o; have z3 := HM.o; omega
   go_wp2_with fail
   refine (markText_x B C (kid j).o.t.t.a (kid j).o.t.t.len (kid j).o.t.t.cap _ _ (HE.o.1.t12.kb (MA _ (by omega)).o.kb) (by omega) (by omega)).mono ?_;rintro e w6 ⟨q6, rfl, hm'⟩;obtain ⟨A6, HA6, M6⟩ : ∃ A, Hd (A = A5 ++ [(g, j * 15 + 11, false)] ++ txC (kid j).o.t.t.a (kid j).o.t.t.len) ∧ Hd (Mkd B C w w6 A k q6) := ⟨_, rfl, (MA _ (by omega)).o.app hm' (by omega)⟩;have G' : Hd (q6 = m + ((l0 + 1 + l2 + 1 + 1 + l5 + 1 + l7 + 1 + 1 + l10 + 1 + l12 : Nat) : Int)) := (show _ = _ by have z := G.o; have z1 := hm'.q; rw [txC_len, ← HL12.o] at z1; omega);clear G;have G := G';clear G';clear hm' MA ub c11 f11 s12 M5 p5 u5;obtain ⟨p6, u6⟩ : 0 ≤ q6 ∧ q6 ≤ 1152921504606846976 := by have z := G.o; have z1 := HJ.o; have z2 := HQ.o; have z3 := HM.o; omega
   have hW := HE.o.1.kb M6.o.kb;obtain ⟨⟨y13, c13⟩, f13⟩ := hW.n13;obtain ⟨⟨y14, c14⟩, f14⟩ := hW.n14;clear hW;have MA := fun (x0 : Int) (x1 : Int) (h0 : x0 = q6) (h1 : x1 = q6 + 1) => iH ((M6.o.num HE.o.1.n13.1 HE.o.1.hB HE.o.1.hC h0).num HE.o.1.n14.1 HE.o.1.hB HE.o.1.hC h1);have ub : q6 + 2 ≤ 1152921504606846976 := by have z := G.o; have z1 := HJ.o; have z2 := HQ.o; have z3 := HM.o; omega
   have MB := fun (x0 : Int) (x1 : Int) (h0 : x0 = q6) (h1 : x1 = q6 + 1) => iH ((MA x0 x1 h0 h1).o.cast (A' := catM F j ++ F j) (by rw [show F j = _ from congrFun HF.o j, HA6.o, HA5.o, HA4.o, HA3.o, HA2.o, HA1.o]; simp only [List.append_assoc]; first | done | rfl));clear MA;go_wp2;go_roundw
   case rel =>
    refine ⟨j + 1, _, by omega, by go_num, rfl, by omega, by omega, ?_⟩
    show Mkd B C w _ (catM F j ++ F j) k _;exact (MB _ _ (by omega) (by omega)).o.idx (by omega)
   case measure => simp [intOf]; omega
 obtain rfl : j = n := by omega
 go_wp2;go_ret;exact ⟨m, rfl, M0.o⟩
theorem markPats_x (B C : Nat) (a : Option Addr) (cap n : Nat) (kid : Nat → PB) (k : Int) (w : World) (hk : 0 ≤ k) (hk2 : k + ((patM a n kid).length : Int) ≤ 1152921504606846976) (hM : PX B C w a n kid) :
 Calls Tryz.prog 47 #[.slice a n cap, .int .i64 k] w (MkX B C w (patM a n kid) k) := markPatS_x B C a cap n kid k w hk hk2 hM
theorem markTerms_x (B C : Nat) (a : Option Addr) (cap : Nat) (tb : List TB) (k : Int) (w : World) (hk : 0 ≤ k) (hk2 : k + ((termM a tb).length : Int) ≤ 1152921504606846976) (hM : TsX B C w a tb.length (tbN tb)) :
 Calls Tryz.prog 50 #[.slice a tb.length cap, .int .i64 k] w (MkX B C w (termM a tb) k) := markTermS_x B C a cap tb.length (tbN tb) k w hk hk2 hM
theorem heldTerms_x (B C : Nat) (a : Option Addr) (cap : Nat) (tb : List TB) (k : Int) (w : World) (hk : 0 ≤ k) (hk2 : k + ((termM a tb).length : Int) ≤ 1152921504606846976) (hM : TsX B C w a tb.length (tbN tb)) (hH : Hl w (termM a tb) k) :
 Calls Tryz.prog 57 #[.slice a tb.length cap, .int .i64 k] w (HdX w (termM a tb) k) := heldTermS_x B C a cap tb.length (tbN tb) k w hk hk2 hM hH
structure AM (B C : Nat) (w : World) (g o : Nat) (d : AN) : Prop where
 hB : B ≤ g
 hC : g < C
 n0 : WN w g (o)
 n2 : WN w g (o + 2)
 n3 : WN w g (o + 3)
 n5 : WN w g (o + 5)
 n7 : WN w g (o + 7)
 n8 : WN w g (o + 8)
 s4 : w.cell? ⟨g, o + 4, none⟩ = some (.slice d.e.d.v.a d.e.d.v.len d.e.d.v.cap)
 t4 : TxM B C w d.e.d.v.a d.e.d.v.len
 s6 : w.cell? ⟨g, o + 6, none⟩ = some (.slice d.e.d.t.t.a d.e.d.t.t.len d.e.d.t.t.cap)
 t6 : TxM B C w d.e.d.t.t.a d.e.d.t.t.len
 s10 : w.cell? ⟨g, o + 10, none⟩ = some (.slice d.v.a d.v.len d.v.cap)
 t10 : TxM B C w d.v.a d.v.len
 s1 : w.cell? ⟨g, o + 1, none⟩ = some (.slice d.pa d.pn d.pc)
 s9 : w.cell? ⟨g, o + 9, none⟩ = some (.slice d.e.d.ka d.e.d.n d.e.d.kc)
 s11 : w.cell? ⟨g, o + 11, none⟩ = some (.slice d.ta d.tb.length d.tc)
 s12 : w.cell? ⟨g, o + 12, none⟩ = some (.slice d.ka d.n d.kc)
 pe : PX B C w d.pa d.pn d.pat
 ke : KM B C w d.e
 te : TsX B C w d.ta d.tb.length (tbN d.tb)
theorem AM.kb {d : AN} (h : AM B C w g o d) (k : KB w w') : AM B C w' g o d :=
 ⟨h.hB, h.hC, h.n0.kb k, h.n2.kb k, h.n3.kb k, h.n5.kb k, h.n7.kb k, h.n8.kb k, k.s _ _ _ _ _ h.s4, h.t4.kb k, k.s _ _ _ _ _ h.s6, h.t6.kb k, k.s _ _ _ _ _ h.s10, h.t10.kb k, k.s _ _ _ _ _ h.s1, k.s _ _ _ _ _ h.s9, k.s _ _ _ _ _ h.s11, k.s _ _ _ _ _ h.s12, h.pe.kb k, h.ke.kb k, h.te.kb k⟩
def BM (B C : Nat) (w : World) : AT → Prop
 | .nil => True
 | .mk d kid => d.n = 0 ∨ ∃ g, d.ka = some ⟨g, 0, none⟩ ∧ ∀ i, i < d.n → AM B C w g (i * 13) (kid i).d ∧ BM B C w (kid i)
theorem BM.kb {e : AT} (h : BM B C w e) (k : KB w w') : BM B C w' e := by
 induction e with
 | nil => exact trivial
 | mk d kid ih =>
  rcases h with h | ⟨g, ha, hx⟩
  · exact .inl h
  exact .inr ⟨g, ha, fun i hi => ⟨(hx i hi).1.kb k, ih i (hx i hi).2⟩⟩
def AX (B C : Nat) (w : World) (a : Option Addr) (n : Nat) (kid : Nat → AT) : Prop := n = 0 ∨ ∃ g, a = some ⟨g, 0, none⟩ ∧ ∀ i, i < n → AM B C w g (i * 13) (kid i).d ∧ BM B C w (kid i)
def aF (g o : Nat) (d : AN) (M : List MC) : List MC := [(g, o, false)] ++ (patM d.pa d.pn d.pat ++ ([(g, o + 2, false)] ++ ([(g, o + 3, false)] ++ (txC d.e.d.v.a d.e.d.v.len ++ ([(g, o + 5, false)] ++ (txC d.e.d.t.t.a d.e.d.t.t.len ++ ([(g, o + 7, false)] ++ ([(g, o + 8, false)] ++ (d.e.ms ++ (txC d.v.a d.v.len ++ (termM d.ta d.tb ++ (M))))))))))))
def AT.ms : AT → List MC
 | .nil => []
 | .mk d kid => catM (fun i => aF (blk d.ka) (i * 13) (kid i).d (kid i).ms) d.n
theorem markAlgS_x (B C : Nat) (a : Option Addr) (cap n : Nat) (kid : Nat → AT) (k : Int) (w : World) (hk : 0 ≤ k) (hk2 : k + ((catM (fun i => aF (blk a) (i * 13) (kid i).d (kid i).ms) n).length : Int) ≤ 1152921504606846976) (hM : AX B C w a n kid)
 (IH : ∀ i, i < n → ∀ (W : World) (k : Int), 0 ≤ k → k + ((kid i).ms.length : Int) ≤ 1152921504606846976 → BM B C W (kid i) → Calls Tryz.prog 51 #[.slice (kid i).d.ka (kid i).d.n (kid i).d.kc, .int .i64 k] W (MkX B C W (kid i).ms k)) :
 Calls Tryz.prog 51 #[.slice a n cap, .int .i64 k] w (MkX B C w (catM (fun i => aF (blk a) (i * 13) (kid i).d (kid i).ms) n) k) := by
 by_cases h0 : n = 0
 · subst h0
   clear hM IH;go_in;go_wp2;refine wl1 ?_;go_wp2;go_ret;exact ⟨_, rfl, Mkd.refl _ _ _ _⟩
 rcases hM with h | ⟨g, rfl, hx⟩
 · exact absurd h h0
 change k + ((catM (fun i => aF (g) (i * 13) (kid i).d (kid i).ms) n).length : Int) ≤ 1152921504606846976 at hk2;obtain ⟨F, hF⟩ : ∃ F : Nat → List MC, F = (fun i => aF (g) (i * 13) (kid i).d (kid i).ms) := ⟨_, rfl⟩;have HF := iH hF;show Calls _ _ _ w (MkX B C w (catM (fun i => aF (g) (i * 13) (kid i).d (kid i).ms) n) k);rw [← hF] at hk2 ⊢;have HX := iH hx;have HQ := iH hk2;have HI := iH IH
 have HFL : ∀ j, (F j).length = 1 + (patM (kid j).d.pa (kid j).d.pn (kid j).d.pat).length + 1 + 1 + (kid j).d.e.d.v.len + 1 + (kid j).d.e.d.t.t.len + 1 + 1 + ((kid j).d.e.ms).length + (kid j).d.v.len + (termM (kid j).d.ta (kid j).d.tb).length + ((kid j).ms).length := fun j => by
  rw [hF];simp only [List.length_append, List.length_cons, List.length_nil, txC_len, Nat.zero_add, Nat.add_assoc, aF]
 have HFH := iH HFL;have hn : n ≤ 1152921504606846976 := by
  have h := catM_ge (f := F) (fun i => by rw [HFL]; omega) n;omega
 have HN : Hd (∀ j, j < n → (catM F j).length + (1 + (patM (kid j).d.pa (kid j).d.pn (kid j).d.pat).length + 1 + 1 + (kid j).d.e.d.v.len + 1 + (kid j).d.e.d.t.t.len + 1 + 1 + ((kid j).d.e.ms).length + (kid j).d.v.len + (termM (kid j).d.ta (kid j).d.tb).length + ((kid j).ms).length) ≤ (catM F n).length) := fun j hlt => by
  have h := catM_le (f := F) hlt;rw [HFL] at h;exact h
 clear HFL;clear hk2 IH hx hF h0;go_in;go_wp2_with fail
 go_loopw [1, 5] (fun a b wr => ∃ (j : Nat) (m : Int), j ≤ n ∧ b = .int .i64 j ∧ a = .int .i64 m ∧ 0 ≤ m ∧ m ≤ 1152921504606846976 ∧ Hd (Mkd B C w wr (catM F j) k m))
  (fun _ b _ => n - (intOf b).toNat)
 case atStart => exact ⟨0, k, nZ, rfl, rfl, hk, by have h := HQ.o; omega, Mkd.refl _ _ _ _⟩
 obtain ⟨j, m, hj, rfl, rfl, hm0, hm1, M0⟩ := hrel;by_cases hlt : j < n
 · have HJ := iH (HN.o j hlt)
   obtain ⟨l1, HL1⟩ : ∃ l, Hd (l = (patM (kid j).d.pa (kid j).d.pn (kid j).d.pat).length) := ⟨_, rfl⟩;rw [← HL1.o] at HJ;obtain ⟨l4, HL4⟩ : ∃ l, Hd (l = (kid j).d.e.d.v.len) := ⟨_, rfl⟩;rw [← HL4.o] at HJ;obtain ⟨l6, HL6⟩ : ∃ l, Hd (l = (kid j).d.e.d.t.t.len) := ⟨_, rfl⟩;rw [← HL6.o] at HJ;obtain ⟨l9, HL9⟩ : ∃ l, Hd (l = ((kid j).d.e.ms).length) := ⟨_, rfl⟩;rw [← HL9.o] at HJ;obtain ⟨l10, HL10⟩ : ∃ l, Hd (l = (kid j).d.v.len) := ⟨_, rfl⟩;rw [← HL10.o] at HJ;obtain ⟨l11, HL11⟩ : ∃ l, Hd (l = (termM (kid j).d.ta (kid j).d.tb).length) := ⟨_, rfl⟩;rw [← HL11.o] at HJ;obtain ⟨l12, HL12⟩ : ∃ l, Hd (l = ((kid j).ms).length) := ⟨_, rfl⟩;rw [← HL12.o] at HJ;have HE := iH (HX.o j hlt);have HM := iH M0.o.q;have G := iH (show m = m from rfl);have hW := HE.o.1.kb M0.o.kb;obtain ⟨⟨y0, c0⟩, f0⟩ := hW.n0;have s1 := hW.s1;clear hW;have MA := fun (x0 : Int) (h0 : x0 = m) => iH (M0.o.num HE.o.1.n0.1 HE.o.1.hB HE.o.1.hC h0);have ub : m + 1 ≤ 1152921504606846976 := by have z := G.o; have z1 := HJ.o; have z2 := HQ.o; have z3 := HM.o; omega
   go_wp2_with fail
   refine (markPats_x B C (kid j).d.pa (kid j).d.pc (kid j).d.pn (kid j).d.pat _ _ (by omega) (by have zl := HL1.o; have z := G.o; have z1 := HJ.o; have z2 := HQ.o; have z3 := HM.o; omega) (HE.o.1.pe.kb (MA _ (by omega)).o.kb)).mono ?_;rintro e w1 ⟨q1, rfl, hm'⟩;obtain ⟨A1, HA1, M1⟩ : ∃ A, Hd (A = catM F j ++ [(g, j * 13, false)] ++ (patM (kid j).d.pa (kid j).d.pn (kid j).d.pat)) ∧ Hd (Mkd B C w w1 A k q1) := ⟨_, rfl, (MA _ (by omega)).o.app hm' (by omega)⟩;have G' : Hd (q1 = m + ((1 + l1 : Nat) : Int)) := (show _ = _ by have z := G.o; have z1 := hm'.q; rw [← HL1.o] at z1; omega);clear G;have G := G';clear G';clear hm' MA ub c0 f0 s1 M0;obtain ⟨p1, u1⟩ : 0 ≤ q1 ∧ q1 ≤ 1152921504606846976 := by have z := G.o; have z1 := HJ.o; have z2 := HQ.o; have z3 := HM.o; omega
   have hW := HE.o.1.kb M1.o.kb;obtain ⟨⟨y2, c2⟩, f2⟩ := hW.n2;obtain ⟨⟨y3, c3⟩, f3⟩ := hW.n3;have s4 := hW.s4;clear hW;have MA := fun (x0 : Int) (x1 : Int) (h0 : x0 = q1) (h1 : x1 = q1 + 1) => iH ((M1.o.num HE.o.1.n2.1 HE.o.1.hB HE.o.1.hC h0).num HE.o.1.n3.1 HE.o.1.hB HE.o.1.hC h1);have ub : q1 + 2 ≤ 1152921504606846976 := by have z := G.o; have z1 := HJ.o; have z2 := HQ.o; have z3 := HM.o; omega
   go_wp2_with fail
   refine (markText_x B C (kid j).d.e.d.v.a (kid j).d.e.d.v.len (kid j).d.e.d.v.cap _ _ (HE.o.1.t4.kb (MA _ _ (by omega) (by omega)).o.kb) (by omega) (by omega)).mono ?_;rintro e w2 ⟨q2, rfl, hm'⟩;obtain ⟨A2, HA2, M2⟩ : ∃ A, Hd (A = A1 ++ [(g, j * 13 + 2, false)] ++ [(g, j * 13 + 3, false)] ++ txC (kid j).d.e.d.v.a (kid j).d.e.d.v.len) ∧ Hd (Mkd B C w w2 A k q2) := ⟨_, rfl, (MA _ _ (by omega) (by omega)).o.app hm' (by omega)⟩;have G' : Hd (q2 = m + ((1 + l1 + 1 + 1 + l4 : Nat) : Int)) := (show _ = _ by have z := G.o; have z1 := hm'.q; rw [txC_len, ← HL4.o] at z1; omega);clear G;have G := G';clear G';clear hm' MA ub c2 f2 c3 f3 s4 M1 p1 u1;obtain ⟨p2, u2⟩ : 0 ≤ q2 ∧ q2 ≤ 1152921504606846976 := by have z := G.o; have z1 := HJ.o; have z2 := HQ.o; have z3 := HM.o; omega
   have hW := HE.o.1.kb M2.o.kb;obtain ⟨⟨y5, c5⟩, f5⟩ := hW.n5;have s6 := hW.s6;clear hW;have MA := fun (x0 : Int) (h0 : x0 = q2) => iH (M2.o.num HE.o.1.n5.1 HE.o.1.hB HE.o.1.hC h0);have ub : q2 + 1 ≤ 1152921504606846976 := by have z := G.o; have z1 := HJ.o; have z2 := HQ.o; have z3 := HM.o; omega
   go_wp2_with fail
   refine (markText_x B C (kid j).d.e.d.t.t.a (kid j).d.e.d.t.t.len (kid j).d.e.d.t.t.cap _ _ (HE.o.1.t6.kb (MA _ (by omega)).o.kb) (by omega) (by omega)).mono ?_;rintro e w3 ⟨q3, rfl, hm'⟩;obtain ⟨A3, HA3, M3⟩ : ∃ A, Hd (A = A2 ++ [(g, j * 13 + 5, false)] ++ txC (kid j).d.e.d.t.t.a (kid j).d.e.d.t.t.len) ∧ Hd (Mkd B C w w3 A k q3) := ⟨_, rfl, (MA _ (by omega)).o.app hm' (by omega)⟩;have G' : Hd (q3 = m + ((1 + l1 + 1 + 1 + l4 + 1 + l6 : Nat) : Int)) := (show _ = _ by have z := G.o; have z1 := hm'.q; rw [txC_len, ← HL6.o] at z1; omega);clear G;have G := G';clear G';clear hm' MA ub c5 f5 s6 M2 p2 u2;obtain ⟨p3, u3⟩ : 0 ≤ q3 ∧ q3 ≤ 1152921504606846976 := by have z := G.o; have z1 := HJ.o; have z2 := HQ.o; have z3 := HM.o; omega
   have hW := HE.o.1.kb M3.o.kb;obtain ⟨⟨y7, c7⟩, f7⟩ := hW.n7;obtain ⟨⟨y8, c8⟩, f8⟩ := hW.n8;have s9 := hW.s9;clear hW;have MA := fun (x0 : Int) (x1 : Int) (h0 : x0 = q3) (h1 : x1 = q3 + 1) => iH ((M3.o.num HE.o.1.n7.1 HE.o.1.hB HE.o.1.hC h0).num HE.o.1.n8.1 HE.o.1.hB HE.o.1.hC h1);have ub : q3 + 2 ≤ 1152921504606846976 := by have z := G.o; have z1 := HJ.o; have z2 := HQ.o; have z3 := HM.o; omega
   go_wp2_with fail
   refine (markKids_x B C (kid j).d.e _ _ (by omega) (by have zl := HL9.o; have z := G.o; have z1 := HJ.o; have z2 := HQ.o; have z3 := HM.o; omega) (HE.o.1.ke.kb (MA _ _ (by omega) (by omega)).o.kb)).mono ?_;rintro e w4 ⟨q4, rfl, hm'⟩;obtain ⟨A4, HA4, M4⟩ : ∃ A, Hd (A = A3 ++ [(g, j * 13 + 7, false)] ++ [(g, j * 13 + 8, false)] ++ (kid j).d.e.ms) ∧ Hd (Mkd B C w w4 A k q4) := ⟨_, rfl, (MA _ _ (by omega) (by omega)).o.app hm' (by omega)⟩;have G' : Hd (q4 = m + ((1 + l1 + 1 + 1 + l4 + 1 + l6 + 1 + 1 + l9 : Nat) : Int)) := (show _ = _ by have z := G.o; have z1 := hm'.q; rw [← HL9.o] at z1; omega);clear G;have G := G';clear G';clear hm' MA ub c7 f7 c8 f8 s9 M3 p3 u3;obtain ⟨p4, u4⟩ : 0 ≤ q4 ∧ q4 ≤ 1152921504606846976 := by have z := G.o; have z1 := HJ.o; have z2 := HQ.o; have z3 := HM.o; omega
   have hW := HE.o.1.kb M4.o.kb;have s10 := hW.s10;clear hW;go_wp2_with fail
   refine (markText_x B C (kid j).d.v.a (kid j).d.v.len (kid j).d.v.cap _ _ (HE.o.1.t10.kb M4.o.kb) (by omega) (by omega)).mono ?_;rintro e w5 ⟨q5, rfl, hm'⟩;obtain ⟨A5, HA5, M5⟩ : ∃ A, Hd (A = A4 ++ txC (kid j).d.v.a (kid j).d.v.len) ∧ Hd (Mkd B C w w5 A k q5) := ⟨_, rfl, M4.o.app hm' (by omega)⟩;have G' : Hd (q5 = m + ((1 + l1 + 1 + 1 + l4 + 1 + l6 + 1 + 1 + l9 + l10 : Nat) : Int)) := (show _ = _ by have z := G.o; have z1 := hm'.q; rw [txC_len, ← HL10.o] at z1; omega);clear G;have G := G';clear G';clear hm' s10 M4 p4 u4;obtain ⟨p5, u5⟩ : 0 ≤ q5 ∧ q5 ≤ 1152921504606846976 := by have z := G.o; have z1 := HJ.o; have z2 := HQ.o; have z3 := HM.o; omega
   have hW := HE.o.1.kb M5.o.kb;have s11 := hW.s11;clear hW;go_wp2_with fail
   refine (markTerms_x B C (kid j).d.ta (kid j).d.tc (kid j).d.tb _ _ (by omega) (by have zl := HL11.o; have z := G.o; have z1 := HJ.o; have z2 := HQ.o; have z3 := HM.o; omega) (HE.o.1.te.kb M5.o.kb)).mono ?_;rintro e w6 ⟨q6, rfl, hm'⟩;obtain ⟨A6, HA6, M6⟩ : ∃ A, Hd (A = A5 ++ (termM (kid j).d.ta (kid j).d.tb)) ∧ Hd (Mkd B C w w6 A k q6) := ⟨_, rfl, M5.o.app hm' (by omega)⟩;have G' : Hd (q6 = m + ((1 + l1 + 1 + 1 + l4 + 1 + l6 + 1 + 1 + l9 + l10 + l11 : Nat) : Int)) := (show _ = _ by have z := G.o; have z1 := hm'.q; rw [← HL11.o] at z1; omega);clear G;have G := G';clear G';clear hm' s11 M5 p5 u5;obtain ⟨p6, u6⟩ : 0 ≤ q6 ∧ q6 ≤ 1152921504606846976 := by have z := G.o; have z1 := HJ.o; have z2 := HQ.o; have z3 := HM.o; omega
   have hW := HE.o.1.kb M6.o.kb;have s12 := hW.s12;clear hW;go_wp2_with fail
   refine (HI.o j hlt _ _ (by omega) (by have zl := HL12.o; have z := G.o; have z1 := HJ.o; have z2 := HQ.o; have z3 := HM.o; omega) (HE.o.2.kb M6.o.kb)).mono ?_;rintro e w7 ⟨q7, rfl, hm'⟩;obtain ⟨A7, HA7, M7⟩ : ∃ A, Hd (A = A6 ++ (kid j).ms) ∧ Hd (Mkd B C w w7 A k q7) := ⟨_, rfl, M6.o.app hm' (by omega)⟩;have G' : Hd (q7 = m + ((1 + l1 + 1 + 1 + l4 + 1 + l6 + 1 + 1 + l9 + l10 + l11 + l12 : Nat) : Int)) := (show _ = _ by have z := G.o; have z1 := hm'.q; rw [← HL12.o] at z1; omega);clear G;have G := G';clear G';clear hm' s12 M6 p6 u6;obtain ⟨p7, u7⟩ : 0 ≤ q7 ∧ q7 ≤ 1152921504606846976 := by have z := G.o; have z1 := HJ.o; have z2 := HQ.o; have z3 := HM.o; omega
   have MB := iH (M7.o.cast (A' := catM F j ++ F j) (by rw [show F j = _ from congrFun HF.o j, HA7.o, HA6.o, HA5.o, HA4.o, HA3.o, HA2.o, HA1.o]; simp only [List.append_assoc]; first | done | rfl));go_wp2;go_roundw
   case rel =>
    refine ⟨j + 1, _, by omega, by go_num, rfl, by omega, by omega, ?_⟩
    show Mkd B C w _ (catM F j ++ F j) k _;exact MB.o.idx (by omega)
   case measure => simp [intOf]; omega
 obtain rfl : j = n := by omega
 go_wp2;go_ret;exact ⟨m, rfl, M0.o⟩
theorem markAlgS_t (B C : Nat) (e : AT) : ∀ (w : World) (k : Int), 0 ≤ k → k + (e.ms.length : Int) ≤ 1152921504606846976 → BM B C w e →
 Calls Tryz.prog 51 #[.slice e.d.ka e.d.n e.d.kc, .int .i64 k] w (MkX B C w e.ms k) := by
 induction e with
 | nil => exact fun w k hk hk2 _ => markAlgS_x B C _ _ 0 (fun _ => .nil) k w hk hk2 (.inl rfl) (fun i hi => absurd hi nN)
 | mk d kid ih => exact fun w k hk hk2 hM => markAlgS_x B C d.ka d.kc d.n kid k w hk hk2 hM fun i hi W k' h1 h2 h3 => ih i W k' h1 h2 h3
structure LM2 (B C : Nat) (w : World) (g o : Nat) (d : PN) : Prop where
 hB : B ≤ g
 hC : g < C
 n0 : WN w g (o)
 n1 : WN w g (o + 1)
 n3 : WN w g (o + 3)
 n5 : WN w g (o + 5)
 n6 : WN w g (o + 6)
 n8 : WN w g (o + 8)
 n10 : WN w g (o + 10)
 n11 : WN w g (o + 11)
 n13 : WN w g (o + 13)
 n15 : WN w g (o + 15)
 n16 : WN w g (o + 16)
 n17 : WN w g (o + 17)
 n18 : WN w g (o + 18)
 n20 : WN w g (o + 20)
 n22 : WN w g (o + 22)
 n23 : WN w g (o + 23)
 s2 : w.cell? ⟨g, o + 2, none⟩ = some (.slice d.p.s.v.a d.p.s.v.len d.p.s.v.cap)
 t2 : TxM B C w d.p.s.v.a d.p.s.v.len
 s4 : w.cell? ⟨g, o + 4, none⟩ = some (.slice d.p.s.t.t.a d.p.s.t.t.len d.p.s.t.t.cap)
 t4 : TxM B C w d.p.s.t.t.a d.p.s.t.t.len
 s7 : w.cell? ⟨g, o + 7, none⟩ = some (.slice d.p.p.v.a d.p.p.v.len d.p.p.v.cap)
 t7 : TxM B C w d.p.p.v.a d.p.p.v.len
 s9 : w.cell? ⟨g, o + 9, none⟩ = some (.slice d.p.p.t.t.a d.p.p.t.t.len d.p.p.t.t.cap)
 t9 : TxM B C w d.p.p.t.t.a d.p.p.t.t.len
 s12 : w.cell? ⟨g, o + 12, none⟩ = some (.slice d.p.o.v.a d.p.o.v.len d.p.o.v.cap)
 t12 : TxM B C w d.p.o.v.a d.p.o.v.len
 s14 : w.cell? ⟨g, o + 14, none⟩ = some (.slice d.p.o.t.t.a d.p.o.t.t.len d.p.o.t.t.cap)
 t14 : TxM B C w d.p.o.t.t.a d.p.o.t.t.len
 s19 : w.cell? ⟨g, o + 19, none⟩ = some (.slice d.e.d.v.a d.e.d.v.len d.e.d.v.cap)
 t19 : TxM B C w d.e.d.v.a d.e.d.v.len
 s21 : w.cell? ⟨g, o + 21, none⟩ = some (.slice d.e.d.t.t.a d.e.d.t.t.len d.e.d.t.t.cap)
 t21 : TxM B C w d.e.d.t.t.a d.e.d.t.t.len
 s25 : w.cell? ⟨g, o + 25, none⟩ = some (.slice d.v.a d.v.len d.v.cap)
 t25 : TxM B C w d.v.a d.v.len
 s24 : w.cell? ⟨g, o + 24, none⟩ = some (.slice d.e.d.ka d.e.d.n d.e.d.kc)
 s26 : w.cell? ⟨g, o + 26, none⟩ = some (.slice d.ta d.tb.length d.tc)
 s27 : w.cell? ⟨g, o + 27, none⟩ = some (.slice d.ka d.n d.kc)
 ke : KM B C w d.e
 te : TsX B C w d.ta d.tb.length (tbN d.tb)
theorem LM2.kb {d : PN} (h : LM2 B C w g o d) (k : KB w w') : LM2 B C w' g o d :=
 ⟨h.hB, h.hC, h.n0.kb k, h.n1.kb k, h.n3.kb k, h.n5.kb k, h.n6.kb k, h.n8.kb k, h.n10.kb k, h.n11.kb k, h.n13.kb k, h.n15.kb k, h.n16.kb k, h.n17.kb k, h.n18.kb k, h.n20.kb k, h.n22.kb k, h.n23.kb k, k.s _ _ _ _ _ h.s2, h.t2.kb k, k.s _ _ _ _ _ h.s4, h.t4.kb k, k.s _ _ _ _ _ h.s7, h.t7.kb k, k.s _ _ _ _ _ h.s9, h.t9.kb k, k.s _ _ _ _ _ h.s12, h.t12.kb k, k.s _ _ _ _ _ h.s14, h.t14.kb k, k.s _ _ _ _ _ h.s19, h.t19.kb k, k.s _ _ _ _ _ h.s21, h.t21.kb k, k.s _ _ _ _ _ h.s25, h.t25.kb k, k.s _ _ _ _ _ h.s24, k.s _ _ _ _ _ h.s26, k.s _ _ _ _ _ h.s27, h.ke.kb k, h.te.kb k⟩
def QM2 (B C : Nat) (w : World) : PT → Prop
 | .nil => True
 | .mk d kid => d.n = 0 ∨ ∃ g, d.ka = some ⟨g, 0, none⟩ ∧ ∀ i, i < d.n → LM2 B C w g (i * 28) (kid i).d ∧ QM2 B C w (kid i)
theorem QM2.kb {e : PT} (h : QM2 B C w e) (k : KB w w') : QM2 B C w' e := by
 induction e with
 | nil => exact trivial
 | mk d kid ih =>
  rcases h with h | ⟨g, ha, hx⟩
  · exact .inl h
  exact .inr ⟨g, ha, fun i hi => ⟨(hx i hi).1.kb k, ih i (hx i hi).2⟩⟩
def LX2 (B C : Nat) (w : World) (a : Option Addr) (n : Nat) (kid : Nat → PT) : Prop := n = 0 ∨ ∃ g, a = some ⟨g, 0, none⟩ ∧ ∀ i, i < n → LM2 B C w g (i * 28) (kid i).d ∧ QM2 B C w (kid i)
def lF (g o : Nat) (d : PN) (M : List MC) : List MC := [(g, o, false)] ++ ([(g, o + 1, false)] ++ (txC d.p.s.v.a d.p.s.v.len ++ ([(g, o + 3, false)] ++ (txC d.p.s.t.t.a d.p.s.t.t.len ++ ([(g, o + 5, false)] ++ ([(g, o + 6, false)] ++ (txC d.p.p.v.a d.p.p.v.len ++ ([(g, o + 8, false)] ++ (txC d.p.p.t.t.a d.p.p.t.t.len ++ ([(g, o + 10, false)] ++ ([(g, o + 11, false)] ++ (txC d.p.o.v.a d.p.o.v.len ++ ([(g, o + 13, false)] ++ (txC d.p.o.t.t.a d.p.o.t.t.len ++ ([(g, o + 15, false)] ++ ([(g, o + 16, false)] ++ ([(g, o + 17, false)] ++ ([(g, o + 18, false)] ++ (txC d.e.d.v.a d.e.d.v.len ++ ([(g, o + 20, false)] ++ (txC d.e.d.t.t.a d.e.d.t.t.len ++ ([(g, o + 22, false)] ++ ([(g, o + 23, false)] ++ (d.e.ms ++ (txC d.v.a d.v.len ++ (termM d.ta d.tb ++ (M)))))))))))))))))))))))))))
def PT.ms : PT → List MC
 | .nil => []
 | .mk d kid => catM (fun i => lF (blk d.ka) (i * 28) (kid i).d (kid i).ms) d.n
theorem markPlanS_x (B C : Nat) (a : Option Addr) (cap n : Nat) (kid : Nat → PT) (k : Int) (w : World) (hk : 0 ≤ k) (hk2 : k + ((catM (fun i => lF (blk a) (i * 28) (kid i).d (kid i).ms) n).length : Int) ≤ 1152921504606846976) (hM : LX2 B C w a n kid)
 (IH : ∀ i, i < n → ∀ (W : World) (k : Int), 0 ≤ k → k + ((kid i).ms.length : Int) ≤ 1152921504606846976 → QM2 B C W (kid i) → Calls Tryz.prog 53 #[.slice (kid i).d.ka (kid i).d.n (kid i).d.kc, .int .i64 k] W (MkX B C W (kid i).ms k)) :
 Calls Tryz.prog 53 #[.slice a n cap, .int .i64 k] w (MkX B C w (catM (fun i => lF (blk a) (i * 28) (kid i).d (kid i).ms) n) k) := by
 by_cases h0 : n = 0
 · subst h0
   clear hM IH;go_in;go_wp2;refine wl1 ?_;go_wp2;go_ret;exact ⟨_, rfl, Mkd.refl _ _ _ _⟩
 rcases hM with h | ⟨g, rfl, hx⟩
 · exact absurd h h0
 change k + ((catM (fun i => lF (g) (i * 28) (kid i).d (kid i).ms) n).length : Int) ≤ 1152921504606846976 at hk2;obtain ⟨F, hF⟩ : ∃ F : Nat → List MC, F = (fun i => lF (g) (i * 28) (kid i).d (kid i).ms) := ⟨_, rfl⟩;have HF := iH hF;show Calls _ _ _ w (MkX B C w (catM (fun i => lF (g) (i * 28) (kid i).d (kid i).ms) n) k);rw [← hF] at hk2 ⊢;have HX := iH hx;have HQ := iH hk2;have HI := iH IH
 have HFL : ∀ j, (F j).length = 1 + 1 + (kid j).d.p.s.v.len + 1 + (kid j).d.p.s.t.t.len + 1 + 1 + (kid j).d.p.p.v.len + 1 + (kid j).d.p.p.t.t.len + 1 + 1 + (kid j).d.p.o.v.len + 1 + (kid j).d.p.o.t.t.len + 1 + 1 + 1 + 1 + (kid j).d.e.d.v.len + 1 + (kid j).d.e.d.t.t.len + 1 + 1 + ((kid j).d.e.ms).length + (kid j).d.v.len + (termM (kid j).d.ta (kid j).d.tb).length + ((kid j).ms).length := fun j => by
  rw [hF];simp only [List.length_append, List.length_cons, List.length_nil, txC_len, Nat.zero_add, Nat.add_assoc, lF]
 have HFH := iH HFL;have hn : n ≤ 1152921504606846976 := by
  have h := catM_ge (f := F) (fun i => by rw [HFL]; omega) n;omega
 have HN : Hd (∀ j, j < n → (catM F j).length + (1 + 1 + (kid j).d.p.s.v.len + 1 + (kid j).d.p.s.t.t.len + 1 + 1 + (kid j).d.p.p.v.len + 1 + (kid j).d.p.p.t.t.len + 1 + 1 + (kid j).d.p.o.v.len + 1 + (kid j).d.p.o.t.t.len + 1 + 1 + 1 + 1 + (kid j).d.e.d.v.len + 1 + (kid j).d.e.d.t.t.len + 1 + 1 + ((kid j).d.e.ms).length + (kid j).d.v.len + (termM (kid j).d.ta (kid j).d.tb).length + ((kid j).ms).length) ≤ (catM F n).length) := fun j hlt => by
  have h := catM_le (f := F) hlt;rw [HFL] at h;exact h
 clear HFL;clear hk2 IH hx hF h0;go_in;go_wp2_with fail
 go_loopw [1, 5] (fun a b wr => ∃ (j : Nat) (m : Int), j ≤ n ∧ b = .int .i64 j ∧ a = .int .i64 m ∧ 0 ≤ m ∧ m ≤ 1152921504606846976 ∧ Hd (Mkd B C w wr (catM F j) k m))
  (fun _ b _ => n - (intOf b).toNat)
 case atStart => exact ⟨0, k, nZ, rfl, rfl, hk, by have h := HQ.o; omega, Mkd.refl _ _ _ _⟩
 obtain ⟨j, m, hj, rfl, rfl, hm0, hm1, M0⟩ := hrel;by_cases hlt : j < n
 · have HJ := iH (HN.o j hlt)
   obtain ⟨l2, HL2⟩ : ∃ l, Hd (l = (kid j).d.p.s.v.len) := ⟨_, rfl⟩;rw [← HL2.o] at HJ;obtain ⟨l4, HL4⟩ : ∃ l, Hd (l = (kid j).d.p.s.t.t.len) := ⟨_, rfl⟩;rw [← HL4.o] at HJ;obtain ⟨l7, HL7⟩ : ∃ l, Hd (l = (kid j).d.p.p.v.len) := ⟨_, rfl⟩;rw [← HL7.o] at HJ;obtain ⟨l9, HL9⟩ : ∃ l, Hd (l = (kid j).d.p.p.t.t.len) := ⟨_, rfl⟩;rw [← HL9.o] at HJ;obtain ⟨l12, HL12⟩ : ∃ l, Hd (l = (kid j).d.p.o.v.len) := ⟨_, rfl⟩;rw [← HL12.o] at HJ;obtain ⟨l14, HL14⟩ : ∃ l, Hd (l = (kid j).d.p.o.t.t.len) := ⟨_, rfl⟩;rw [← HL14.o] at HJ;obtain ⟨l19, HL19⟩ : ∃ l, Hd (l = (kid j).d.e.d.v.len) := ⟨_, rfl⟩;rw [← HL19.o] at HJ;obtain ⟨l21, HL21⟩ : ∃ l, Hd (l = (kid j).d.e.d.t.t.len) := ⟨_, rfl⟩;rw [← HL21.o] at HJ;obtain ⟨l24, HL24⟩ : ∃ l, Hd (l = ((kid j).d.e.ms).length) := ⟨_, rfl⟩;rw [← HL24.o] at HJ;obtain ⟨l25, HL25⟩ : ∃ l, Hd (l = (kid j).d.v.len) := ⟨_, rfl⟩;rw [← HL25.o] at HJ;obtain ⟨l26, HL26⟩ : ∃ l, Hd (l = (termM (kid j).d.ta (kid j).d.tb).length) := ⟨_, rfl⟩;rw [← HL26.o] at HJ;obtain ⟨l27, HL27⟩ : ∃ l, Hd (l = ((kid j).ms).length) := ⟨_, rfl⟩;rw [← HL27.o] at HJ;have HE := iH (HX.o j hlt);have HM := iH M0.o.q;have G := iH (show m = m from rfl);have hW := HE.o.1.kb M0.o.kb;obtain ⟨⟨y0, c0⟩, f0⟩ := hW.n0;obtain ⟨⟨y1, c1⟩, f1⟩ := hW.n1;have s2 := hW.s2;clear hW;have MA := fun (x0 : Int) (x1 : Int) (h0 : x0 = m) (h1 : x1 = m + 1) => iH ((M0.o.num HE.o.1.n0.1 HE.o.1.hB HE.o.1.hC h0).num HE.o.1.n1.1 HE.o.1.hB HE.o.1.hC h1);have ub : m + 2 ≤ 1152921504606846976 := by have z := G.o; have z1 := HJ.o; have z2 := HQ.o; have z3 := HM.o; omega
   go_wp2_with fail
   refine (markText_x B C (kid j).d.p.s.v.a (kid j).d.p.s.v.len (kid j).d.p.s.v.cap _ _ (HE.o.1.t2.kb (MA _ _ (by omega) (by omega)).o.kb) (by omega) (by omega)).mono ?_;rintro e w1 ⟨q1, rfl, hm'⟩;obtain ⟨A1, HA1, M1⟩ : ∃ A, Hd (A = catM F j ++ [(g, j * 28, false)] ++ [(g, j * 28 + 1, false)] ++ txC (kid j).d.p.s.v.a (kid j).d.p.s.v.len) ∧ Hd (Mkd B C w w1 A k q1) := ⟨_, rfl, (MA _ _ (by omega) (by omega)).o.app hm' (by omega)⟩;have G' : Hd (q1 = m + ((1 + 1 + l2 : Nat) : Int)) := (show _ = _ by have z := G.o; have z1 := hm'.q; rw [txC_len, ← HL2.o] at z1; omega);clear G;have G := G';clear G';clear hm' MA ub c0 f0 c1 f1 s2 M0;obtain ⟨p1, u1⟩ : 0 ≤ q1 ∧ q1 ≤ 1152921504606846976 := by have z := G.o; have z1 := HJ.o; have z2 := HQ.o; have z3 := HM.o; omega
   have hW := HE.o.1.kb M1.o.kb;obtain ⟨⟨y3, c3⟩, f3⟩ := hW.n3;have s4 := hW.s4;clear hW;have MA := fun (x0 : Int) (h0 : x0 = q1) => iH (M1.o.num HE.o.1.n3.1 HE.o.1.hB HE.o.1.hC h0);have ub : q1 + 1 ≤ 1152921504606846976 := by have z := G.o; have z1 := HJ.o; have z2 := HQ.o; have z3 := HM.o; omega
   go_wp2_with fail
   refine (markText_x B C (kid j).d.p.s.t.t.a (kid j).d.p.s.t.t.len (kid j).d.p.s.t.t.cap _ _ (HE.o.1.t4.kb (MA _ (by omega)).o.kb) (by omega) (by omega)).mono ?_;rintro e w2 ⟨q2, rfl, hm'⟩;obtain ⟨A2, HA2, M2⟩ : ∃ A, Hd (A = A1 ++ [(g, j * 28 + 3, false)] ++ txC (kid j).d.p.s.t.t.a (kid j).d.p.s.t.t.len) ∧ Hd (Mkd B C w w2 A k q2) := ⟨_, rfl, (MA _ (by omega)).o.app hm' (by omega)⟩;have G' : Hd (q2 = m + ((1 + 1 + l2 + 1 + l4 : Nat) : Int)) := (show _ = _ by have z := G.o; have z1 := hm'.q; rw [txC_len, ← HL4.o] at z1; omega);clear G;have G := G';clear G';clear hm' MA ub c3 f3 s4 M1 p1 u1;obtain ⟨p2, u2⟩ : 0 ≤ q2 ∧ q2 ≤ 1152921504606846976 := by have z := G.o; have z1 := HJ.o; have z2 := HQ.o; have z3 := HM.o; omega
   have hW := HE.o.1.kb M2.o.kb;obtain ⟨⟨y5, c5⟩, f5⟩ := hW.n5;obtain ⟨⟨y6, c6⟩, f6⟩ := hW.n6;have s7 := hW.s7;clear hW;have MA := fun (x0 : Int) (x1 : Int) (h0 : x0 = q2) (h1 : x1 = q2 + 1) => iH ((M2.o.num HE.o.1.n5.1 HE.o.1.hB HE.o.1.hC h0).num HE.o.1.n6.1 HE.o.1.hB HE.o.1.hC h1);have ub : q2 + 2 ≤ 1152921504606846976 := by have z := G.o; have z1 := HJ.o; have z2 := HQ.o; have z3 := HM.o; omega
   go_wp2_with fail
   refine (markText_x B C (kid j).d.p.p.v.a (kid j).d.p.p.v.len (kid j).d.p.p.v.cap _ _ (HE.o.1.t7.kb (MA _ _ (by omega) (by omega)).o.kb) (by omega) (by omega)).mono ?_;rintro e w3 ⟨q3, rfl, hm'⟩;obtain ⟨A3, HA3, M3⟩ : ∃ A, Hd (A = A2 ++ [(g, j * 28 + 5, false)] ++ [(g, j * 28 + 6, false)] ++ txC (kid j).d.p.p.v.a (kid j).d.p.p.v.len) ∧ Hd (Mkd B C w w3 A k q3) := ⟨_, rfl, (MA _ _ (by omega) (by omega)).o.app hm' (by omega)⟩;have G' : Hd (q3 = m + ((1 + 1 + l2 + 1 + l4 + 1 + 1 + l7 : Nat) : Int)) := (show _ = _ by have z := G.o; have z1 := hm'.q; rw [txC_len, ← HL7.o] at z1; omega);clear G;have G := G';clear G';clear hm' MA ub c5 f5 c6 f6 s7 M2 p2 u2;obtain ⟨p3, u3⟩ : 0 ≤ q3 ∧ q3 ≤ 1152921504606846976 := by have z := G.o; have z1 := HJ.o; have z2 := HQ.o; have z3 := HM.o; omega
   have hW := HE.o.1.kb M3.o.kb;obtain ⟨⟨y8, c8⟩, f8⟩ := hW.n8;have s9 := hW.s9;clear hW;have MA := fun (x0 : Int) (h0 : x0 = q3) => iH (M3.o.num HE.o.1.n8.1 HE.o.1.hB HE.o.1.hC h0);have ub : q3 + 1 ≤ 1152921504606846976 := by have z := G.o; have z1 := HJ.o; have z2 := HQ.o; have z3 := HM.o; omega
   go_wp2_with fail
   refine (markText_x B C (kid j).d.p.p.t.t.a (kid j).d.p.p.t.t.len (kid j).d.p.p.t.t.cap _ _ (HE.o.1.t9.kb (MA _ (by omega)).o.kb) (by omega) (by omega)).mono ?_;rintro e w4 ⟨q4, rfl, hm'⟩;obtain ⟨A4, HA4, M4⟩ : ∃ A, Hd (A = A3 ++ [(g, j * 28 + 8, false)] ++ txC (kid j).d.p.p.t.t.a (kid j).d.p.p.t.t.len) ∧ Hd (Mkd B C w w4 A k q4) := ⟨_, rfl, (MA _ (by omega)).o.app hm' (by omega)⟩;have G' : Hd (q4 = m + ((1 + 1 + l2 + 1 + l4 + 1 + 1 + l7 + 1 + l9 : Nat) : Int)) := (show _ = _ by have z := G.o; have z1 := hm'.q; rw [txC_len, ← HL9.o] at z1; omega);clear G;have G := G';clear G';clear hm' MA ub c8 f8 s9 M3 p3 u3;obtain ⟨p4, u4⟩ : 0 ≤ q4 ∧ q4 ≤ 1152921504606846976 := by have z := G.o; have z1 := HJ.o; have z2 := HQ.o; have z3 := HM.o; omega
   have hW := HE.o.1.kb M4.o.kb;obtain ⟨⟨y10, c10⟩, f10⟩ := hW.n10;obtain ⟨⟨y11, c11⟩, f11⟩ := hW.n11;have s12 := hW.s12;clear hW;have MA := fun (x0 : Int) (x1 : Int) (h0 : x0 = q4) (h1 : x1 = q4 + 1) => iH ((M4.o.num HE.o.1.n10.1 HE.o.1.hB HE.o.1.hC h0).num HE.o.1.n11.1 HE.o.1.hB HE.o.1.hC h1);have ub : q4 + 2 ≤ 1152921504606846976 := by have z := G.o; have z1 := HJ.o; have z2 := HQ.o; have z3 := HM.o; omega
   go_wp2_with fail
   refine (markText_x B C (kid j).d.p.o.v.a (kid j).d.p.o.v.len (kid j).d.p.o.v.cap _ _ (HE.o.1.t12.kb (MA _ _ (by omega) (by omega)).o.kb) (by omega) (by omega)).mono ?_;rintro e w5 ⟨q5, rfl, hm'⟩;obtain ⟨A5, HA5, M5⟩ : ∃ A, Hd (A = A4 ++ [(g, j * 28 + 10, false)] ++ [(g, j * 28 + 11, false)] ++ txC (kid j).d.p.o.v.a (kid j).d.p.o.v.len) ∧ Hd (Mkd B C w w5 A k q5) := ⟨_, rfl, (MA _ _ (by omega) (by omega)).o.app hm' (by omega)⟩;have G' : Hd (q5 = m + ((1 + 1 + l2 + 1 + l4 + 1 + 1 + l7 + 1 + l9 + 1 + 1 + l12 : Nat) : Int)) := (show _ = _ by have z := G.o; have z1 := hm'.q; rw [txC_len, ← HL12.o] at z1; omega);clear G;have G := G';clear G';clear hm' MA ub c10 f10 c11 f11 s12 M4 p4 u4;obtain ⟨p5, u5⟩ : 0 ≤ q5 ∧ q5 ≤ 1152921504606846976 := by have z := G.o; have z1 := HJ.o; have z2 := HQ.o; have z3 := HM.o; omega
   have hW := HE.o.1.kb M5.o.kb;obtain ⟨⟨y13, c13⟩, f13⟩ := hW.n13;have s14 := hW.s14;clear hW;have MA := fun (x0 : Int) (h0 : x0 = q5) => iH (M5.o.num HE.o.1.n13.1 HE.o.1.hB HE.o.1.hC h0);have ub : q5 + 1 ≤ 1152921504606846976 := by have z := G.o; have z1 := HJ.o; have z2 := HQ.o; have z3 := HM.o; omega
   go_wp2_with fail
   refine (markText_x B C (kid j).d.p.o.t.t.a (kid j).d.p.o.t.t.len (kid j).d.p.o.t.t.cap _ _ (HE.o.1.t14.kb (MA _ (by omega)).o.kb) (by omega) (by omega)).mono ?_;rintro e w6 ⟨q6, rfl, hm'⟩;obtain ⟨A6, HA6, M6⟩ : ∃ A, Hd (A = A5 ++ [(g, j * 28 + 13, false)] ++ txC (kid j).d.p.o.t.t.a (kid j).d.p.o.t.t.len) ∧ Hd (Mkd B C w w6 A k q6) := ⟨_, rfl, (MA _ (by omega)).o.app hm' (by omega)⟩;have G' : Hd (q6 = m + ((1 + 1 + l2 + 1 + l4 + 1 + 1 + l7 + 1 + l9 + 1 + 1 + l12 + 1 + l14 : Nat) : Int)) := (show _ = _ by have z := G.o; have z1 := hm'.q; rw [txC_len, ← HL14.o] at z1; omega);clear G;have G := G';clear G';clear hm' MA ub c13 f13 s14 M5 p5 u5;obtain ⟨p6, u6⟩ : 0 ≤ q6 ∧ q6 ≤ 1152921504606846976 := by have z := G.o; have z1 := HJ.o; have z2 := HQ.o; have z3 := HM.o; omega
   have hW := HE.o.1.kb M6.o.kb;obtain ⟨⟨y15, c15⟩, f15⟩ := hW.n15;obtain ⟨⟨y16, c16⟩, f16⟩ := hW.n16;obtain ⟨⟨y17, c17⟩, f17⟩ := hW.n17;obtain ⟨⟨y18, c18⟩, f18⟩ := hW.n18;have s19 := hW.s19;clear hW;have MA := fun (x0 : Int) (x1 : Int) (x2 : Int) (x3 : Int) (h0 : x0 = q6) (h1 : x1 = q6 + 1) (h2 : x2 = q6 + 1 + 1) (h3 : x3 = q6 + 1 + 1 + 1) => iH ((((M6.o.num HE.o.1.n15.1 HE.o.1.hB HE.o.1.hC h0).num HE.o.1.n16.1 HE.o.1.hB HE.o.1.hC h1).num HE.o.1.n17.1 HE.o.1.hB HE.o.1.hC h2).num HE.o.1.n18.1 HE.o.1.hB HE.o.1.hC h3);have ub : q6 + 4 ≤ 1152921504606846976 := by have z := G.o; have z1 := HJ.o; have z2 := HQ.o; have z3 := HM.o; omega
   go_wp2_with fail
   refine (markText_x B C (kid j).d.e.d.v.a (kid j).d.e.d.v.len (kid j).d.e.d.v.cap _ _ (HE.o.1.t19.kb (MA _ _ _ _ (by omega) (by omega) (by omega) (by omega)).o.kb) (by omega) (by omega)).mono ?_;rintro e w7 ⟨q7, rfl, hm'⟩;obtain ⟨A7, HA7, M7⟩ : ∃ A, Hd (A = A6 ++ [(g, j * 28 + 15, false)] ++ [(g, j * 28 + 16, false)] ++ [(g, j * 28 + 17, false)] ++ [(g, j * 28 + 18, false)] ++ txC (kid j).d.e.d.v.a (kid j).d.e.d.v.len) ∧ Hd (Mkd B C w w7 A k q7) := ⟨_, rfl, (MA _ _ _ _ (by omega) (by omega) (by omega) (by omega)).o.app hm' (by omega)⟩;have G' : Hd (q7 = m + ((1 + 1 + l2 + 1 + l4 + 1 + 1 + l7 + 1 + l9 + 1 + 1 + l12 + 1 + l14 + 1 + 1 + 1 + 1 + l19 : Nat) : Int)) := (show _ = _ by have z := G.o; have z1 := hm'.q; rw [txC_len, ← HL19.o] at z1; omega);clear G;have G := G';clear G';clear hm' MA ub c15 f15 c16 f16 c17 f17 c18 f18 s19 M6 p6 u6;obtain ⟨p7, u7⟩ : 0 ≤ q7 ∧ q7 ≤ 1152921504606846976 := by have z := G.o; have z1 := HJ.o; have z2 := HQ.o; have z3 := HM.o; omega
   have hW := HE.o.1.kb M7.o.kb;obtain ⟨⟨y20, c20⟩, f20⟩ := hW.n20;have s21 := hW.s21;clear hW;have MA := fun (x0 : Int) (h0 : x0 = q7) => iH (M7.o.num HE.o.1.n20.1 HE.o.1.hB HE.o.1.hC h0);have ub : q7 + 1 ≤ 1152921504606846976 := by have z := G.o; have z1 := HJ.o; have z2 := HQ.o; have z3 := HM.o; omega
   go_wp2_with fail
   refine (markText_x B C (kid j).d.e.d.t.t.a (kid j).d.e.d.t.t.len (kid j).d.e.d.t.t.cap _ _ (HE.o.1.t21.kb (MA _ (by omega)).o.kb) (by omega) (by omega)).mono ?_;rintro e w8 ⟨q8, rfl, hm'⟩;obtain ⟨A8, HA8, M8⟩ : ∃ A, Hd (A = A7 ++ [(g, j * 28 + 20, false)] ++ txC (kid j).d.e.d.t.t.a (kid j).d.e.d.t.t.len) ∧ Hd (Mkd B C w w8 A k q8) := ⟨_, rfl, (MA _ (by omega)).o.app hm' (by omega)⟩;have G' : Hd (q8 = m + ((1 + 1 + l2 + 1 + l4 + 1 + 1 + l7 + 1 + l9 + 1 + 1 + l12 + 1 + l14 + 1 + 1 + 1 + 1 + l19 + 1 + l21 : Nat) : Int)) := (show _ = _ by have z := G.o; have z1 := hm'.q; rw [txC_len, ← HL21.o] at z1; omega);clear G;have G := G';clear G';clear hm' MA ub c20 f20 s21 M7 p7 u7;obtain ⟨p8, u8⟩ : 0 ≤ q8 ∧ q8 ≤ 1152921504606846976 := by have z := G.o; have z1 := HJ.o; have z2 := HQ.o; have z3 := HM.o; omega
   have hW := HE.o.1.kb M8.o.kb;obtain ⟨⟨y22, c22⟩, f22⟩ := hW.n22;obtain ⟨⟨y23, c23⟩, f23⟩ := hW.n23;have s24 := hW.s24;clear hW;have MA := fun (x0 : Int) (x1 : Int) (h0 : x0 = q8) (h1 : x1 = q8 + 1) => iH ((M8.o.num HE.o.1.n22.1 HE.o.1.hB HE.o.1.hC h0).num HE.o.1.n23.1 HE.o.1.hB HE.o.1.hC h1);have ub : q8 + 2 ≤ 1152921504606846976 := by have z := G.o; have z1 := HJ.o; have z2 := HQ.o; have z3 := HM.o; omega
   go_wp2_with fail
   refine (markKids_x B C (kid j).d.e _ _ (by omega) (by have zl := HL24.o; have z := G.o; have z1 := HJ.o; have z2 := HQ.o; have z3 := HM.o; omega) (HE.o.1.ke.kb (MA _ _ (by omega) (by omega)).o.kb)).mono ?_;rintro e w9 ⟨q9, rfl, hm'⟩;obtain ⟨A9, HA9, M9⟩ : ∃ A, Hd (A = A8 ++ [(g, j * 28 + 22, false)] ++ [(g, j * 28 + 23, false)] ++ (kid j).d.e.ms) ∧ Hd (Mkd B C w w9 A k q9) := ⟨_, rfl, (MA _ _ (by omega) (by omega)).o.app hm' (by omega)⟩;have G' : Hd (q9 = m + ((1 + 1 + l2 + 1 + l4 + 1 + 1 + l7 + 1 + l9 + 1 + 1 + l12 + 1 + l14 + 1 + 1 + 1 + 1 + l19 + 1 + l21 + 1 + 1 + l24 : Nat) : Int)) := (show _ = _ by have z := G.o; have z1 := hm'.q; rw [← HL24.o] at z1; omega);clear G;have G := G';clear G';clear hm' MA ub c22 f22 c23 f23 s24 M8 p8 u8;obtain ⟨p9, u9⟩ : 0 ≤ q9 ∧ q9 ≤ 1152921504606846976 := by have z := G.o; have z1 := HJ.o; have z2 := HQ.o; have z3 := HM.o; omega
   have hW := HE.o.1.kb M9.o.kb;have s25 := hW.s25;clear hW;go_wp2_with fail
   refine (markText_x B C (kid j).d.v.a (kid j).d.v.len (kid j).d.v.cap _ _ (HE.o.1.t25.kb M9.o.kb) (by omega) (by omega)).mono ?_;rintro e w10 ⟨q10, rfl, hm'⟩;obtain ⟨A10, HA10, M10⟩ : ∃ A, Hd (A = A9 ++ txC (kid j).d.v.a (kid j).d.v.len) ∧ Hd (Mkd B C w w10 A k q10) := ⟨_, rfl, M9.o.app hm' (by omega)⟩;have G' : Hd (q10 = m + ((1 + 1 + l2 + 1 + l4 + 1 + 1 + l7 + 1 + l9 + 1 + 1 + l12 + 1 + l14 + 1 + 1 + 1 + 1 + l19 + 1 + l21 + 1 + 1 + l24 + l25 : Nat) : Int)) := (show _ = _ by have z := G.o; have z1 := hm'.q; rw [txC_len, ← HL25.o] at z1; omega);clear G;have G := G';clear G';clear hm' s25 M9 p9 u9;obtain ⟨p10, u10⟩ : 0 ≤ q10 ∧ q10 ≤ 1152921504606846976 := by have z := G.o; have z1 := HJ.o; have z2 := HQ.o; have z3 := HM.o; omega
   have hW := HE.o.1.kb M10.o.kb;have s26 := hW.s26;clear hW;go_wp2_with fail
   refine (markTerms_x B C (kid j).d.ta (kid j).d.tc (kid j).d.tb _ _ (by omega) (by have zl := HL26.o; have z := G.o; have z1 := HJ.o; have z2 := HQ.o; have z3 := HM.o; omega) (HE.o.1.te.kb M10.o.kb)).mono ?_;rintro e w11 ⟨q11, rfl, hm'⟩;obtain ⟨A11, HA11, M11⟩ : ∃ A, Hd (A = A10 ++ (termM (kid j).d.ta (kid j).d.tb)) ∧ Hd (Mkd B C w w11 A k q11) := ⟨_, rfl, M10.o.app hm' (by omega)⟩;have G' : Hd (q11 = m + ((1 + 1 + l2 + 1 + l4 + 1 + 1 + l7 + 1 + l9 + 1 + 1 + l12 + 1 + l14 + 1 + 1 + 1 + 1 + l19 + 1 + l21 + 1 + 1 + l24 + l25 + l26 : Nat) : Int)) := (show _ = _ by have z := G.o; have z1 := hm'.q; rw [← HL26.o] at z1; omega);clear G;have G := G';clear G';clear hm' s26 M10 p10 u10;obtain ⟨p11, u11⟩ : 0 ≤ q11 ∧ q11 ≤ 1152921504606846976 := by have z := G.o; have z1 := HJ.o; have z2 := HQ.o; have z3 := HM.o; omega
   have hW := HE.o.1.kb M11.o.kb;have s27 := hW.s27;clear hW;go_wp2_with fail
   refine (HI.o j hlt _ _ (by omega) (by have zl := HL27.o; have z := G.o; have z1 := HJ.o; have z2 := HQ.o; have z3 := HM.o; omega) (HE.o.2.kb M11.o.kb)).mono ?_;rintro e w12 ⟨q12, rfl, hm'⟩;obtain ⟨A12, HA12, M12⟩ : ∃ A, Hd (A = A11 ++ (kid j).ms) ∧ Hd (Mkd B C w w12 A k q12) := ⟨_, rfl, M11.o.app hm' (by omega)⟩;have G' : Hd (q12 = m + ((1 + 1 + l2 + 1 + l4 + 1 + 1 + l7 + 1 + l9 + 1 + 1 + l12 + 1 + l14 + 1 + 1 + 1 + 1 + l19 + 1 + l21 + 1 + 1 + l24 + l25 + l26 + l27 : Nat) : Int)) := (show _ = _ by have z := G.o; have z1 := hm'.q; rw [← HL27.o] at z1; omega);clear G;have G := G';clear G';clear hm' s27 M11 p11 u11;obtain ⟨p12, u12⟩ : 0 ≤ q12 ∧ q12 ≤ 1152921504606846976 := by have z := G.o; have z1 := HJ.o; have z2 := HQ.o; have z3 := HM.o; omega
   have MB := iH (M12.o.cast (A' := catM F j ++ F j) (by rw [show F j = _ from congrFun HF.o j, HA12.o, HA11.o, HA10.o, HA9.o, HA8.o, HA7.o, HA6.o, HA5.o, HA4.o, HA3.o, HA2.o, HA1.o]; simp only [List.append_assoc]; first | done | rfl));go_wp2;go_roundw
   case rel =>
    refine ⟨j + 1, _, by omega, by go_num, rfl, by omega, by omega, ?_⟩
    show Mkd B C w _ (catM F j ++ F j) k _;exact MB.o.idx (by omega)
   case measure => simp [intOf]; omega
 obtain rfl : j = n := by omega
 go_wp2;go_ret;exact ⟨m, rfl, M0.o⟩
theorem markPlanS_t (B C : Nat) (e : PT) : ∀ (w : World) (k : Int), 0 ≤ k → k + (e.ms.length : Int) ≤ 1152921504606846976 → QM2 B C w e →
 Calls Tryz.prog 53 #[.slice e.d.ka e.d.n e.d.kc, .int .i64 k] w (MkX B C w e.ms k) := by
 induction e with
 | nil => exact fun w k hk hk2 _ => markPlanS_x B C _ _ 0 (fun _ => .nil) k w hk hk2 (.inl rfl) (fun i hi => absurd hi nN)
 | mk d kid ih => exact fun w k hk hk2 hM => markPlanS_x B C d.ka d.kc d.n kid k w hk hk2 hM fun i hi W k' h1 h2 h3 => ih i W k' h1 h2 h3
def Own4 (w : World) (b : Nat) (v0 v1 v2 v3 : Value) : Prop :=
 At4 w b v0 v1 v2 v3 ∧ w.frozen? ⟨b, 0, none⟩ = false ∧ w.frozen? ⟨b, 1, none⟩ = false ∧ w.frozen? ⟨b, 2, none⟩ = false ∧ w.frozen? ⟨b, 3, none⟩ = false
end Go.Proofs.YtoloadogihbdeaaGreat
