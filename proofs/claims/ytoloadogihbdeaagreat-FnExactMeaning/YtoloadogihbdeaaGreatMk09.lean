import Derived.Test.YtoloadogihbdeaaGreatMk08
namespace Go.Proofs.YtoloadogihbdeaaGreat
open Go.RowKit Go.Deep
set_option maxHeartbeats 40000000
set_option maxRecDepth 100000
structure PM (B C : Nat) (w : World) (g o : Nat) (d : PB) : Prop where
 hB : B ≤ g
 hC : g < C
 n1 : WN w g (o + 1)
 n3 : WN w g (o + 3)
 n4 : WN w g (o + 4)
 n6 : WN w g (o + 6)
 n8 : WN w g (o + 8)
 n9 : WN w g (o + 9)
 n11 : WN w g (o + 11)
 n13 : WN w g (o + 13)
 n14 : WN w g (o + 14)
 s0 : w.cell? ⟨g, o, none⟩ = some (.slice d.s.v.a d.s.v.len d.s.v.cap)
 t0 : TxM B C w d.s.v.a d.s.v.len
 s2 : w.cell? ⟨g, o + 2, none⟩ = some (.slice d.s.t.t.a d.s.t.t.len d.s.t.t.cap)
 t2 : TxM B C w d.s.t.t.a d.s.t.t.len
 s5 : w.cell? ⟨g, o + 5, none⟩ = some (.slice d.p.v.a d.p.v.len d.p.v.cap)
 t5 : TxM B C w d.p.v.a d.p.v.len
 s7 : w.cell? ⟨g, o + 7, none⟩ = some (.slice d.p.t.t.a d.p.t.t.len d.p.t.t.cap)
 t7 : TxM B C w d.p.t.t.a d.p.t.t.len
 s10 : w.cell? ⟨g, o + 10, none⟩ = some (.slice d.o.v.a d.o.v.len d.o.v.cap)
 t10 : TxM B C w d.o.v.a d.o.v.len
 s12 : w.cell? ⟨g, o + 12, none⟩ = some (.slice d.o.t.t.a d.o.t.t.len d.o.t.t.cap)
 t12 : TxM B C w d.o.t.t.a d.o.t.t.len
theorem PM.kb {B C : Nat} {w w' : World} {g o : Nat} {d : PB} (h : PM B C w g o d) (k : KB w w') : PM B C w' g o d :=
 ⟨h.hB, h.hC, h.n1.kb k, h.n3.kb k, h.n4.kb k, h.n6.kb k, h.n8.kb k, h.n9.kb k, h.n11.kb k, h.n13.kb k, h.n14.kb k, k.s _ _ _ _ _ h.s0, h.t0.kb k, k.s _ _ _ _ _ h.s2, h.t2.kb k, k.s _ _ _ _ _ h.s5, h.t5.kb k, k.s _ _ _ _ _ h.s7, h.t7.kb k, k.s _ _ _ _ _ h.s10, h.t10.kb k, k.s _ _ _ _ _ h.s12, h.t12.kb k⟩
def PX (B C : Nat) (w : World) (a : Option Addr) (n : Nat) (kid : Nat → PB) : Prop := n = 0 ∨ ∃ g, a = some ⟨g, 0, none⟩ ∧ ∀ i, i < n → PM B C w g (i * 15) (kid i) ∧ True
theorem PX.kb {B C : Nat} {w w' : World} {a : Option Addr} {n : Nat} {kid : Nat → PB} (h : PX B C w a n kid) (k : KB w w') : PX B C w' a n kid := by
 rcases h with h | ⟨g, ha, hx⟩
 · exact .inl h
 exact .inr ⟨g, ha, fun i hi => ⟨(hx i hi).1.kb k, trivial⟩⟩
def pF (g o : Nat) (d : PB) : List MC := txC d.s.v.a d.s.v.len ++ ([(g, o + 1, false)] ++ (txC d.s.t.t.a d.s.t.t.len ++ ([(g, o + 3, false)] ++ ([(g, o + 4, false)] ++ (txC d.p.v.a d.p.v.len ++ ([(g, o + 6, false)] ++ (txC d.p.t.t.a d.p.t.t.len ++ ([(g, o + 8, false)] ++ ([(g, o + 9, false)] ++ (txC d.o.v.a d.o.v.len ++ ([(g, o + 11, false)] ++ (txC d.o.t.t.a d.o.t.t.len ++ ([(g, o + 13, false)] ++ ([(g, o + 14, false)]))))))))))))))
def patM (a : Option Addr) (n : Nat) (kid : Nat → PB) : List MC := catM (fun i => pF (blk a) (i * 15) (kid i)) n
def termM (a : Option Addr) (tb : List TB) : List MC := catM (fun i => tF (blk a) (i * 4) (tbN tb i)) tb.length
theorem markPatS_x (B C : Nat) (a : Option Addr) (cap n : Nat) (kid : Nat → PB) (k : Int) (w : World) (hk : 0 ≤ k) (hk2 : k + ((catM (fun i => pF (blk a) (i * 15) (kid i)) n).length : Int) ≤ 1152921504606846976) (hM : PX B C w a n kid) :
 Calls Tryz.prog 47 #[.slice a n cap, .int .i64 k] w (MkX B C w (catM (fun i => pF (blk a) (i * 15) (kid i)) n) k) := by
 by_cases h0 : n = 0
 · subst h0
   clear hM
   go_in
   go_wp2
   refine wp_loop_rounds 1 ?_
   rw [rounds_succ]
   go_wp2
   go_ret
   exact ⟨_, rfl, Mkd.refl _ _ _ _⟩
 rcases hM with h | ⟨g, rfl, hx⟩
 · exact absurd h h0
 change k + ((catM (fun i => pF (g) (i * 15) (kid i)) n).length : Int) ≤ 1152921504606846976 at hk2
 obtain ⟨F, hF⟩ : ∃ F : Nat → List MC, F = (fun i => pF (g) (i * 15) (kid i)) := ⟨_, rfl⟩
 have HF := iH hF
 show Calls _ _ _ w (MkX B C w (catM (fun i => pF (g) (i * 15) (kid i)) n) k)
 rw [← hF] at hk2 ⊢
 have HX := iH hx
 have HQ := iH hk2
 skip
 have HFL : ∀ j, (F j).length = (kid j).s.v.len + 1 + (kid j).s.t.t.len + 1 + 1 + (kid j).p.v.len + 1 + (kid j).p.t.t.len + 1 + 1 + (kid j).o.v.len + 1 + (kid j).o.t.t.len + 1 + 1 := fun j => by
  rw [hF]
  simp only [List.length_append, List.length_cons, List.length_nil, txC_len, Nat.zero_add, Nat.add_assoc, pF]
 have HFH := iH HFL
 have hn : n ≤ 1152921504606846976 := by
  have h := catM_ge (f := F) (fun i => by rw [HFL]; omega) n
  omega
 have HN : Hd (∀ j, j < n → (catM F j).length + ((kid j).s.v.len + 1 + (kid j).s.t.t.len + 1 + 1 + (kid j).p.v.len + 1 + (kid j).p.t.t.len + 1 + 1 + (kid j).o.v.len + 1 + (kid j).o.t.t.len + 1 + 1) ≤ (catM F n).length) := fun j hlt => by
  have h := catM_le (f := F) hlt
  rw [HFL] at h
  exact h
 clear HFL
 clear hk2 hx hF h0
 go_in
 go_wp2_with fail
 go_loopw [1, 5] (fun a b wr => ∃ (j : Nat) (m : Int), j ≤ n ∧ b = .int .i64 j ∧ a = .int .i64 m ∧ 0 ≤ m ∧ m ≤ 1152921504606846976 ∧ Hd (Mkd B C w wr (catM F j) k m))
  (fun _ b _ => n - (intOf b).toNat)
 case atStart => exact ⟨0, k, nZ, rfl, rfl, hk, by have h := HQ.o; omega, Mkd.refl _ _ _ _⟩
 obtain ⟨j, m, hj, rfl, rfl, hm0, hm1, M0⟩ := hrel
 by_cases hlt : j < n
 · have HJ := iH (HN.o j hlt)
   obtain ⟨l0, hl0⟩ : ∃ l, l = (kid j).s.v.len := ⟨_, rfl⟩
   rw [← hl0] at HJ
   have HL0 := iH hl0
   clear hl0
   obtain ⟨l2, hl2⟩ : ∃ l, l = (kid j).s.t.t.len := ⟨_, rfl⟩
   rw [← hl2] at HJ
   have HL2 := iH hl2
   clear hl2
   obtain ⟨l5, hl5⟩ : ∃ l, l = (kid j).p.v.len := ⟨_, rfl⟩
   rw [← hl5] at HJ
   have HL5 := iH hl5
   clear hl5
   obtain ⟨l7, hl7⟩ : ∃ l, l = (kid j).p.t.t.len := ⟨_, rfl⟩
   rw [← hl7] at HJ
   have HL7 := iH hl7
   clear hl7
   obtain ⟨l10, hl10⟩ : ∃ l, l = (kid j).o.v.len := ⟨_, rfl⟩
   rw [← hl10] at HJ
   have HL10 := iH hl10
   clear hl10
   obtain ⟨l12, hl12⟩ : ∃ l, l = (kid j).o.t.t.len := ⟨_, rfl⟩
   rw [← hl12] at HJ
   have HL12 := iH hl12
   clear hl12
   have HE := iH (HX.o j hlt)
   have HM := iH M0.o.q
   have G : Hd (m = m) := (show m = m from rfl)
   have hW := HE.o.1.kb M0.o.kb
   have s0 := hW.s0
   clear hW
   go_wp2_with fail
   refine (markText_x B C (kid j).s.v.a (kid j).s.v.len (kid j).s.v.cap _ _ (HE.o.1.t0.kb M0.o.kb) (by omega) (by omega)).mono ?_
   rintro e w1 ⟨q1, rfl, hm'⟩
   obtain ⟨A1, HA1, M1⟩ : ∃ A, Hd (A = catM F j ++ txC (kid j).s.v.a (kid j).s.v.len) ∧ Hd (Mkd B C w w1 A k q1) := ⟨_, rfl, M0.o.app hm' (by omega)⟩
   have G' : Hd (q1 = m + ((l0 : Nat) : Int)) := (show _ = _ by have z := G.o; have z1 := hm'.q; rw [txC_len, ← HL0.o] at z1; omega)
   clear G
   have G := G'
   clear G'
   clear hm' s0 M0
   have b1 : 0 ≤ q1 ∧ q1 ≤ 1152921504606846976 := by have z := G.o; have z1 := HJ.o; have z2 := HQ.o; have z3 := HM.o; omega
   obtain ⟨p1, u1⟩ := b1
   have hW := HE.o.1.kb M1.o.kb
   obtain ⟨⟨y1, c1⟩, f1⟩ := hW.n1
   have s2 := hW.s2
   clear hW
   have MA := fun (x0 : Int) (h0 : x0 = q1) => iH (M1.o.num HE.o.1.n1.1 HE.o.1.hB HE.o.1.hC h0)
   have ub : q1 + 1 ≤ 1152921504606846976 := by have z := G.o; have z1 := HJ.o; have z2 := HQ.o; have z3 := HM.o; omega
   go_wp2_with fail
   refine (markText_x B C (kid j).s.t.t.a (kid j).s.t.t.len (kid j).s.t.t.cap _ _ (HE.o.1.t2.kb (MA _ (by omega)).o.kb) (by omega) (by omega)).mono ?_
   rintro e w2 ⟨q2, rfl, hm'⟩
   obtain ⟨A2, HA2, M2⟩ : ∃ A, Hd (A = A1 ++ [(g, j * 15 + 1, false)] ++ txC (kid j).s.t.t.a (kid j).s.t.t.len) ∧ Hd (Mkd B C w w2 A k q2) := ⟨_, rfl, (MA _ (by omega)).o.app hm' (by omega)⟩
   have G' : Hd (q2 = m + ((l0 + 1 + l2 : Nat) : Int)) := (show _ = _ by have z := G.o; have z1 := hm'.q; rw [txC_len, ← HL2.o] at z1; omega)
   clear G
   have G := G'
   clear G'
   clear hm' MA ub c1 f1 s2 M1 p1 u1
   have b2 : 0 ≤ q2 ∧ q2 ≤ 1152921504606846976 := by have z := G.o; have z1 := HJ.o; have z2 := HQ.o; have z3 := HM.o; omega
   obtain ⟨p2, u2⟩ := b2
   have hW := HE.o.1.kb M2.o.kb
   obtain ⟨⟨y3, c3⟩, f3⟩ := hW.n3
   obtain ⟨⟨y4, c4⟩, f4⟩ := hW.n4
   have s5 := hW.s5
   clear hW
   have MA := fun (x0 : Int) (x1 : Int) (h0 : x0 = q2) (h1 : x1 = q2 + 1) => iH ((M2.o.num HE.o.1.n3.1 HE.o.1.hB HE.o.1.hC h0).num HE.o.1.n4.1 HE.o.1.hB HE.o.1.hC h1)
   have ub : q2 + 2 ≤ 1152921504606846976 := by have z := G.o; have z1 := HJ.o; have z2 := HQ.o; have z3 := HM.o; omega
   go_wp2_with fail
   refine (markText_x B C (kid j).p.v.a (kid j).p.v.len (kid j).p.v.cap _ _ (HE.o.1.t5.kb (MA _ _ (by omega) (by omega)).o.kb) (by omega) (by omega)).mono ?_
   rintro e w3 ⟨q3, rfl, hm'⟩
   obtain ⟨A3, HA3, M3⟩ : ∃ A, Hd (A = A2 ++ [(g, j * 15 + 3, false)] ++ [(g, j * 15 + 4, false)] ++ txC (kid j).p.v.a (kid j).p.v.len) ∧ Hd (Mkd B C w w3 A k q3) := ⟨_, rfl, (MA _ _ (by omega) (by omega)).o.app hm' (by omega)⟩
   have G' : Hd (q3 = m + ((l0 + 1 + l2 + 1 + 1 + l5 : Nat) : Int)) := (show _ = _ by have z := G.o; have z1 := hm'.q; rw [txC_len, ← HL5.o] at z1; omega)
   clear G
   have G := G'
   clear G'
   clear hm' MA ub c3 f3 c4 f4 s5 M2 p2 u2
   have b3 : 0 ≤ q3 ∧ q3 ≤ 1152921504606846976 := by have z := G.o; have z1 := HJ.o; have z2 := HQ.o; have z3 := HM.o; omega
   obtain ⟨p3, u3⟩ := b3
   have hW := HE.o.1.kb M3.o.kb
   obtain ⟨⟨y6, c6⟩, f6⟩ := hW.n6
   have s7 := hW.s7
   clear hW
   have MA := fun (x0 : Int) (h0 : x0 = q3) => iH (M3.o.num HE.o.1.n6.1 HE.o.1.hB HE.o.1.hC h0)
   have ub : q3 + 1 ≤ 1152921504606846976 := by have z := G.o; have z1 := HJ.o; have z2 := HQ.o; have z3 := HM.o; omega
   go_wp2_with fail
   refine (markText_x B C (kid j).p.t.t.a (kid j).p.t.t.len (kid j).p.t.t.cap _ _ (HE.o.1.t7.kb (MA _ (by omega)).o.kb) (by omega) (by omega)).mono ?_
   rintro e w4 ⟨q4, rfl, hm'⟩
   obtain ⟨A4, HA4, M4⟩ : ∃ A, Hd (A = A3 ++ [(g, j * 15 + 6, false)] ++ txC (kid j).p.t.t.a (kid j).p.t.t.len) ∧ Hd (Mkd B C w w4 A k q4) := ⟨_, rfl, (MA _ (by omega)).o.app hm' (by omega)⟩
   have G' : Hd (q4 = m + ((l0 + 1 + l2 + 1 + 1 + l5 + 1 + l7 : Nat) : Int)) := (show _ = _ by have z := G.o; have z1 := hm'.q; rw [txC_len, ← HL7.o] at z1; omega)
   clear G
   have G := G'
   clear G'
   clear hm' MA ub c6 f6 s7 M3 p3 u3
   have b4 : 0 ≤ q4 ∧ q4 ≤ 1152921504606846976 := by have z := G.o; have z1 := HJ.o; have z2 := HQ.o; have z3 := HM.o; omega
   obtain ⟨p4, u4⟩ := b4
   have hW := HE.o.1.kb M4.o.kb
   obtain ⟨⟨y8, c8⟩, f8⟩ := hW.n8
   obtain ⟨⟨y9, c9⟩, f9⟩ := hW.n9
   have s10 := hW.s10
   clear hW
   have MA := fun (x0 : Int) (x1 : Int) (h0 : x0 = q4) (h1 : x1 = q4 + 1) => iH ((M4.o.num HE.o.1.n8.1 HE.o.1.hB HE.o.1.hC h0).num HE.o.1.n9.1 HE.o.1.hB HE.o.1.hC h1)
   have ub : q4 + 2 ≤ 1152921504606846976 := by have z := G.o; have z1 := HJ.o; have z2 := HQ.o; have z3 := HM.o; omega
   go_wp2_with fail
   refine (markText_x B C (kid j).o.v.a (kid j).o.v.len (kid j).o.v.cap _ _ (HE.o.1.t10.kb (MA _ _ (by omega) (by omega)).o.kb) (by omega) (by omega)).mono ?_
   rintro e w5 ⟨q5, rfl, hm'⟩
   obtain ⟨A5, HA5, M5⟩ : ∃ A, Hd (A = A4 ++ [(g, j * 15 + 8, false)] ++ [(g, j * 15 + 9, false)] ++ txC (kid j).o.v.a (kid j).o.v.len) ∧ Hd (Mkd B C w w5 A k q5) := ⟨_, rfl, (MA _ _ (by omega) (by omega)).o.app hm' (by omega)⟩
   have G' : Hd (q5 = m + ((l0 + 1 + l2 + 1 + 1 + l5 + 1 + l7 + 1 + 1 + l10 : Nat) : Int)) := (show _ = _ by have z := G.o; have z1 := hm'.q; rw [txC_len, ← HL10.o] at z1; omega)
   clear G
   have G := G'
   clear G'
   clear hm' MA ub c8 f8 c9 f9 s10 M4 p4 u4
   have b5 : 0 ≤ q5 ∧ q5 ≤ 1152921504606846976 := by have z := G.o; have z1 := HJ.o; have z2 := HQ.o; have z3 := HM.o; omega
   obtain ⟨p5, u5⟩ := b5
   have hW := HE.o.1.kb M5.o.kb
   obtain ⟨⟨y11, c11⟩, f11⟩ := hW.n11
   have s12 := hW.s12
   clear hW
   have MA := fun (x0 : Int) (h0 : x0 = q5) => iH (M5.o.num HE.o.1.n11.1 HE.o.1.hB HE.o.1.hC h0)
   have ub : q5 + 1 ≤ 1152921504606846976 := by have z := G.o; have z1 := HJ.o; have z2 := HQ.o; have z3 := HM.o; omega
   go_wp2_with fail
   refine (markText_x B C (kid j).o.t.t.a (kid j).o.t.t.len (kid j).o.t.t.cap _ _ (HE.o.1.t12.kb (MA _ (by omega)).o.kb) (by omega) (by omega)).mono ?_
   rintro e w6 ⟨q6, rfl, hm'⟩
   obtain ⟨A6, HA6, M6⟩ : ∃ A, Hd (A = A5 ++ [(g, j * 15 + 11, false)] ++ txC (kid j).o.t.t.a (kid j).o.t.t.len) ∧ Hd (Mkd B C w w6 A k q6) := ⟨_, rfl, (MA _ (by omega)).o.app hm' (by omega)⟩
   have G' : Hd (q6 = m + ((l0 + 1 + l2 + 1 + 1 + l5 + 1 + l7 + 1 + 1 + l10 + 1 + l12 : Nat) : Int)) := (show _ = _ by have z := G.o; have z1 := hm'.q; rw [txC_len, ← HL12.o] at z1; omega)
   clear G
   have G := G'
   clear G'
   clear hm' MA ub c11 f11 s12 M5 p5 u5
   have b6 : 0 ≤ q6 ∧ q6 ≤ 1152921504606846976 := by have z := G.o; have z1 := HJ.o; have z2 := HQ.o; have z3 := HM.o; omega
   obtain ⟨p6, u6⟩ := b6
   have hW := HE.o.1.kb M6.o.kb
   obtain ⟨⟨y13, c13⟩, f13⟩ := hW.n13
   obtain ⟨⟨y14, c14⟩, f14⟩ := hW.n14
   clear hW
   have MA := fun (x0 : Int) (x1 : Int) (h0 : x0 = q6) (h1 : x1 = q6 + 1) => iH ((M6.o.num HE.o.1.n13.1 HE.o.1.hB HE.o.1.hC h0).num HE.o.1.n14.1 HE.o.1.hB HE.o.1.hC h1)
   have ub : q6 + 2 ≤ 1152921504606846976 := by have z := G.o; have z1 := HJ.o; have z2 := HQ.o; have z3 := HM.o; omega
   have MB := fun (x0 : Int) (x1 : Int) (h0 : x0 = q6) (h1 : x1 = q6 + 1) => iH ((MA x0 x1 h0 h1).o.cast (A' := catM F j ++ F j) (by rw [show F j = _ from congrFun HF.o j, HA6.o, HA5.o, HA4.o, HA3.o, HA2.o, HA1.o]; simp only [List.append_assoc]; first | done | rfl))
   clear MA
   go_wp2
   go_roundw
   case rel =>
    refine ⟨j + 1, _, by omega, by go_num, rfl, by omega, by omega, ?_⟩
    show Mkd B C w _ (catM F j ++ F j) k _
    exact (MB _ _ (by omega) (by omega)).o.idx (by omega)
   case measure => simp [intOf]; omega
 obtain rfl : j = n := by omega
 go_wp2
 go_ret
 exact ⟨m, rfl, M0.o⟩
theorem heldPatS_x (B C : Nat) (a : Option Addr) (cap n : Nat) (kid : Nat → PB) (k : Int) (w : World) (hk : 0 ≤ k) (hk2 : k + ((catM (fun i => pF (blk a) (i * 15) (kid i)) n).length : Int) ≤ 1152921504606846976) (hM : PX B C w a n kid)
 (hH : Hl w (catM (fun i => pF (blk a) (i * 15) (kid i)) n) k) :
 Calls Tryz.prog 66 #[.slice a n cap, .int .i64 k] w (HdX w (catM (fun i => pF (blk a) (i * 15) (kid i)) n) k) := by
 by_cases h0 : n = 0
 · subst h0
   clear hM hH
   go_in
   go_wp2
   refine wp_loop_rounds 1 ?_
   rw [rounds_succ]
   go_wp2
   go_ret
   exact ⟨_, rfl, (show k = k + ((0 : Nat) : Int) by simp), rfl⟩
 rcases hM with h | ⟨g, rfl, hx⟩
 · exact absurd h h0
 change k + ((catM (fun i => pF (g) (i * 15) (kid i)) n).length : Int) ≤ 1152921504606846976 at hk2
 obtain ⟨F, hF⟩ : ∃ F : Nat → List MC, F = (fun i => pF (g) (i * 15) (kid i)) := ⟨_, rfl⟩
 have HF := iH hF
 show Calls _ _ _ w (HdX w (catM (fun i => pF (g) (i * 15) (kid i)) n) k)
 rw [← hF] at hk2 ⊢
 have HX := iH hx
 have HQ := iH hk2
 skip
 have HH : Hd (Hl w (catM F n) k) := (show Hl _ _ _ by rw [hF]; exact hH)
 have HFL : ∀ j, (F j).length = (kid j).s.v.len + 1 + (kid j).s.t.t.len + 1 + 1 + (kid j).p.v.len + 1 + (kid j).p.t.t.len + 1 + 1 + (kid j).o.v.len + 1 + (kid j).o.t.t.len + 1 + 1 := fun j => by
  rw [hF]
  simp only [List.length_append, List.length_cons, List.length_nil, txC_len, Nat.zero_add, Nat.add_assoc, pF]
 have HFH := iH HFL
 have hn : n ≤ 1152921504606846976 := by
  have h := catM_ge (f := F) (fun i => by rw [HFL]; omega) n
  omega
 have HN : Hd (∀ j, j < n → (catM F j).length + ((kid j).s.v.len + 1 + (kid j).s.t.t.len + 1 + 1 + (kid j).p.v.len + 1 + (kid j).p.t.t.len + 1 + 1 + (kid j).o.v.len + 1 + (kid j).o.t.t.len + 1 + 1) ≤ (catM F n).length) := fun j hlt => by
  have h := catM_le (f := F) hlt
  rw [HFL] at h
  exact h
 clear HFL
 clear hk2 hx hF h0 hH
 go_in
 go_wp2_with fail
 go_loop [1, 5] (fun a b => ∃ (j : Nat) (m : Int), j ≤ n ∧ b = .int .i64 j ∧ a = .int .i64 m ∧ 0 ≤ m ∧ m ≤ 1152921504606846976 ∧ Hd (m = k + ((catM F j).length : Int)))
  (fun _ b => n - (intOf b).toNat)
 case atStart => exact ⟨0, k, nZ, rfl, rfl, hk, by have h := HQ.o; omega, (show k = k + ((0 : Nat) : Int) by simp)⟩
 obtain ⟨j, m, hj, rfl, rfl, hm0, hm1, M0⟩ := hrel
 by_cases hlt : j < n
 · have HJ := iH (HN.o j hlt)
   obtain ⟨l0, hl0⟩ : ∃ l, l = (kid j).s.v.len := ⟨_, rfl⟩
   rw [← hl0] at HJ
   have HL0 := iH hl0
   clear hl0
   obtain ⟨l2, hl2⟩ : ∃ l, l = (kid j).s.t.t.len := ⟨_, rfl⟩
   rw [← hl2] at HJ
   have HL2 := iH hl2
   clear hl2
   obtain ⟨l5, hl5⟩ : ∃ l, l = (kid j).p.v.len := ⟨_, rfl⟩
   rw [← hl5] at HJ
   have HL5 := iH hl5
   clear hl5
   obtain ⟨l7, hl7⟩ : ∃ l, l = (kid j).p.t.t.len := ⟨_, rfl⟩
   rw [← hl7] at HJ
   have HL7 := iH hl7
   clear hl7
   obtain ⟨l10, hl10⟩ : ∃ l, l = (kid j).o.v.len := ⟨_, rfl⟩
   rw [← hl10] at HJ
   have HL10 := iH hl10
   clear hl10
   obtain ⟨l12, hl12⟩ : ∃ l, l = (kid j).o.t.t.len := ⟨_, rfl⟩
   rw [← hl12] at HJ
   have HL12 := iH hl12
   clear hl12
   have HE := iH (HX.o j hlt)
   have hl := HH.o.cat hlt m M0.o
   rw [show F j = _ from congrFun HF.o j] at hl
   unfold pF at hl
   have G : Hd (m = m) := (show m = m from rfl)
   have s0 := HE.o.1.s0
   obtain ⟨ht, hr⟩ := hl.app
   have HR := iH hr
   clear hr
   have HT : Hd (∀ q, q = m → Hl w _ q) := fun q hq => (show Hl w _ q by rw [hq]; exact ht)
   clear hl ht
   go_wp2_with fail
   refine (heldText_x (kid j).s.v.a (kid j).s.v.len (kid j).s.v.cap _ w (TxM.form HE.o.1.t0) (HT.o _ (by omega)) (by omega) (by omega) HE.o.1.t0.1).mono ?_
   rintro e w' ⟨q1, rfl, HQ1, hw'⟩
   subst w'
   have G' : Hd (q1 = m + ((l0 : Nat) : Int)) := (show _ = _ by have z := G.o; have z1 := HQ1.o; rw [txC_len, ← HL0.o] at z1; omega)
   have hl := HR.o q1 (by have z1 := HQ1.o; omega)
   clear G HT HR HQ1 s0 
   have G := G'
   clear G'
   have b1 : 0 ≤ q1 ∧ q1 ≤ 1152921504606846976 := by have z := G.o; have z1 := HJ.o; have z2 := HQ.o; have z3 := M0.o; omega
   obtain ⟨p1, u1⟩ := b1
   obtain ⟨e1, hl⟩ := hl.num
   have s2 := HE.o.1.s2
   have ub : q1 + 1 ≤ 1152921504606846976 := by have z := G.o; have z1 := HJ.o; have z2 := HQ.o; have z3 := M0.o; omega
   obtain ⟨ht, hr⟩ := hl.app
   have HR := iH hr
   clear hr
   have HT : Hd (∀ q, q = q1 + 1 → Hl w _ q) := fun q hq => (show Hl w _ q by rw [hq]; exact ht)
   clear hl ht
   go_wp2_with fail
   refine (heldText_x (kid j).s.t.t.a (kid j).s.t.t.len (kid j).s.t.t.cap _ w (TxM.form HE.o.1.t2) (HT.o _ (by omega)) (by omega) (by omega) HE.o.1.t2.1).mono ?_
   rintro e w' ⟨q2, rfl, HQ2, hw'⟩
   subst w'
   have G' : Hd (q2 = m + ((l0 + 1 + l2 : Nat) : Int)) := (show _ = _ by have z := G.o; have z1 := HQ2.o; rw [txC_len, ← HL2.o] at z1; omega)
   have hl := HR.o q2 (by have z1 := HQ2.o; omega)
   clear G HT HR HQ2 s2 e1 ub p1 u1
   have G := G'
   clear G'
   have b2 : 0 ≤ q2 ∧ q2 ≤ 1152921504606846976 := by have z := G.o; have z1 := HJ.o; have z2 := HQ.o; have z3 := M0.o; omega
   obtain ⟨p2, u2⟩ := b2
   obtain ⟨e3, hl⟩ := hl.num
   obtain ⟨e4, hl⟩ := hl.num
   have s5 := HE.o.1.s5
   have ub : q2 + 2 ≤ 1152921504606846976 := by have z := G.o; have z1 := HJ.o; have z2 := HQ.o; have z3 := M0.o; omega
   obtain ⟨ht, hr⟩ := hl.app
   have HR := iH hr
   clear hr
   have HT : Hd (∀ q, q = q2 + 1 + 1 → Hl w _ q) := fun q hq => (show Hl w _ q by rw [hq]; exact ht)
   clear hl ht
   go_wp2_with fail
   refine (heldText_x (kid j).p.v.a (kid j).p.v.len (kid j).p.v.cap _ w (TxM.form HE.o.1.t5) (HT.o _ (by omega)) (by omega) (by omega) HE.o.1.t5.1).mono ?_
   rintro e w' ⟨q3, rfl, HQ3, hw'⟩
   subst w'
   have G' : Hd (q3 = m + ((l0 + 1 + l2 + 1 + 1 + l5 : Nat) : Int)) := (show _ = _ by have z := G.o; have z1 := HQ3.o; rw [txC_len, ← HL5.o] at z1; omega)
   have hl := HR.o q3 (by have z1 := HQ3.o; omega)
   clear G HT HR HQ3 s5 e3 e4 ub p2 u2
   have G := G'
   clear G'
   have b3 : 0 ≤ q3 ∧ q3 ≤ 1152921504606846976 := by have z := G.o; have z1 := HJ.o; have z2 := HQ.o; have z3 := M0.o; omega
   obtain ⟨p3, u3⟩ := b3
   obtain ⟨e6, hl⟩ := hl.num
   have s7 := HE.o.1.s7
   have ub : q3 + 1 ≤ 1152921504606846976 := by have z := G.o; have z1 := HJ.o; have z2 := HQ.o; have z3 := M0.o; omega
   obtain ⟨ht, hr⟩ := hl.app
   have HR := iH hr
   clear hr
   have HT : Hd (∀ q, q = q3 + 1 → Hl w _ q) := fun q hq => (show Hl w _ q by rw [hq]; exact ht)
   clear hl ht
   go_wp2_with fail
   refine (heldText_x (kid j).p.t.t.a (kid j).p.t.t.len (kid j).p.t.t.cap _ w (TxM.form HE.o.1.t7) (HT.o _ (by omega)) (by omega) (by omega) HE.o.1.t7.1).mono ?_
   rintro e w' ⟨q4, rfl, HQ4, hw'⟩
   subst w'
   have G' : Hd (q4 = m + ((l0 + 1 + l2 + 1 + 1 + l5 + 1 + l7 : Nat) : Int)) := (show _ = _ by have z := G.o; have z1 := HQ4.o; rw [txC_len, ← HL7.o] at z1; omega)
   have hl := HR.o q4 (by have z1 := HQ4.o; omega)
   clear G HT HR HQ4 s7 e6 ub p3 u3
   have G := G'
   clear G'
   have b4 : 0 ≤ q4 ∧ q4 ≤ 1152921504606846976 := by have z := G.o; have z1 := HJ.o; have z2 := HQ.o; have z3 := M0.o; omega
   obtain ⟨p4, u4⟩ := b4
   obtain ⟨e8, hl⟩ := hl.num
   obtain ⟨e9, hl⟩ := hl.num
   have s10 := HE.o.1.s10
   have ub : q4 + 2 ≤ 1152921504606846976 := by have z := G.o; have z1 := HJ.o; have z2 := HQ.o; have z3 := M0.o; omega
   obtain ⟨ht, hr⟩ := hl.app
   have HR := iH hr
   clear hr
   have HT : Hd (∀ q, q = q4 + 1 + 1 → Hl w _ q) := fun q hq => (show Hl w _ q by rw [hq]; exact ht)
   clear hl ht
   go_wp2_with fail
   refine (heldText_x (kid j).o.v.a (kid j).o.v.len (kid j).o.v.cap _ w (TxM.form HE.o.1.t10) (HT.o _ (by omega)) (by omega) (by omega) HE.o.1.t10.1).mono ?_
   rintro e w' ⟨q5, rfl, HQ5, hw'⟩
   subst w'
   have G' : Hd (q5 = m + ((l0 + 1 + l2 + 1 + 1 + l5 + 1 + l7 + 1 + 1 + l10 : Nat) : Int)) := (show _ = _ by have z := G.o; have z1 := HQ5.o; rw [txC_len, ← HL10.o] at z1; omega)
   have hl := HR.o q5 (by have z1 := HQ5.o; omega)
   clear G HT HR HQ5 s10 e8 e9 ub p4 u4
   have G := G'
   clear G'
   have b5 : 0 ≤ q5 ∧ q5 ≤ 1152921504606846976 := by have z := G.o; have z1 := HJ.o; have z2 := HQ.o; have z3 := M0.o; omega
   obtain ⟨p5, u5⟩ := b5
   obtain ⟨e11, hl⟩ := hl.num
   have s12 := HE.o.1.s12
   have ub : q5 + 1 ≤ 1152921504606846976 := by have z := G.o; have z1 := HJ.o; have z2 := HQ.o; have z3 := M0.o; omega
   obtain ⟨ht, hr⟩ := hl.app
   have HR := iH hr
   clear hr
   have HT : Hd (∀ q, q = q5 + 1 → Hl w _ q) := fun q hq => (show Hl w _ q by rw [hq]; exact ht)
   clear hl ht
   go_wp2_with fail
   refine (heldText_x (kid j).o.t.t.a (kid j).o.t.t.len (kid j).o.t.t.cap _ w (TxM.form HE.o.1.t12) (HT.o _ (by omega)) (by omega) (by omega) HE.o.1.t12.1).mono ?_
   rintro e w' ⟨q6, rfl, HQ6, hw'⟩
   subst w'
   have G' : Hd (q6 = m + ((l0 + 1 + l2 + 1 + 1 + l5 + 1 + l7 + 1 + 1 + l10 + 1 + l12 : Nat) : Int)) := (show _ = _ by have z := G.o; have z1 := HQ6.o; rw [txC_len, ← HL12.o] at z1; omega)
   have hl := HR.o q6 (by have z1 := HQ6.o; omega)
   clear G HT HR HQ6 s12 e11 ub p5 u5
   have G := G'
   clear G'
   have b6 : 0 ≤ q6 ∧ q6 ≤ 1152921504606846976 := by have z := G.o; have z1 := HJ.o; have z2 := HQ.o; have z3 := M0.o; omega
   obtain ⟨p6, u6⟩ := b6
   obtain ⟨e13, hl⟩ := hl.num
   obtain ⟨e14, _⟩ := hl.num (L := [])
   have ub : q6 + 2 ≤ 1152921504606846976 := by have z := G.o; have z1 := HJ.o; have z2 := HQ.o; have z3 := M0.o; omega
   go_wp2
   go_round
   case rel =>
    refine ⟨j + 1, _, by omega, by go_num, rfl, by omega, by omega, ?_⟩
    show _ = k + (((catM F j ++ F j).length : Nat) : Int)
    rw [List.length_append, HFH.o j, ← HL0.o, ← HL2.o, ← HL5.o, ← HL7.o, ← HL10.o, ← HL12.o]
    have z := G.o
    have z3 := M0.o
    omega
   case measure => simp [intOf]; omega
 obtain rfl : j = n := by omega
 go_wp2
 go_ret
 exact ⟨m, rfl, M0.o, rfl⟩
theorem markPats_x (B C : Nat) (a : Option Addr) (cap n : Nat) (kid : Nat → PB) (k : Int) (w : World) (hk : 0 ≤ k) (hk2 : k + ((patM a n kid).length : Int) ≤ 1152921504606846976) (hM : PX B C w a n kid) :
 Calls Tryz.prog 47 #[.slice a n cap, .int .i64 k] w (MkX B C w (patM a n kid) k) := markPatS_x B C a cap n kid k w hk hk2 hM
theorem markTerms_x (B C : Nat) (a : Option Addr) (cap : Nat) (tb : List TB) (k : Int) (w : World) (hk : 0 ≤ k) (hk2 : k + ((termM a tb).length : Int) ≤ 1152921504606846976) (hM : TsX B C w a tb.length (tbN tb)) :
 Calls Tryz.prog 50 #[.slice a tb.length cap, .int .i64 k] w (MkX B C w (termM a tb) k) := markTermS_x B C a cap tb.length (tbN tb) k w hk hk2 hM
theorem heldPats_x (B C : Nat) (a : Option Addr) (cap n : Nat) (kid : Nat → PB) (k : Int) (w : World) (hk : 0 ≤ k) (hk2 : k + ((patM a n kid).length : Int) ≤ 1152921504606846976) (hM : PX B C w a n kid) (hH : Hl w (patM a n kid) k) :
 Calls Tryz.prog 66 #[.slice a n cap, .int .i64 k] w (HdX w (patM a n kid) k) := heldPatS_x B C a cap n kid k w hk hk2 hM hH
theorem heldTerms_x (B C : Nat) (a : Option Addr) (cap : Nat) (tb : List TB) (k : Int) (w : World) (hk : 0 ≤ k) (hk2 : k + ((termM a tb).length : Int) ≤ 1152921504606846976) (hM : TsX B C w a tb.length (tbN tb)) (hH : Hl w (termM a tb) k) :
 Calls Tryz.prog 57 #[.slice a tb.length cap, .int .i64 k] w (HdX w (termM a tb) k) := heldTermS_x B C a cap tb.length (tbN tb) k w hk hk2 hM hH
end Go.Proofs.YtoloadogihbdeaaGreat
