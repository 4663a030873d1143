import Derived.Test.YtoloadogihbdeaaGreatMk09
namespace Go.Proofs.YtoloadogihbdeaaGreat
open Go.RowKit Go.Deep
set_option maxHeartbeats 40000000
set_option maxRecDepth 100000
structure AM (B C : Nat) (w : World) (g o : Nat) (d : AN) : Prop where
 hB : B ≤ g
 hC : g < C
 n0 : WN w g (o)
 n2 : WN w g (o + 2)
 n3 : WN w g (o + 3)
 n5 : WN w g (o + 5)
 n7 : WN w g (o + 7)
 n8 : WN w g (o + 8)
 s4 : w.cell? ⟨g, o + 4, none⟩ = some (.slice d.e.d.v.a d.e.d.v.len d.e.d.v.cap)
 t4 : TxM B C w d.e.d.v.a d.e.d.v.len
 s6 : w.cell? ⟨g, o + 6, none⟩ = some (.slice d.e.d.t.t.a d.e.d.t.t.len d.e.d.t.t.cap)
 t6 : TxM B C w d.e.d.t.t.a d.e.d.t.t.len
 s10 : w.cell? ⟨g, o + 10, none⟩ = some (.slice d.v.a d.v.len d.v.cap)
 t10 : TxM B C w d.v.a d.v.len
 s1 : w.cell? ⟨g, o + 1, none⟩ = some (.slice d.pa d.pn d.pc)
 s9 : w.cell? ⟨g, o + 9, none⟩ = some (.slice d.e.d.ka d.e.d.n d.e.d.kc)
 s11 : w.cell? ⟨g, o + 11, none⟩ = some (.slice d.ta d.tb.length d.tc)
 s12 : w.cell? ⟨g, o + 12, none⟩ = some (.slice d.ka d.n d.kc)
 pe : PX B C w d.pa d.pn d.pat
 ke : KM B C w d.e
 te : TsX B C w d.ta d.tb.length (tbN d.tb)
theorem AM.kb {B C : Nat} {w w' : World} {g o : Nat} {d : AN} (h : AM B C w g o d) (k : KB w w') : AM B C w' g o d :=
 ⟨h.hB, h.hC, h.n0.kb k, h.n2.kb k, h.n3.kb k, h.n5.kb k, h.n7.kb k, h.n8.kb k, k.s _ _ _ _ _ h.s4, h.t4.kb k, k.s _ _ _ _ _ h.s6, h.t6.kb k, k.s _ _ _ _ _ h.s10, h.t10.kb k, k.s _ _ _ _ _ h.s1, k.s _ _ _ _ _ h.s9, k.s _ _ _ _ _ h.s11, k.s _ _ _ _ _ h.s12, h.pe.kb k, h.ke.kb k, h.te.kb k⟩
def BM (B C : Nat) (w : World) : AT → Prop
 | .nil => True
 | .mk d kid => d.n = 0 ∨ ∃ g, d.ka = some ⟨g, 0, none⟩ ∧ ∀ i, i < d.n → AM B C w g (i * 13) (kid i).d ∧ BM B C w (kid i)
theorem BM.kb {B C : Nat} {w w' : World} {e : AT} (h : BM B C w e) (k : KB w w') : BM B C w' e := by
 induction e with
 | nil => exact trivial
 | mk d kid ih =>
  rcases h with h | ⟨g, ha, hx⟩
  · exact .inl h
  exact .inr ⟨g, ha, fun i hi => ⟨(hx i hi).1.kb k, ih i (hx i hi).2⟩⟩
def AX (B C : Nat) (w : World) (a : Option Addr) (n : Nat) (kid : Nat → AT) : Prop := n = 0 ∨ ∃ g, a = some ⟨g, 0, none⟩ ∧ ∀ i, i < n → AM B C w g (i * 13) (kid i).d ∧ BM B C w (kid i)
def aF (g o : Nat) (d : AN) (M : List MC) : List MC := [(g, o, false)] ++ (patM d.pa d.pn d.pat ++ ([(g, o + 2, false)] ++ ([(g, o + 3, false)] ++ (txC d.e.d.v.a d.e.d.v.len ++ ([(g, o + 5, false)] ++ (txC d.e.d.t.t.a d.e.d.t.t.len ++ ([(g, o + 7, false)] ++ ([(g, o + 8, false)] ++ (d.e.ms ++ (txC d.v.a d.v.len ++ (termM d.ta d.tb ++ (M))))))))))))
def AT.ms : AT → List MC
 | .nil => []
 | .mk d kid => catM (fun i => aF (blk d.ka) (i * 13) (kid i).d (kid i).ms) d.n
theorem markAlgS_x (B C : Nat) (a : Option Addr) (cap n : Nat) (kid : Nat → AT) (k : Int) (w : World) (hk : 0 ≤ k) (hk2 : k + ((catM (fun i => aF (blk a) (i * 13) (kid i).d (kid i).ms) n).length : Int) ≤ 1152921504606846976) (hM : AX B C w a n kid)
 (IH : ∀ i, i < n → ∀ (W : World) (k : Int), 0 ≤ k → k + ((kid i).ms.length : Int) ≤ 1152921504606846976 → BM B C W (kid i) → Calls Tryz.prog 51 #[.slice (kid i).d.ka (kid i).d.n (kid i).d.kc, .int .i64 k] W (MkX B C W (kid i).ms k)) :
 Calls Tryz.prog 51 #[.slice a n cap, .int .i64 k] w (MkX B C w (catM (fun i => aF (blk a) (i * 13) (kid i).d (kid i).ms) n) k) := by
 by_cases h0 : n = 0
 · subst h0
   clear hM IH
   go_in
   go_wp2
   refine wp_loop_rounds 1 ?_
   rw [rounds_succ]
   go_wp2
   go_ret
   exact ⟨_, rfl, Mkd.refl _ _ _ _⟩
 rcases hM with h | ⟨g, rfl, hx⟩
 · exact absurd h h0
 change k + ((catM (fun i => aF (g) (i * 13) (kid i).d (kid i).ms) n).length : Int) ≤ 1152921504606846976 at hk2
 obtain ⟨F, hF⟩ : ∃ F : Nat → List MC, F = (fun i => aF (g) (i * 13) (kid i).d (kid i).ms) := ⟨_, rfl⟩
 have HF := iH hF
 show Calls _ _ _ w (MkX B C w (catM (fun i => aF (g) (i * 13) (kid i).d (kid i).ms) n) k)
 rw [← hF] at hk2 ⊢
 have HX := iH hx
 have HQ := iH hk2
 have HI := iH IH
 have HFL : ∀ j, (F j).length = 1 + (patM (kid j).d.pa (kid j).d.pn (kid j).d.pat).length + 1 + 1 + (kid j).d.e.d.v.len + 1 + (kid j).d.e.d.t.t.len + 1 + 1 + ((kid j).d.e.ms).length + (kid j).d.v.len + (termM (kid j).d.ta (kid j).d.tb).length + ((kid j).ms).length := fun j => by
  rw [hF]
  simp only [List.length_append, List.length_cons, List.length_nil, txC_len, Nat.zero_add, Nat.add_assoc, aF]
 have HFH := iH HFL
 have hn : n ≤ 1152921504606846976 := by
  have h := catM_ge (f := F) (fun i => by rw [HFL]; omega) n
  omega
 have HN : Hd (∀ j, j < n → (catM F j).length + (1 + (patM (kid j).d.pa (kid j).d.pn (kid j).d.pat).length + 1 + 1 + (kid j).d.e.d.v.len + 1 + (kid j).d.e.d.t.t.len + 1 + 1 + ((kid j).d.e.ms).length + (kid j).d.v.len + (termM (kid j).d.ta (kid j).d.tb).length + ((kid j).ms).length) ≤ (catM F n).length) := fun j hlt => by
  have h := catM_le (f := F) hlt
  rw [HFL] at h
  exact h
 clear HFL
 clear hk2 IH hx hF h0
 go_in
 go_wp2_with fail
 go_loopw [1, 5] (fun a b wr => ∃ (j : Nat) (m : Int), j ≤ n ∧ b = .int .i64 j ∧ a = .int .i64 m ∧ 0 ≤ m ∧ m ≤ 1152921504606846976 ∧ Hd (Mkd B C w wr (catM F j) k m))
  (fun _ b _ => n - (intOf b).toNat)
 case atStart => exact ⟨0, k, nZ, rfl, rfl, hk, by have h := HQ.o; omega, Mkd.refl _ _ _ _⟩
 obtain ⟨j, m, hj, rfl, rfl, hm0, hm1, M0⟩ := hrel
 by_cases hlt : j < n
 · have HJ := iH (HN.o j hlt)
   obtain ⟨l1, hl1⟩ : ∃ l, l = (patM (kid j).d.pa (kid j).d.pn (kid j).d.pat).length := ⟨_, rfl⟩
   rw [← hl1] at HJ
   have HL1 := iH hl1
   clear hl1
   obtain ⟨l4, hl4⟩ : ∃ l, l = (kid j).d.e.d.v.len := ⟨_, rfl⟩
   rw [← hl4] at HJ
   have HL4 := iH hl4
   clear hl4
   obtain ⟨l6, hl6⟩ : ∃ l, l = (kid j).d.e.d.t.t.len := ⟨_, rfl⟩
   rw [← hl6] at HJ
   have HL6 := iH hl6
   clear hl6
   obtain ⟨l9, hl9⟩ : ∃ l, l = ((kid j).d.e.ms).length := ⟨_, rfl⟩
   rw [← hl9] at HJ
   have HL9 := iH hl9
   clear hl9
   obtain ⟨l10, hl10⟩ : ∃ l, l = (kid j).d.v.len := ⟨_, rfl⟩
   rw [← hl10] at HJ
   have HL10 := iH hl10
   clear hl10
   obtain ⟨l11, hl11⟩ : ∃ l, l = (termM (kid j).d.ta (kid j).d.tb).length := ⟨_, rfl⟩
   rw [← hl11] at HJ
   have HL11 := iH hl11
   clear hl11
   obtain ⟨l12, hl12⟩ : ∃ l, l = ((kid j).ms).length := ⟨_, rfl⟩
   rw [← hl12] at HJ
   have HL12 := iH hl12
   clear hl12
   have HE := iH (HX.o j hlt)
   have HM := iH M0.o.q
   have G : Hd (m = m) := (show m = m from rfl)
   have hW := HE.o.1.kb M0.o.kb
   obtain ⟨⟨y0, c0⟩, f0⟩ := hW.n0
   have s1 := hW.s1
   clear hW
   have MA := fun (x0 : Int) (h0 : x0 = m) => iH (M0.o.num HE.o.1.n0.1 HE.o.1.hB HE.o.1.hC h0)
   have ub : m + 1 ≤ 1152921504606846976 := by have z := G.o; have z1 := HJ.o; have z2 := HQ.o; have z3 := HM.o; omega
   go_wp2_with fail
   refine (markPats_x B C (kid j).d.pa (kid j).d.pc (kid j).d.pn (kid j).d.pat _ _ (by omega) (by have zl := HL1.o; have z := G.o; have z1 := HJ.o; have z2 := HQ.o; have z3 := HM.o; omega) (HE.o.1.pe.kb (MA _ (by omega)).o.kb)).mono ?_
   rintro e w1 ⟨q1, rfl, hm'⟩
   obtain ⟨A1, HA1, M1⟩ : ∃ A, Hd (A = catM F j ++ [(g, j * 13, false)] ++ (patM (kid j).d.pa (kid j).d.pn (kid j).d.pat)) ∧ Hd (Mkd B C w w1 A k q1) := ⟨_, rfl, (MA _ (by omega)).o.app hm' (by omega)⟩
   have G' : Hd (q1 = m + ((1 + l1 : Nat) : Int)) := (show _ = _ by have z := G.o; have z1 := hm'.q; rw [← HL1.o] at z1; omega)
   clear G
   have G := G'
   clear G'
   clear hm' MA ub c0 f0 s1 M0
   have b1 : 0 ≤ q1 ∧ q1 ≤ 1152921504606846976 := by have z := G.o; have z1 := HJ.o; have z2 := HQ.o; have z3 := HM.o; omega
   obtain ⟨p1, u1⟩ := b1
   have hW := HE.o.1.kb M1.o.kb
   obtain ⟨⟨y2, c2⟩, f2⟩ := hW.n2
   obtain ⟨⟨y3, c3⟩, f3⟩ := hW.n3
   have s4 := hW.s4
   clear hW
   have MA := fun (x0 : Int) (x1 : Int) (h0 : x0 = q1) (h1 : x1 = q1 + 1) => iH ((M1.o.num HE.o.1.n2.1 HE.o.1.hB HE.o.1.hC h0).num HE.o.1.n3.1 HE.o.1.hB HE.o.1.hC h1)
   have ub : q1 + 2 ≤ 1152921504606846976 := by have z := G.o; have z1 := HJ.o; have z2 := HQ.o; have z3 := HM.o; omega
   go_wp2_with fail
   refine (markText_x B C (kid j).d.e.d.v.a (kid j).d.e.d.v.len (kid j).d.e.d.v.cap _ _ (HE.o.1.t4.kb (MA _ _ (by omega) (by omega)).o.kb) (by omega) (by omega)).mono ?_
   rintro e w2 ⟨q2, rfl, hm'⟩
   obtain ⟨A2, HA2, M2⟩ : ∃ A, Hd (A = A1 ++ [(g, j * 13 + 2, false)] ++ [(g, j * 13 + 3, false)] ++ txC (kid j).d.e.d.v.a (kid j).d.e.d.v.len) ∧ Hd (Mkd B C w w2 A k q2) := ⟨_, rfl, (MA _ _ (by omega) (by omega)).o.app hm' (by omega)⟩
   have G' : Hd (q2 = m + ((1 + l1 + 1 + 1 + l4 : Nat) : Int)) := (show _ = _ by have z := G.o; have z1 := hm'.q; rw [txC_len, ← HL4.o] at z1; omega)
   clear G
   have G := G'
   clear G'
   clear hm' MA ub c2 f2 c3 f3 s4 M1 p1 u1
   have b2 : 0 ≤ q2 ∧ q2 ≤ 1152921504606846976 := by have z := G.o; have z1 := HJ.o; have z2 := HQ.o; have z3 := HM.o; omega
   obtain ⟨p2, u2⟩ := b2
   have hW := HE.o.1.kb M2.o.kb
   obtain ⟨⟨y5, c5⟩, f5⟩ := hW.n5
   have s6 := hW.s6
   clear hW
   have MA := fun (x0 : Int) (h0 : x0 = q2) => iH (M2.o.num HE.o.1.n5.1 HE.o.1.hB HE.o.1.hC h0)
   have ub : q2 + 1 ≤ 1152921504606846976 := by have z := G.o; have z1 := HJ.o; have z2 := HQ.o; have z3 := HM.o; omega
   go_wp2_with fail
   refine (markText_x B C (kid j).d.e.d.t.t.a (kid j).d.e.d.t.t.len (kid j).d.e.d.t.t.cap _ _ (HE.o.1.t6.kb (MA _ (by omega)).o.kb) (by omega) (by omega)).mono ?_
   rintro e w3 ⟨q3, rfl, hm'⟩
   obtain ⟨A3, HA3, M3⟩ : ∃ A, Hd (A = A2 ++ [(g, j * 13 + 5, false)] ++ txC (kid j).d.e.d.t.t.a (kid j).d.e.d.t.t.len) ∧ Hd (Mkd B C w w3 A k q3) := ⟨_, rfl, (MA _ (by omega)).o.app hm' (by omega)⟩
   have G' : Hd (q3 = m + ((1 + l1 + 1 + 1 + l4 + 1 + l6 : Nat) : Int)) := (show _ = _ by have z := G.o; have z1 := hm'.q; rw [txC_len, ← HL6.o] at z1; omega)
   clear G
   have G := G'
   clear G'
   clear hm' MA ub c5 f5 s6 M2 p2 u2
   have b3 : 0 ≤ q3 ∧ q3 ≤ 1152921504606846976 := by have z := G.o; have z1 := HJ.o; have z2 := HQ.o; have z3 := HM.o; omega
   obtain ⟨p3, u3⟩ := b3
   have hW := HE.o.1.kb M3.o.kb
   obtain ⟨⟨y7, c7⟩, f7⟩ := hW.n7
   obtain ⟨⟨y8, c8⟩, f8⟩ := hW.n8
   have s9 := hW.s9
   clear hW
   have MA := fun (x0 : Int) (x1 : Int) (h0 : x0 = q3) (h1 : x1 = q3 + 1) => iH ((M3.o.num HE.o.1.n7.1 HE.o.1.hB HE.o.1.hC h0).num HE.o.1.n8.1 HE.o.1.hB HE.o.1.hC h1)
   have ub : q3 + 2 ≤ 1152921504606846976 := by have z := G.o; have z1 := HJ.o; have z2 := HQ.o; have z3 := HM.o; omega
   go_wp2_with fail
   refine (markKids_x B C (kid j).d.e _ _ (by omega) (by have zl := HL9.o; have z := G.o; have z1 := HJ.o; have z2 := HQ.o; have z3 := HM.o; omega) (HE.o.1.ke.kb (MA _ _ (by omega) (by omega)).o.kb)).mono ?_
   rintro e w4 ⟨q4, rfl, hm'⟩
   obtain ⟨A4, HA4, M4⟩ : ∃ A, Hd (A = A3 ++ [(g, j * 13 + 7, false)] ++ [(g, j * 13 + 8, false)] ++ (kid j).d.e.ms) ∧ Hd (Mkd B C w w4 A k q4) := ⟨_, rfl, (MA _ _ (by omega) (by omega)).o.app hm' (by omega)⟩
   have G' : Hd (q4 = m + ((1 + l1 + 1 + 1 + l4 + 1 + l6 + 1 + 1 + l9 : Nat) : Int)) := (show _ = _ by have z := G.o; have z1 := hm'.q; rw [← HL9.o] at z1; omega)
   clear G
   have G := G'
   clear G'
   clear hm' MA ub c7 f7 c8 f8 s9 M3 p3 u3
   have b4 : 0 ≤ q4 ∧ q4 ≤ 1152921504606846976 := by have z := G.o; have z1 := HJ.o; have z2 := HQ.o; have z3 := HM.o; omega
   obtain ⟨p4, u4⟩ := b4
   have hW := HE.o.1.kb M4.o.kb
   have s10 := hW.s10
   clear hW
   go_wp2_with fail
   refine (markText_x B C (kid j).d.v.a (kid j).d.v.len (kid j).d.v.cap _ _ (HE.o.1.t10.kb M4.o.kb) (by omega) (by omega)).mono ?_
   rintro e w5 ⟨q5, rfl, hm'⟩
   obtain ⟨A5, HA5, M5⟩ : ∃ A, Hd (A = A4 ++ txC (kid j).d.v.a (kid j).d.v.len) ∧ Hd (Mkd B C w w5 A k q5) := ⟨_, rfl, M4.o.app hm' (by omega)⟩
   have G' : Hd (q5 = m + ((1 + l1 + 1 + 1 + l4 + 1 + l6 + 1 + 1 + l9 + l10 : Nat) : Int)) := (show _ = _ by have z := G.o; have z1 := hm'.q; rw [txC_len, ← HL10.o] at z1; omega)
   clear G
   have G := G'
   clear G'
   clear hm' s10 M4 p4 u4
   have b5 : 0 ≤ q5 ∧ q5 ≤ 1152921504606846976 := by have z := G.o; have z1 := HJ.o; have z2 := HQ.o; have z3 := HM.o; omega
   obtain ⟨p5, u5⟩ := b5
   have hW := HE.o.1.kb M5.o.kb
   have s11 := hW.s11
   clear hW
   go_wp2_with fail
   refine (markTerms_x B C (kid j).d.ta (kid j).d.tc (kid j).d.tb _ _ (by omega) (by have zl := HL11.o; have z := G.o; have z1 := HJ.o; have z2 := HQ.o; have z3 := HM.o; omega) (HE.o.1.te.kb M5.o.kb)).mono ?_
   rintro e w6 ⟨q6, rfl, hm'⟩
   obtain ⟨A6, HA6, M6⟩ : ∃ A, Hd (A = A5 ++ (termM (kid j).d.ta (kid j).d.tb)) ∧ Hd (Mkd B C w w6 A k q6) := ⟨_, rfl, M5.o.app hm' (by omega)⟩
   have G' : Hd (q6 = m + ((1 + l1 + 1 + 1 + l4 + 1 + l6 + 1 + 1 + l9 + l10 + l11 : Nat) : Int)) := (show _ = _ by have z := G.o; have z1 := hm'.q; rw [← HL11.o] at z1; omega)
   clear G
   have G := G'
   clear G'
   clear hm' s11 M5 p5 u5
   have b6 : 0 ≤ q6 ∧ q6 ≤ 1152921504606846976 := by have z := G.o; have z1 := HJ.o; have z2 := HQ.o; have z3 := HM.o; omega
   obtain ⟨p6, u6⟩ := b6
   have hW := HE.o.1.kb M6.o.kb
   have s12 := hW.s12
   clear hW
   go_wp2_with fail
   refine (HI.o j hlt _ _ (by omega) (by have zl := HL12.o; have z := G.o; have z1 := HJ.o; have z2 := HQ.o; have z3 := HM.o; omega) (HE.o.2.kb M6.o.kb)).mono ?_
   rintro e w7 ⟨q7, rfl, hm'⟩
   obtain ⟨A7, HA7, M7⟩ : ∃ A, Hd (A = A6 ++ (kid j).ms) ∧ Hd (Mkd B C w w7 A k q7) := ⟨_, rfl, M6.o.app hm' (by omega)⟩
   have G' : Hd (q7 = m + ((1 + l1 + 1 + 1 + l4 + 1 + l6 + 1 + 1 + l9 + l10 + l11 + l12 : Nat) : Int)) := (show _ = _ by have z := G.o; have z1 := hm'.q; rw [← HL12.o] at z1; omega)
   clear G
   have G := G'
   clear G'
   clear hm' s12 M6 p6 u6
   have b7 : 0 ≤ q7 ∧ q7 ≤ 1152921504606846976 := by have z := G.o; have z1 := HJ.o; have z2 := HQ.o; have z3 := HM.o; omega
   obtain ⟨p7, u7⟩ := b7
   have MB := iH (M7.o.cast (A' := catM F j ++ F j) (by rw [show F j = _ from congrFun HF.o j, HA7.o, HA6.o, HA5.o, HA4.o, HA3.o, HA2.o, HA1.o]; simp only [List.append_assoc]; first | done | rfl))
   go_wp2
   go_roundw
   case rel =>
    refine ⟨j + 1, _, by omega, by go_num, rfl, by omega, by omega, ?_⟩
    show Mkd B C w _ (catM F j ++ F j) k _
    exact MB.o.idx (by omega)
   case measure => simp [intOf]; omega
 obtain rfl : j = n := by omega
 go_wp2
 go_ret
 exact ⟨m, rfl, M0.o⟩
theorem markAlgS_t (B C : Nat) (e : AT) : ∀ (w : World) (k : Int), 0 ≤ k → k + (e.ms.length : Int) ≤ 1152921504606846976 → BM B C w e →
 Calls Tryz.prog 51 #[.slice e.d.ka e.d.n e.d.kc, .int .i64 k] w (MkX B C w e.ms k) := by
 induction e with
 | nil => exact fun w k hk hk2 _ => markAlgS_x B C _ _ 0 (fun _ => .nil) k w hk hk2 (.inl rfl) (fun i hi => absurd hi nN)
 | mk d kid ih => exact fun w k hk hk2 hM => markAlgS_x B C d.ka d.kc d.n kid k w hk hk2 hM fun i hi W k' h1 h2 h3 => ih i W k' h1 h2 h3
theorem heldAlgS_x (B C : Nat) (a : Option Addr) (cap n : Nat) (kid : Nat → AT) (k : Int) (w : World) (hk : 0 ≤ k) (hk2 : k + ((catM (fun i => aF (blk a) (i * 13) (kid i).d (kid i).ms) n).length : Int) ≤ 1152921504606846976) (hM : AX B C w a n kid)
 (IH : ∀ i, i < n → ∀ (k : Int) (W : World), 0 ≤ k → k + ((kid i).ms.length : Int) ≤ 1152921504606846976 → BM B C W (kid i) → Hl W (kid i).ms k → Calls Tryz.prog 67 #[.slice (kid i).d.ka (kid i).d.n (kid i).d.kc, .int .i64 k] W (HdX W (kid i).ms k))
 (hH : Hl w (catM (fun i => aF (blk a) (i * 13) (kid i).d (kid i).ms) n) k) :
 Calls Tryz.prog 67 #[.slice a n cap, .int .i64 k] w (HdX w (catM (fun i => aF (blk a) (i * 13) (kid i).d (kid i).ms) n) k) := by
 by_cases h0 : n = 0
 · subst h0
   clear hM IH hH
   go_in
   go_wp2
   refine wp_loop_rounds 1 ?_
   rw [rounds_succ]
   go_wp2
   go_ret
   exact ⟨_, rfl, (show k = k + ((0 : Nat) : Int) by simp), rfl⟩
 rcases hM with h | ⟨g, rfl, hx⟩
 · exact absurd h h0
 change k + ((catM (fun i => aF (g) (i * 13) (kid i).d (kid i).ms) n).length : Int) ≤ 1152921504606846976 at hk2
 obtain ⟨F, hF⟩ : ∃ F : Nat → List MC, F = (fun i => aF (g) (i * 13) (kid i).d (kid i).ms) := ⟨_, rfl⟩
 have HF := iH hF
 show Calls _ _ _ w (HdX w (catM (fun i => aF (g) (i * 13) (kid i).d (kid i).ms) n) k)
 rw [← hF] at hk2 ⊢
 have HX := iH hx
 have HQ := iH hk2
 have HI := iH IH
 have HH : Hd (Hl w (catM F n) k) := (show Hl _ _ _ by rw [hF]; exact hH)
 have HFL : ∀ j, (F j).length = 1 + (patM (kid j).d.pa (kid j).d.pn (kid j).d.pat).length + 1 + 1 + (kid j).d.e.d.v.len + 1 + (kid j).d.e.d.t.t.len + 1 + 1 + ((kid j).d.e.ms).length + (kid j).d.v.len + (termM (kid j).d.ta (kid j).d.tb).length + ((kid j).ms).length := fun j => by
  rw [hF]
  simp only [List.length_append, List.length_cons, List.length_nil, txC_len, Nat.zero_add, Nat.add_assoc, aF]
 have HFH := iH HFL
 have hn : n ≤ 1152921504606846976 := by
  have h := catM_ge (f := F) (fun i => by rw [HFL]; omega) n
  omega
 have HN : Hd (∀ j, j < n → (catM F j).length + (1 + (patM (kid j).d.pa (kid j).d.pn (kid j).d.pat).length + 1 + 1 + (kid j).d.e.d.v.len + 1 + (kid j).d.e.d.t.t.len + 1 + 1 + ((kid j).d.e.ms).length + (kid j).d.v.len + (termM (kid j).d.ta (kid j).d.tb).length + ((kid j).ms).length) ≤ (catM F n).length) := fun j hlt => by
  have h := catM_le (f := F) hlt
  rw [HFL] at h
  exact h
 clear HFL
 clear hk2 IH hx hF h0 hH
 go_in
 go_wp2_with fail
 go_loop [1, 5] (fun a b => ∃ (j : Nat) (m : Int), j ≤ n ∧ b = .int .i64 j ∧ a = .int .i64 m ∧ 0 ≤ m ∧ m ≤ 1152921504606846976 ∧ Hd (m = k + ((catM F j).length : Int)))
  (fun _ b => n - (intOf b).toNat)
 case atStart => exact ⟨0, k, nZ, rfl, rfl, hk, by have h := HQ.o; omega, (show k = k + ((0 : Nat) : Int) by simp)⟩
 obtain ⟨j, m, hj, rfl, rfl, hm0, hm1, M0⟩ := hrel
 by_cases hlt : j < n
 · have HJ := iH (HN.o j hlt)
   obtain ⟨l1, hl1⟩ : ∃ l, l = (patM (kid j).d.pa (kid j).d.pn (kid j).d.pat).length := ⟨_, rfl⟩
   rw [← hl1] at HJ
   have HL1 := iH hl1
   clear hl1
   obtain ⟨l4, hl4⟩ : ∃ l, l = (kid j).d.e.d.v.len := ⟨_, rfl⟩
   rw [← hl4] at HJ
   have HL4 := iH hl4
   clear hl4
   obtain ⟨l6, hl6⟩ : ∃ l, l = (kid j).d.e.d.t.t.len := ⟨_, rfl⟩
   rw [← hl6] at HJ
   have HL6 := iH hl6
   clear hl6
   obtain ⟨l9, hl9⟩ : ∃ l, l = ((kid j).d.e.ms).length := ⟨_, rfl⟩
   rw [← hl9] at HJ
   have HL9 := iH hl9
   clear hl9
   obtain ⟨l10, hl10⟩ : ∃ l, l = (kid j).d.v.len := ⟨_, rfl⟩
   rw [← hl10] at HJ
   have HL10 := iH hl10
   clear hl10
   obtain ⟨l11, hl11⟩ : ∃ l, l = (termM (kid j).d.ta (kid j).d.tb).length := ⟨_, rfl⟩
   rw [← hl11] at HJ
   have HL11 := iH hl11
   clear hl11
   obtain ⟨l12, hl12⟩ : ∃ l, l = ((kid j).ms).length := ⟨_, rfl⟩
   rw [← hl12] at HJ
   have HL12 := iH hl12
   clear hl12
   have HE := iH (HX.o j hlt)
   have hl := HH.o.cat hlt m M0.o
   rw [show F j = _ from congrFun HF.o j] at hl
   unfold aF at hl
   have G : Hd (m = m) := (show m = m from rfl)
   obtain ⟨e0, hl⟩ := hl.num
   have s1 := HE.o.1.s1
   have ub : m + 1 ≤ 1152921504606846976 := by have z := G.o; have z1 := HJ.o; have z2 := HQ.o; have z3 := M0.o; omega
   obtain ⟨ht, hr⟩ := hl.app
   have HR := iH hr
   clear hr
   have HT : Hd (∀ q, q = m + 1 → Hl w _ q) := fun q hq => (show Hl w _ q by rw [hq]; exact ht)
   clear hl ht
   go_wp2_with fail
   refine (heldPats_x B C (kid j).d.pa (kid j).d.pc (kid j).d.pn (kid j).d.pat _ w (by omega) (by have zl := HL1.o; have z := G.o; have z1 := HJ.o; have z2 := HQ.o; have z3 := M0.o; omega) HE.o.1.pe (HT.o _ (by omega))).mono ?_
   rintro e w' ⟨q1, rfl, HQ1, hw'⟩
   subst w'
   have G' : Hd (q1 = m + ((1 + l1 : Nat) : Int)) := (show _ = _ by have z := G.o; have z1 := HQ1.o; rw [← HL1.o] at z1; omega)
   have hl := HR.o q1 (by have z1 := HQ1.o; omega)
   clear G HT HR HQ1 s1 e0 ub
   have G := G'
   clear G'
   have b1 : 0 ≤ q1 ∧ q1 ≤ 1152921504606846976 := by have z := G.o; have z1 := HJ.o; have z2 := HQ.o; have z3 := M0.o; omega
   obtain ⟨p1, u1⟩ := b1
   obtain ⟨e2, hl⟩ := hl.num
   obtain ⟨e3, hl⟩ := hl.num
   have s4 := HE.o.1.s4
   have ub : q1 + 2 ≤ 1152921504606846976 := by have z := G.o; have z1 := HJ.o; have z2 := HQ.o; have z3 := M0.o; omega
   obtain ⟨ht, hr⟩ := hl.app
   have HR := iH hr
   clear hr
   have HT : Hd (∀ q, q = q1 + 1 + 1 → Hl w _ q) := fun q hq => (show Hl w _ q by rw [hq]; exact ht)
   clear hl ht
   go_wp2_with fail
   refine (heldText_x (kid j).d.e.d.v.a (kid j).d.e.d.v.len (kid j).d.e.d.v.cap _ w (TxM.form HE.o.1.t4) (HT.o _ (by omega)) (by omega) (by omega) HE.o.1.t4.1).mono ?_
   rintro e w' ⟨q2, rfl, HQ2, hw'⟩
   subst w'
   have G' : Hd (q2 = m + ((1 + l1 + 1 + 1 + l4 : Nat) : Int)) := (show _ = _ by have z := G.o; have z1 := HQ2.o; rw [txC_len, ← HL4.o] at z1; omega)
   have hl := HR.o q2 (by have z1 := HQ2.o; omega)
   clear G HT HR HQ2 s4 e2 e3 ub p1 u1
   have G := G'
   clear G'
   have b2 : 0 ≤ q2 ∧ q2 ≤ 1152921504606846976 := by have z := G.o; have z1 := HJ.o; have z2 := HQ.o; have z3 := M0.o; omega
   obtain ⟨p2, u2⟩ := b2
   obtain ⟨e5, hl⟩ := hl.num
   have s6 := HE.o.1.s6
   have ub : q2 + 1 ≤ 1152921504606846976 := by have z := G.o; have z1 := HJ.o; have z2 := HQ.o; have z3 := M0.o; omega
   obtain ⟨ht, hr⟩ := hl.app
   have HR := iH hr
   clear hr
   have HT : Hd (∀ q, q = q2 + 1 → Hl w _ q) := fun q hq => (show Hl w _ q by rw [hq]; exact ht)
   clear hl ht
   go_wp2_with fail
   refine (heldText_x (kid j).d.e.d.t.t.a (kid j).d.e.d.t.t.len (kid j).d.e.d.t.t.cap _ w (TxM.form HE.o.1.t6) (HT.o _ (by omega)) (by omega) (by omega) HE.o.1.t6.1).mono ?_
   rintro e w' ⟨q3, rfl, HQ3, hw'⟩
   subst w'
   have G' : Hd (q3 = m + ((1 + l1 + 1 + 1 + l4 + 1 + l6 : Nat) : Int)) := (show _ = _ by have z := G.o; have z1 := HQ3.o; rw [txC_len, ← HL6.o] at z1; omega)
   have hl := HR.o q3 (by have z1 := HQ3.o; omega)
   clear G HT HR HQ3 s6 e5 ub p2 u2
   have G := G'
   clear G'
   have b3 : 0 ≤ q3 ∧ q3 ≤ 1152921504606846976 := by have z := G.o; have z1 := HJ.o; have z2 := HQ.o; have z3 := M0.o; omega
   obtain ⟨p3, u3⟩ := b3
   obtain ⟨e7, hl⟩ := hl.num
   obtain ⟨e8, hl⟩ := hl.num
   have s9 := HE.o.1.s9
   have ub : q3 + 2 ≤ 1152921504606846976 := by have z := G.o; have z1 := HJ.o; have z2 := HQ.o; have z3 := M0.o; omega
   obtain ⟨ht, hr⟩ := hl.app
   have HR := iH hr
   clear hr
   have HT : Hd (∀ q, q = q3 + 1 + 1 → Hl w _ q) := fun q hq => (show Hl w _ q by rw [hq]; exact ht)
   clear hl ht
   go_wp2_with fail
   refine (heldKids_x B C (kid j).d.e _ w (by omega) (by have zl := HL9.o; have z := G.o; have z1 := HJ.o; have z2 := HQ.o; have z3 := M0.o; omega) HE.o.1.ke (HT.o _ (by omega))).mono ?_
   rintro e w' ⟨q4, rfl, HQ4, hw'⟩
   subst w'
   have G' : Hd (q4 = m + ((1 + l1 + 1 + 1 + l4 + 1 + l6 + 1 + 1 + l9 : Nat) : Int)) := (show _ = _ by have z := G.o; have z1 := HQ4.o; rw [← HL9.o] at z1; omega)
   have hl := HR.o q4 (by have z1 := HQ4.o; omega)
   clear G HT HR HQ4 s9 e7 e8 ub p3 u3
   have G := G'
   clear G'
   have b4 : 0 ≤ q4 ∧ q4 ≤ 1152921504606846976 := by have z := G.o; have z1 := HJ.o; have z2 := HQ.o; have z3 := M0.o; omega
   obtain ⟨p4, u4⟩ := b4
   have s10 := HE.o.1.s10
   obtain ⟨ht, hr⟩ := hl.app
   have HR := iH hr
   clear hr
   have HT : Hd (∀ q, q = q4 → Hl w _ q) := fun q hq => (show Hl w _ q by rw [hq]; exact ht)
   clear hl ht
   go_wp2_with fail
   refine (heldText_x (kid j).d.v.a (kid j).d.v.len (kid j).d.v.cap _ w (TxM.form HE.o.1.t10) (HT.o _ (by omega)) (by omega) (by omega) HE.o.1.t10.1).mono ?_
   rintro e w' ⟨q5, rfl, HQ5, hw'⟩
   subst w'
   have G' : Hd (q5 = m + ((1 + l1 + 1 + 1 + l4 + 1 + l6 + 1 + 1 + l9 + l10 : Nat) : Int)) := (show _ = _ by have z := G.o; have z1 := HQ5.o; rw [txC_len, ← HL10.o] at z1; omega)
   have hl := HR.o q5 (by have z1 := HQ5.o; omega)
   clear G HT HR HQ5 s10  p4 u4
   have G := G'
   clear G'
   have b5 : 0 ≤ q5 ∧ q5 ≤ 1152921504606846976 := by have z := G.o; have z1 := HJ.o; have z2 := HQ.o; have z3 := M0.o; omega
   obtain ⟨p5, u5⟩ := b5
   have s11 := HE.o.1.s11
   obtain ⟨ht, hr⟩ := hl.app
   have HR := iH hr
   clear hr
   have HT : Hd (∀ q, q = q5 → Hl w _ q) := fun q hq => (show Hl w _ q by rw [hq]; exact ht)
   clear hl ht
   go_wp2_with fail
   refine (heldTerms_x B C (kid j).d.ta (kid j).d.tc (kid j).d.tb _ w (by omega) (by have zl := HL11.o; have z := G.o; have z1 := HJ.o; have z2 := HQ.o; have z3 := M0.o; omega) HE.o.1.te (HT.o _ (by omega))).mono ?_
   rintro e w' ⟨q6, rfl, HQ6, hw'⟩
   subst w'
   have G' : Hd (q6 = m + ((1 + l1 + 1 + 1 + l4 + 1 + l6 + 1 + 1 + l9 + l10 + l11 : Nat) : Int)) := (show _ = _ by have z := G.o; have z1 := HQ6.o; rw [← HL11.o] at z1; omega)
   have hl := HR.o q6 (by have z1 := HQ6.o; omega)
   clear G HT HR HQ6 s11  p5 u5
   have G := G'
   clear G'
   have b6 : 0 ≤ q6 ∧ q6 ≤ 1152921504606846976 := by have z := G.o; have z1 := HJ.o; have z2 := HQ.o; have z3 := M0.o; omega
   obtain ⟨p6, u6⟩ := b6
   have s12 := HE.o.1.s12
   have ht := hl
   have HT : Hd (∀ q, q = q6 → Hl w _ q) := fun q hq => (show Hl w _ q by rw [hq]; exact ht)
   clear ht hl
   go_wp2_with fail
   refine (HI.o j hlt _ w (by omega) (by have zl := HL12.o; have z := G.o; have z1 := HJ.o; have z2 := HQ.o; have z3 := M0.o; omega) HE.o.2 (HT.o _ (by omega))).mono ?_
   rintro e w' ⟨q7, rfl, HQ7, hw'⟩
   subst w'
   have G' : Hd (q7 = m + ((1 + l1 + 1 + 1 + l4 + 1 + l6 + 1 + 1 + l9 + l10 + l11 + l12 : Nat) : Int)) := (show _ = _ by have z := G.o; have z1 := HQ7.o; rw [← HL12.o] at z1; omega)
   clear G HT HQ7 s12  p6 u6
   have G := G'
   clear G'
   have b7 : 0 ≤ q7 ∧ q7 ≤ 1152921504606846976 := by have z := G.o; have z1 := HJ.o; have z2 := HQ.o; have z3 := M0.o; omega
   obtain ⟨p7, u7⟩ := b7
   go_wp2
   go_round
   case rel =>
    refine ⟨j + 1, _, by omega, by go_num, rfl, by omega, by omega, ?_⟩
    show _ = k + (((catM F j ++ F j).length : Nat) : Int)
    rw [List.length_append, HFH.o j, ← HL1.o, ← HL4.o, ← HL6.o, ← HL9.o, ← HL10.o, ← HL11.o, ← HL12.o]
    have z := G.o
    have z3 := M0.o
    omega
   case measure => simp [intOf]; omega
 obtain rfl : j = n := by omega
 go_wp2
 go_ret
 exact ⟨m, rfl, M0.o, rfl⟩
theorem heldAlgS_t (B C : Nat) (e : AT) : ∀ (k : Int) (w : World), 0 ≤ k → k + (e.ms.length : Int) ≤ 1152921504606846976 → BM B C w e → Hl w e.ms k →
 Calls Tryz.prog 67 #[.slice e.d.ka e.d.n e.d.kc, .int .i64 k] w (HdX w e.ms k) := by
 induction e with
 | nil => exact fun k w hk hk2 _ _ => heldAlgS_x B C _ _ 0 (fun _ => .nil) k w hk hk2 (.inl rfl) (fun i hi => absurd hi nN) trivial
 | mk d kid ih => exact fun k w hk hk2 hM hH => heldAlgS_x B C d.ka d.kc d.n kid k w hk hk2 hM (fun i hi k' W h1 h2 h3 h4 => ih i k' W h1 h2 h3 h4) hH
end Go.Proofs.YtoloadogihbdeaaGreat
