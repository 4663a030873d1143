/- Texts put together: RdW RdX RdY RdZ ReA -/
import Derived.Test.YtoclingolfdfeaaGreatDoorMk23
import Derived.Defers
import Derived.Recover
import Derived.Laws.Pointers
/- RdW -/
namespace Go.Proofs.YtoclingolfdfeaaGreatDoor
open Go.RowKit Go.Deep Go.Sort Go.Lib
set_option maxRecDepth 100000

set_option maxHeartbeats 16000000 in
theorem compactG (B g n cap : Nat) (l0 : List G1) (w : World) (hO : OwnG w B (.slice (some ⟨g, 0, none⟩) n cap) l0) (hn : n ≤ 1000000) (h0 : l0 ≠ [])
    (hg : ∀ y ∈ l0, y.good ∧ ∀ W, Below B w W → y.lies W) (hf : ∀ y ∈ l0, fine3 y.td3) (hs : (l0.map G1.td3).Pairwise (fun x y => cmpD x y ≤ 0)) :
    Calls Tryz.prog 43 #[.slice (some ⟨g, 0, none⟩) n cap, .func (.func 44) #[] #[]] w fun e w' => ∃ (r : List G1) (n' : Nat), e = .returned (.slice (some ⟨g, 0, none⟩) n' cap) ∧ OwnG w' B (.slice (some ⟨g, 0, none⟩) n' cap) r ∧ Below B w w' ∧ CmpG l0 n r := by
  have mixed : Tryz.prog.follows .mixedOrders = true := by kernel_rfl
  obtain ⟨_, _, hnc, hcm, _, _, hnl, hBg, hgw⟩ := ownG_cells hO
  have HG : Hid (∀ y ∈ l0, y.good ∧ ∀ W, Below B w W → y.lies W) := hg
  have HGD : Hid (∀ y ∈ l0, fine3 y.td3) := hf
  have HSO : Hid (∀ i x x', l0[i]? = some x' → l0[i + 1]? = some x → cmpD x'.td3 x.td3 ≤ 0) := by
    intro i x x' h1 h2
    obtain ⟨h1', rfl⟩ := List.getElem?_eq_some_iff.1 h1
    obtain ⟨h2', rfl⟩ := List.getElem?_eq_some_iff.1 h2
    have := List.pairwise_iff_getElem.1 hs i (i + 1) (by simpa using h1') (by simpa using h2') (by omega)
    simpa using this
  have HNL : Hid (n = l0.length) := hnl
  have HO0 : Hid (OwnG w B (.slice (some ⟨g, 0, none⟩) n cap) l0) := hO
  have hn1 : 1 ≤ n := by
    have : 0 < l0.length := List.length_pos_iff.2 h0
    omega
  obtain ⟨x0, hx0⟩ : ∃ x, l0[0]? = some x := ⟨l0[0], List.getElem?_eq_getElem (by omega)⟩
  have HC1 : Hid (CmpG l0 1 (l0.take 1)) := CmpG.one hx0
  have HAT : Hid (∀ i, i < n → ∃ x, l0[i]? = some x) := fun i hi => ⟨l0[i], List.getElem?_eq_getElem (by omega)⟩
  have HCM : Hid (∀ x ∈ l0, ∀ y ∈ l0, ∀ W, Below B w W → Calls Tryz.prog 44 #[.agg (eG x).toArray, .agg (eG y).toArray] W fun e w' => e = .returned (.bool (decide (cmpD x.td3 y.td3 = 0))) ∧ ∃ q os, w' = grow (W.drewN q) os) := fun x hx y hy W hW =>
    (isSame_g1 x y W (hg x hx).1 (hg y hy).1 ((hg x hx).2 W hW) ((hg y hy).2 W hW)).mono fun _ _ h => ⟨h.1, h.2.grown⟩
  have HBW : Hid (∀ W, Below B w W → ∀ n os, Below B w (grow (W.drewN n) os)) := fun W hW n os => below_grownG hW (by have := hW.size; omega) n os
  clear hO hg hf hs hnl h0 hx0
  have hncz : (n : Int) ≤ (cap : Int) := by omega
  by_cases hn2 : n < 2
  · have hn2z : (n : Int) < 2 := by omega
    go_enter Tryz.func43, Tryz.ntmps43
    go_wp2
    go_ret
    have e1 : n = 1 := by omega
    have := HC1.out
    rw [List.take_of_length_le (by rw [← HNL.out]; omega)] at this
    exact ⟨l0, n, rfl, HO0.out, Below.refl _ _, by rw [e1]; exact this⟩
  · have hn2z : ¬ (n : Int) < 2 := by omega
    go_enter Tryz.func43, Tryz.ntmps43
    go_wp2
    go_loopg [5] (n - 1) (fun g1 v5 wr => ∃ k : Nat, v5 = .int .i64 k ∧ 1 ≤ k ∧ k ≤ n ∧ n - k ≤ g1 ∧ Hid (OwnG wr B (.slice (some ⟨g, 0, none⟩) n cap) l0) ∧ Hid (Below B w wr) ∧ Hid (CmpG l0 k (l0.take k)))
    case atStart => exact ⟨1, rfl, by omega, hn1, by omega, HO0, Below.refl _ _, HC1⟩
    case round =>
      obtain ⟨k, rfl, hk1, hkn, hg1, HO, HB, HC⟩ := hrel
      by_cases hlt : k < n
      · obtain ⟨kp, rfl⟩ : ∃ kp, k = kp + 1 := ⟨k - 1, by omega⟩
        have hltz : (kp : Int) + 1 < (n : Int) := by omega
        obtain ⟨x, hx⟩ := HAT.out (kp + 1) hlt
        obtain ⟨y, hy⟩ := HAT.out kp (by omega)
        have HX : Hid (l0[kp + 1]? = some x) := hx
        have HY : Hid (l0[kp]? = some y) := hy
        have hcg := fun n os => HCM.out x (List.mem_of_getElem? hx) y (List.mem_of_getElem? hy) (grow (wr.drewN n) os) (HBW.out wr HB.out n os)
        have hwp : IntKind.i64.wrap (kp : Int) = (kp : Int) := by rw [IntKind.wrap_i64]; omega
        have jz1 : (kp : Int) < (n : Int) := by omega
        have p0 : (0 : Int) ≤ (kp : Int) + 1 := by omega
        have e0 : ((kp : Int) + 1).toNat = kp + 1 := by omega
        have hL := fun n os => ownG_at (ownG_grown HO.out n os) (kp + 1) x hx
        have hP := fun n os => ownG_at (ownG_grown HO.out n os) kp y hy
        have m0 := fun n os => (hL n os).1
        have m1 := fun n os => (hL n os).2.1
        have m2 := fun n os => (hL n os).2.2.1
        have m3 := fun n os => (hL n os).2.2.2.1
        have m4 := fun n os => (hL n os).2.2.2.2.1
        have m5 := fun n os => (hL n os).2.2.2.2.2.1
        have m6 := fun n os => (hL n os).2.2.2.2.2.2.1
        have m7 := fun n os => (hL n os).2.2.2.2.2.2.2.1
        have m8 := fun n os => (hL n os).2.2.2.2.2.2.2.2.1
        have m9 := fun n os => (hL n os).2.2.2.2.2.2.2.2.2.1
        have m10 := fun n os => (hL n os).2.2.2.2.2.2.2.2.2.2.1
        have m11 := fun n os => (hL n os).2.2.2.2.2.2.2.2.2.2.2
        have q0 := fun n os => (hP n os).1
        have q1 := fun n os => (hP n os).2.1
        have q2 := fun n os => (hP n os).2.2.1
        have q3 := fun n os => (hP n os).2.2.2.1
        have q4 := fun n os => (hP n os).2.2.2.2.1
        have q5 := fun n os => (hP n os).2.2.2.2.2.1
        have q6 := fun n os => (hP n os).2.2.2.2.2.2.1
        have q7 := fun n os => (hP n os).2.2.2.2.2.2.2.1
        have q8 := fun n os => (hP n os).2.2.2.2.2.2.2.2.1
        have q9 := fun n os => (hP n os).2.2.2.2.2.2.2.2.2.1
        have q10 := fun n os => (hP n os).2.2.2.2.2.2.2.2.2.2.1
        have q11 := fun n os => (hP n os).2.2.2.2.2.2.2.2.2.2.2
        clear hL hP
        clear hx hy
        by_cases hq : cmpD x.td3 y.td3 = 0
        · have hqd : decide (cmpD x.td3 y.td3 = 0) = true := decide_eq_true hq
          have HQ : Hid (cmpD x.td3 y.td3 = 0) := hq
          rw [hqd] at hcg
          clear hq hqd
          go_wp2_with fail
          go_quiet_grown (first | (go_at_call 44; refine Calls.grown_of (hcg _ _)))
          have HO2 : Hid (OwnG (grow (wr.drewN nq) osq) B (.slice (some ⟨g, 0, none⟩) n cap) l0) := ownG_grown HO.out nq osq
          have HB2 : Hid (Below B w (grow (wr.drewN nq) osq)) := HBW.out wr HB.out nq osq
          clear m0 m1 m2 m3 m4 m5 m6 m7 m8 m9 m10 m11 q0 q1 q2 q3 q4 q5 q6 q7 q8 q9 q10 q11 hcg
          generalize grow (wr.drewN nq) osq = w2 at HO2 HB2 ⊢
          have hkc : ¬ ((kp : Int) + 1 = (cap : Int)) := by omega
          have hkc2 : (kp : Int) + 1 ≤ (n : Int) := by omega
          have hkc3 : ¬ (kp + 1 = cap) := by omega
          go_wp2
          obtain ⟨M, hM⟩ : ∃ M, n - (kp + 1) = M := ⟨_, rfl⟩
          rw [hM]
          have HM : Hid (n - (kp + 1) = M) := hM
          have hM1 : 1 ≤ M := by omega
          have hMn : kp + 1 + M ≤ n := by omega
          have HC2 : Hid (CmpG l0 (kp + 1 + 1) (l0.take (kp + 1))) := HC.out.same HGD.out (by omega) HX.out HY.out HQ.out
          clear hM
          go_loopg [5, 7] M (fun g2 v5 v7 wr2 => ∃ (kk k2 : Nat) (p : List G1), v5 = .int .i64 kk ∧ v7 = .int .i64 k2 ∧ 1 ≤ k2 ∧ k2 ≤ M ∧ M - k2 ≤ g2 ∧ kk + 1 ≤ kp + 1 + k2 ∧ Hid (p.length = kk) ∧ Hid (OwnG wr2 B (.slice (some ⟨g, 0, none⟩) n cap) (p ++ l0.drop kk)) ∧ Hid (Below B w wr2) ∧ Hid (CmpG l0 (kp + 1 + k2) p))
          case atStart =>
            refine ⟨kp + 1, 1, l0.take (kp + 1), by go_num, rfl, by omega, hM1, by omega, by omega, (show _ = _ from ?_), (show OwnG _ _ _ _ from ?_), HB2, HC2⟩
            · have := HNL.out
              rw [List.length_take]
              omega
            · rw [List.take_append_drop]
              exact HO2.out
          case round =>
            obtain ⟨kk, k2, p, rfl, rfl, hk21, hk2M, hg2, hkk, HP, HO3, HB3, HC3⟩ := hrel
            have GET : Hid (∀ i, kk ≤ i → (p ++ l0.drop kk)[i]? = l0[i]?) := fun i hi => by
              have := HP.out
              rw [List.getElem?_append_right (by omega), List.getElem?_drop, this]
              congr 1
              omega
            have hkkn : kk < n := by omega
            by_cases hlt2 : k2 < M
            · obtain ⟨kq, rfl⟩ : ∃ kq, k2 = kq + 1 := ⟨k2 - 1, by omega⟩
              have hlt2z : (kq : Int) + 1 < (M : Int) := by omega
              obtain ⟨x2, hx2⟩ := HAT.out (kp + 1 + (kq + 1)) (by omega)
              obtain ⟨y2, hy2⟩ := HAT.out (kp + 1 + kq) (by omega)
              have HX2 : Hid (l0[kp + 1 + (kq + 1)]? = some x2) := hx2
              have HY2 : Hid (l0[kp + 1 + (kq + 1) - 1]? = some y2) := hy2
              have hcg := fun n os => HCM.out x2 (List.mem_of_getElem? hx2) y2 (List.mem_of_getElem? hy2) (grow (wr.drewN n) os) (HBW.out wr HB3.out n os)
              have hwp2 : IntKind.i64.wrap (kq : Int) = (kq : Int) := by rw [IntKind.wrap_i64]; omega
              have jz2 : (kq : Int) < (M : Int) := by omega
              have p2 : (0 : Int) ≤ (kq : Int) + 1 := by omega
              have e2 : ((kq : Int) + 1).toNat = kq + 1 := by omega
              have ea : (kp + 1 + (kq + 1)) * 12 = (kp + 1) * 12 + (kq + 1) * 12 := by omega
              have eb : (kp + 1 + kq) * 12 = (kp + 1) * 12 + kq * 12 := by omega
              have gx : (p ++ l0.drop kk)[kp + 1 + (kq + 1)]? = some x2 := (GET.out _ (by omega)).trans hx2
              have gy : (p ++ l0.drop kk)[kp + 1 + kq]? = some y2 := (GET.out _ (by omega)).trans hy2
              have HGX : Hid ((p ++ l0.drop kk)[kp + 1 + (kq + 1)]? = some x2) := gx
              have hL := fun n os => ownG_at (ownG_grown HO3.out n os) (kp + 1 + (kq + 1)) x2 gx
              have hP := fun n os => ownG_at (ownG_grown HO3.out n os) (kp + 1 + kq) y2 gy
              rw [ea] at hL
              rw [eb] at hP
              have m0 := fun n os => (hL n os).1
              have m1 := fun n os => (hL n os).2.1
              have m2 := fun n os => (hL n os).2.2.1
              have m3 := fun n os => (hL n os).2.2.2.1
              have m4 := fun n os => (hL n os).2.2.2.2.1
              have m5 := fun n os => (hL n os).2.2.2.2.2.1
              have m6 := fun n os => (hL n os).2.2.2.2.2.2.1
              have m7 := fun n os => (hL n os).2.2.2.2.2.2.2.1
              have m8 := fun n os => (hL n os).2.2.2.2.2.2.2.2.1
              have m9 := fun n os => (hL n os).2.2.2.2.2.2.2.2.2.1
              have m10 := fun n os => (hL n os).2.2.2.2.2.2.2.2.2.2.1
              have m11 := fun n os => (hL n os).2.2.2.2.2.2.2.2.2.2.2
              have q0 := fun n os => (hP n os).1
              have q1 := fun n os => (hP n os).2.1
              have q2 := fun n os => (hP n os).2.2.1
              have q3 := fun n os => (hP n os).2.2.2.1
              have q4 := fun n os => (hP n os).2.2.2.2.1
              have q5 := fun n os => (hP n os).2.2.2.2.2.1
              have q6 := fun n os => (hP n os).2.2.2.2.2.2.1
              have q7 := fun n os => (hP n os).2.2.2.2.2.2.2.1
              have q8 := fun n os => (hP n os).2.2.2.2.2.2.2.2.1
              have q9 := fun n os => (hP n os).2.2.2.2.2.2.2.2.2.1
              have q10 := fun n os => (hP n os).2.2.2.2.2.2.2.2.2.2.1
              have q11 := fun n os => (hP n os).2.2.2.2.2.2.2.2.2.2.2
              clear hL hP
              clear hx2 hy2 gx gy
              by_cases hq : cmpD x2.td3 y2.td3 = 0
              · have hqd : decide (cmpD x2.td3 y2.td3 = 0) = true := decide_eq_true hq
                have HQ2 : Hid (cmpD x2.td3 y2.td3 = 0) := hq
                rw [hqd] at hcg
                clear hq hqd ea eb
                go_wp2_with fail
                go_quiet_grown (first | (go_at_call 44; refine Calls.grown_of (hcg _ _)))
                go_wp2
                go_roundg (M - (kq + 2))
                case measure => omega
                case rel => exact ⟨kk, kq + 2, p, rfl, by first | rfl | go_num, by omega, by omega, Nat.le_refl _, by omega, HP, ownG_grown HO3.out nq osq, HBW.out wr HB3.out nq osq, HC3.out.same HGD.out (by omega) HX2.out HY2.out HQ2.out⟩
              · have hqd : decide (cmpD x2.td3 y2.td3 = 0) = false := decide_eq_false hq
                have HQ2 : Hid (¬ cmpD x2.td3 y2.td3 = 0) := hq
                rw [hqd] at hcg
                clear hq hqd
                go_wp2_with fail
                go_quiet_grown (first | (go_at_call 44; refine Calls.grown_of (hcg _ _)))
                have HO4 : Hid (OwnG (grow (wr.drewN nq) osq) B (.slice (some ⟨g, 0, none⟩) n cap) (p ++ l0.drop kk)) := ownG_grown HO3.out nq osq
                have HB4 : Hid (Below B w (grow (wr.drewN nq) osq)) := HBW.out wr HB3.out nq osq
                clear m0 m1 m2 m3 m4 m5 m6 m7 m8 m9 m10 m11 q0 q1 q2 q3 q4 q5 q6 q7 q8 q9 q10 q11 hcg
                generalize grow (wr.drewN nq) osq = w4 at HO4 HB4 ⊢
                have hL := ownG_at HO4.out (kp + 1 + (kq + 1)) x2 HGX.out
                rw [ea] at hL
                obtain ⟨m0, m1, m2, m3, m4, m5, m6, m7, m8, m9, m10, m11⟩ := hL
                obtain ⟨z2, hz2⟩ := HAT.out kk hkkn
                obtain ⟨q0, q1, q2, q3, q4, q5, q6, q7, q8, q9, q10, q11⟩ := ownG_at HO4.out kk z2 ((GET.out kk (Nat.le_refl _)).trans hz2)
                have f0 := ownG_fr HO4.out (kk * 12)
                have f1 := ownG_fr HO4.out (kk * 12 + 1)
                have f2 := ownG_fr HO4.out (kk * 12 + 2)
                have f3 := ownG_fr HO4.out (kk * 12 + 3)
                have f4 := ownG_fr HO4.out (kk * 12 + 4)
                have f5 := ownG_fr HO4.out (kk * 12 + 5)
                have f6 := ownG_fr HO4.out (kk * 12 + 6)
                have f7 := ownG_fr HO4.out (kk * 12 + 7)
                have f8 := ownG_fr HO4.out (kk * 12 + 8)
                have f9 := ownG_fr HO4.out (kk * 12 + 9)
                have f10 := ownG_fr HO4.out (kk * 12 + 10)
                have f11 := ownG_fr HO4.out (kk * 12 + 11)
                have kz : (kk : Int) < (n : Int) := by omega
                clear hz2 ea eb
                go_wp2
                go_roundg (M - (kq + 2))
                case measure => omega
                case rel =>
                  refine ⟨kk + 1, kq + 2, p ++ [x2], by first | rfl | go_num, by first | rfl | go_num, by omega, by omega, Nat.le_refl _, by omega, (show _ = _ from ?_), (show OwnG _ _ _ _ from ?_), (show Below _ _ _ from ?_), HC3.out.more HX2.out HY2.out (HSO.out (kp + 1 + kq) x2 y2 HY2.out HX2.out) HQ2.out⟩
                  · rw [List.length_append, HP.out]
                    rfl
                  · have hlen : kk < (p ++ l0.drop kk).length := by
                      rw [List.length_append, HP.out, List.length_drop, ← HNL.out]
                      omega
                    have := ownG_set HO4.out kk hlen x2
                    have e : (p ++ l0.drop kk).set kk x2 = p ++ [x2] ++ l0.drop (kk + 1) := by
                      have h1 := HP.out
                      rw [List.set_append_right _ _ (by omega), h1, Nat.sub_self, List.append_assoc]
                      congr 1
                      rw [List.drop_eq_getElem_cons (by rw [← HNL.out]; exact hkkn)]
                      rfl
                    rw [e] at this
                    exact this
                  · exact below_setG HB4.out hBg kk x2
            · have hlt2z : ¬ (k2 : Int) < (M : Int) := by omega
              obtain ⟨W5, hcl, HO5, HB5⟩ := ownG_clear HO3.out kk hkkn
              have HO5 : Hid (OwnG W5 B (.slice (some ⟨g, 0, none⟩) kk cap) ((p ++ l0.drop kk).take kk)) := HO5
              have HB5 : Hid (Below B wr W5) := HB5
              have kc : ¬ ((kk : Int) = (cap : Int)) := by omega
              have kc2 : (kk : Int) ≤ (n : Int) := by omega
              have kc3 : ¬ (kk = cap) := by omega
              have kc4 : (kk : Int) ≤ (cap : Int) := by omega
              go_wp2
              go_ret
              refine ⟨p, kk, rfl, ?_, HB3.out.trans HB5.out, ?_⟩
              · have := HO5.out
                rw [List.take_append_of_le_length (by rw [HP.out]; exact Nat.le_refl _), List.take_of_length_le (by rw [HP.out]; exact Nat.le_refl _)] at this
                exact this
              · have h1 := HM.out
                have h2 : kp + 1 + k2 = n := by omega
                rw [← h2]
                exact HC3.out
        · have hqd : decide (cmpD x.td3 y.td3 = 0) = false := decide_eq_false hq
          have HQ : Hid (¬ cmpD x.td3 y.td3 = 0) := hq
          rw [hqd] at hcg
          clear hq hqd
          go_wp2_with fail
          go_quiet_grown (first | (go_at_call 44; refine Calls.grown_of (hcg _ _)))
          go_wp2
          go_roundg (n - (kp + 2))
          case measure => omega
          case rel =>
            refine ⟨kp + 2, by first | rfl | go_num, by omega, by omega, Nat.le_refl _, ownG_grown HO.out nq osq, HBW.out wr HB.out nq osq, (show CmpG _ _ _ from ?_)⟩
            have := HC.out.more HX.out HY.out (HSO.out kp x y HY.out HX.out) HQ.out
            rw [show l0.take (kp + 2) = l0.take (kp + 1) ++ [x] by rw [List.take_add_one, HX.out]; rfl]
            exact this
      · have hltz : ¬ (k : Int) < (n : Int) := by omega
        have hkn' : Hid (k = n) := (show k = n by omega)
        go_wp2
        go_ret
        refine ⟨l0, n, rfl, HO.out, HB.out, ?_⟩
        have := HC.out
        rw [hkn'.out, List.take_of_length_le (by rw [← HNL.out]; exact Nat.le_refl _)] at this
        exact this
end Go.Proofs.YtoclingolfdfeaaGreatDoor

/- RdX -/
namespace Go.Proofs.YtoclingolfdfeaaGreatDoor
open Go.RowKit Go.Deep Go.Sort Go.Lib
set_option maxRecDepth 100000

/-- A region that begins with recover: what follows is walked as ever. -/
theorem wpS_recover {P : Program} {Q : Exit → Act → List Frame → World → Prop} {a : Act} {cs cs' : List Frame} {w : World} {id : Nat} {ops : Array Oper} {o : Oper} {rest : List Oper} {v : Value} (hops : ops.toList = o :: rest) (hgd : o.guard = none)
    (ho : o.op = .call { callee := .builtin .recover, args := #[], argTypes := #[] })
    (hv : recoverD cs = some (v, cs') ∨ (recoverD cs = none ∧ v = .nilIface ∧ cs' = cs))
    (h : wpList P ops (fun e a' w' => Q e a' cs' w') rest (a.put o.dst v) w) : (Code.region id ops false).wpS P Q a cs w := by
  intro b k hb hro
  have hr : List.range ops.size = 0 :: List.range' 1 rest.length := by
    rw [List.range_eq_range', ← Array.length_toList, hops, List.length_cons, List.range'_succ]
  have h0 : ops[0]? = some o := by rw [← Array.getElem?_toList, hops]; rfl
  have hw : Region.wanted o (yielded ops a.tmps) = true := by simp [Region.wanted, hgd]
  rw [← wpOps_eq_wpList (ops := ops) rest 1 (fun j => by rw [← Array.getElem?_toList, hops, Nat.add_comm 1 j]; rfl)] at h
  obtain ⟨e, a', w', hq, harr⟩ := wp_ops _ _ _ h b k cs'
  refine ⟨e, a', cs', w', hq, .of_steps (.one step_region) ?_⟩
  rw [hr]
  have hg := stepG_op (P := P) (b := b) (k := k) (cs := cs) (w := w) (rest := List.range' 1 rest.length) h0 hw
  have hfin : ∀ v, (b.at a (.inRegion ops (0 :: List.range' 1 rest.length) :: k)).finish v = b.at (a.put o.dst v) (.inRegion ops (List.range' 1 rest.length) :: k) := by
    intro v; rw [Frame.finish_at, h0]; rfl
  have hrun : (execOp a.eval o).run P w = .ok .recover w := by
    simp [execOp, ho, resolve, invoke, builtin]
  have hk : (b.at a (.inRegion ops (0 :: List.range' 1 rest.length) :: k)).kind = .deferred := hb
  have htr := tryRecover_deferred hk cs
  refine .of_steps (.one (step_lone_go ?_)) harr
  rw [hg, ← hfin]
  simp only [Frame.at] at htr ⊢
  rcases hv with hv | ⟨hv, rfl, rfl⟩
  · simp [stepG.apply, hrun, htr, hv]
  · simp [stepG.apply, hrun, htr, hv]
theorem ta_nil (xt : TypeId) (w : World) : (Instr.typeAssert .nilIface xt 59 true).run Tryz.prog w = .ok (.tuple #[.agg #[.int .i64 0, .int .i64 0], .bool false]) w := by
  kernel_rfl
theorem ta_ref (xt : TypeId) (c p : Int) (w : World) : (Instr.typeAssert (.iface 59 (.agg #[.int .i64 c, .int .i64 p])) xt 59 true).run Tryz.prog w = .ok (.tuple #[.agg #[.int .i64 c, .int .i64 p], .bool true]) w := by
  kernel_rfl
theorem grIdle (p0 p1 p2 : Addr) (w : World) :
    CallsD Tryz.prog 38 #[.pointer (some p0), .pointer (some p1), .pointer (some p2)] .returning w fun e u' w' => e = .returned (.tuple #[]) ∧ u' = .returning ∧ Below w.heap.size w w' := by
  refine callsD_of_wpS Tryz.func38 rfl fun c₀ cs hu => ?_
  simp only [Tryz.ntmps38, List.size_toArray, List.length_cons, List.length_nil, Nat.reduceAdd, Nat.reduceSub, Array.replicate_succ, Array.replicate_zero, List.push_toArray, List.append_toArray, List.nil_append, List.cons_append]
  refine wpS_seq (wpS_recover rfl rfl rfl (.inr ⟨by simp [recoverD, hu], rfl, rfl⟩) ?_)
  have ht := ta_nil
  have HF : Hid (c₀.mode = .returning) := hu
  clear hu
  go_wp2_with fail
  refine wpS_of_wp ?_
  go_wp2_with fail
  refine ⟨rfl, .returning, ?_, .tuple #[], ?_, rfl, rfl, ?_⟩
  · have := HF.out
    cases c₀
    simp_all
  · simp [results, Tryz.results38]
  · exact bl_a _
theorem grCatch (b0 b1 b2 : Nat) (c p : Int) (older : List PanicEntry) (w : World) (v0 v1 v2 : Value) (hc0 : w.cell? ⟨b0, 0, none⟩ = some v0) (hc1 : w.cell? ⟨b1, 0, none⟩ = some v1) (hc2 : w.cell? ⟨b2, 0, none⟩ = some v2) (hf0 : w.frozen? ⟨b0, 0, none⟩ = false) (hf1 : w.frozen? ⟨b1, 0, none⟩ = false) (hf2 : w.frozen? ⟨b2, 0, none⟩ = false) (hl0 : b0 < w.heap.size) (hl1 : b1 < w.heap.size) (hl2 : b2 < w.heap.size) (h01 : b0 ≠ b1) (h02 : b0 ≠ b2) (h12 : b1 ≠ b2) :
    CallsD Tryz.prog 38 #[.pointer (some ⟨b0, 0, none⟩), .pointer (some ⟨b1, 0, none⟩), .pointer (some ⟨b2, 0, none⟩)] (.panicking ({ v := .iface 59 (.agg #[.int .i64 c, .int .i64 p]), recovered := false } :: older)) w fun e u' w' => e = .returned (.tuple #[]) ∧ u' = .panicking ({ v := .iface 59 (.agg #[.int .i64 c, .int .i64 p]), recovered := true } :: older) ∧ w'.cell? ⟨b0, 0, none⟩ = some (.slice none 0 0) ∧ w'.cell? ⟨b1, 0, none⟩ = some (.int .i64 c) ∧ w'.cell? ⟨b2, 0, none⟩ = some (.int .i64 p) ∧ ∀ B, B ≤ b0 → B ≤ b1 → B ≤ b2 → Below B w w' := by
  refine callsD_of_wpS Tryz.func38 rfl fun c₀ cs hu => ?_
  simp only [Tryz.ntmps38, List.size_toArray, List.length_cons, List.length_nil, Nat.reduceAdd, Nat.reduceSub, Array.replicate_succ, Array.replicate_zero, List.push_toArray, List.append_toArray, List.nil_append, List.cons_append]
  refine wpS_seq (wpS_recover rfl rfl rfl (.inl (by simp only [recoverD, hu]; rfl)) ?_)
  have ht := ta_ref
  clear hu
  go_wp2_with fail
  refine wpS_of_wp ?_
  go_wp2_with fail
  have z0 : (w.alloc (.cells #[.int .i64 c, .int .i64 p] 59)).cell? ⟨w.heap.size, 0, none⟩ = some (.int .i64 c) := by simp [go_sem]
  have z1 : (w.alloc (.cells #[.int .i64 c, .int .i64 p] 59)).cell? ⟨w.heap.size, 1, none⟩ = some (.int .i64 p) := by simp [go_sem]
  have HB : Hid (Below w.heap.size w (w.alloc (.cells #[.int .i64 c, .int .i64 p] 59))) := bl_a _
  generalize (w.alloc (.cells #[.int .i64 c, .int .i64 p] 59)) = W at *
  have e0 := (HB.out.cell (p := ⟨b0, 0, none⟩) hl0).trans hc0
  have e1 := (HB.out.cell (p := ⟨b1, 0, none⟩) hl1).trans hc1
  have e2 := (HB.out.cell (p := ⟨b2, 0, none⟩) hl2).trans hc2
  have g0 := (HB.out.frozen (p := ⟨b0, 0, none⟩) hl0).trans hf0
  have g1 := (HB.out.frozen (p := ⟨b1, 0, none⟩) hl1).trans hf1
  have g2 := (HB.out.frozen (p := ⟨b2, 0, none⟩) hl2).trans hf2
  obtain ⟨z, hz⟩ : ∃ z, w.heap.size = z := ⟨_, rfl⟩
  have HZ : Hid (w.heap.size = z) := hz
  rw [hz] at z0 z1 hl0 hl1 hl2 ⊢
  have n0 : ¬ z = b0 := by omega
  have n1 : ¬ z = b1 := by omega
  have n2 : ¬ z = b2 := by omega
  have n0' : ¬ b0 = z := by omega
  have n1' : ¬ b1 = z := by omega
  have n2' : ¬ b2 = z := by omega
  have h10 : ¬ b1 = b0 := fun e => h01 e.symm
  have h20 : ¬ b2 = b0 := fun e => h02 e.symm
  have h21 : ¬ b2 = b1 := fun e => h12 e.symm
  have L0 : Hid (b0 < w.heap.size) := hz ▸ hl0
  have L1 : Hid (b1 < w.heap.size) := hz ▸ hl1
  have L2 : Hid (b2 < w.heap.size) := hz ▸ hl2
  clear hc0 hc1 hc2 hf0 hf1 hf2 ht hz hl0 hl1 hl2
  go_region
  all_goals (try go_wp2)
  refine ⟨rfl, _, rfl, .tuple #[], ?_, rfl, rfl, ?_, ?_, ?_, fun B B0 B1 B2 => ?_⟩
  · simp [results, Tryz.results38]
  · simp [*, go_sem]
  · simp [*, go_sem]
  · simp [*, go_sem]
  · have hW : Below B w W := HB.out.mono (by have := L0.out; omega)
    refine Below.trans hW ?_
    exact (((Below.drew (Below.refl B W)).setCell (p := ⟨b0, 0, none⟩) B0 _).setCell (p := ⟨b1, 0, none⟩) B1 _).setCell (p := ⟨b2, 0, none⟩) B2 _
end Go.Proofs.YtoclingolfdfeaaGreatDoor

/- RdY -/
namespace Go.Proofs.YtoclingolfdfeaaGreatDoor
open Go.RowKit Go.Deep Go.Sort Go.Lib
set_option maxRecDepth 100000

theorem byt_of_ok {k n s : Int} {b : List Int} (h : termOk k b n s = true) : Byt b := by
  unfold termOk at h
  split at h
  · simp only [Bool.and_eq_true, nameOk, List.all_eq_true] at h
    intro x hx
    have := h.1.1.2 x hx
    simp only [Bool.or_eq_true, letter, digit, Bool.and_eq_true, decide_eq_true_eq] at this
    omega
  split at h
  · simp at h
    rw [h.1.1.1]
    intro x hx
    cases hx
  split at h
  · simp only [Bool.and_eq_true, textOk, List.all_eq_true] at h
    intro x hx
    have := h.1.1.2 x hx
    simp only [plainB, Bool.and_eq_true, decide_eq_true_eq] at this
    omega
  split at h
  · simp only [Bool.and_eq_true, beq_iff_eq] at h
    rw [List.eq_nil_of_length_eq_zero h.1]
    intro x hx
    cases hx
  · cases h
theorem fits_of_okR {k n s : Int} {b : List Int} (h : termOk k b n s = true) : -9223372036854775808 ≤ n ∧ n ≤ 9223372036854775807 ∧ -9223372036854775808 ≤ s ∧ s ≤ 9223372036854775807 := by
  unfold termOk at h
  split at h
  · simp at h; omega
  split at h
  · simp at h; omega
  split at h
  · simp at h; omega
  split at h
  · simp only [Bool.and_eq_true] at h
    have := h.2
    simp [numOk] at this
    omega
  · cases h
/-- A token that may be. -/
def PT.may (t : PT) : Prop := t.kind ≤ 3 ∧ ((t.kind = 0 ∧ t.td.ok = true) ∨ (t.kind ≠ 0 ∧ t.td = td0))
theorem tokOf_may {l : List Int} {t : PT} (h : tokOf l = some t) : t.may := by
  cases l with
  | nil => cases h
  | cons b r =>
    rw [tokOf] at h
    split at h
    · obtain ⟨⟨n, s⟩, hq, rfl⟩ := Option.map_eq_some_iff.1 h
      refine ⟨by simp, .inl ⟨rfl, ?_⟩⟩
      show termOk 3 [] n s = true
      simp [termOk, (numOf_some.1 hq).1]
    split at h
    · rename_i c
      simp only [Bool.and_eq_true, beq_iff_eq] at c
      simp only [Option.some.injEq] at h
      subst h
      refine ⟨by simp, .inl ⟨rfl, ?_⟩⟩
      show termOk 0 _ 0 0 = true
      simp [termOk, c.1.2]
    split at h
    · obtain ⟨⟨tx, m⟩, hq, h2⟩ := Option.bind_eq_some_iff.1 h
      split at h2
      · rename_i hx
        simp only [Option.some.injEq] at h2
        subst h2
        refine ⟨by simp, .inl ⟨rfl, ?_⟩⟩
        show termOk 2 _ 0 0 = true
        simpa [termOk] using hx
      · cases h2
    split at h
    · obtain ⟨n, hq, rfl⟩ := Option.map_eq_some_iff.1 h
      refine ⟨by simp, .inl ⟨rfl, ?_⟩⟩
      obtain ⟨m, hm, hn⟩ := Option.bind_eq_some_iff.1 hq
      have hn : (m : Int) = n := by simpa using hn
      have := (blankOf_some.1 hm).1
      show termOk 1 [] n 0 = true
      simp [termOk]
      omega
    split at h
    · simp only [Option.some.injEq] at h
      subst h
      exact ⟨by simp, .inr ⟨by simp, rfl⟩⟩
    split at h
    · simp only [Option.some.injEq] at h
      subst h
      exact ⟨by simp, .inr ⟨by simp, rfl⟩⟩
    split at h
    · simp only [Option.some.injEq] at h
      subst h
      exact ⟨by simp, .inr ⟨by simp, rfl⟩⟩
    · cases h
theorem lexF_may : ∀ (f : Nat) (l : List Int) (p : Nat) (ts : List (Nat × PT)), lexF f l p = .ok ts → (∀ q ∈ ts, q.2.may ∧ q.1 ≤ p + l.length) ∧ ts.length ≤ l.length
  | 0, l, p, ts, h => by
    simp only [lexF, Except.ok.injEq] at h
    subst h
    exact ⟨fun q hq => absurd hq List.not_mem_nil, by simp⟩
  | f + 1, [], p, ts, h => by
    simp only [lexF, Except.ok.injEq] at h
    subst h
    exact ⟨fun q hq => absurd hq List.not_mem_nil, by simp⟩
  | f + 1, b :: r, p, ts, h => by
    rw [lexF] at h
    split at h
    · obtain ⟨h1, h2⟩ := lexF_may f r (p + 1) ts h
      refine ⟨fun q hq => ⟨(h1 q hq).1, ?_⟩, by simp; omega⟩
      have := (h1 q hq).2
      simp
      omega
    · cases ht : tokOf (b :: r) with
      | none => rw [ht] at h; cases h
      | some t =>
        rw [ht] at h
        simp only at h
        have hr := tokOf_raw ht
        cases hx : lexF f ((b :: r).drop t.raw.length) (p + t.raw.length) with
        | error e => rw [hx] at h; cases h
        | ok us =>
          rw [hx] at h
          simp only [Except.map, Except.ok.injEq] at h
          subst h
          obtain ⟨h1, h2⟩ := lexF_may f _ _ us hx
          rw [List.length_drop] at h1 h2
          refine ⟨fun q hq => ?_, by simp only [List.length_cons] at *; omega⟩
          rcases List.mem_cons.1 hq with rfl | hq
          · exact ⟨tokOf_may ht, by simp⟩
          · have := (h1 q hq).2
            exact ⟨(h1 q hq).1, by omega⟩
theorem lexR_may {l : List Int} {ts : List (Nat × PT)} (h : lexR l 0 = .ok ts) : (∀ q ∈ ts, q.2.may ∧ q.1 ≤ l.length) ∧ ts.length ≤ l.length := by
  have := lexF_may _ _ _ _ h
  simpa using this
theorem TV.may_ok {l : List Int} {L : List TV} (h : lexR l 0 = .ok (L.map TV.pt)) (hl : l.length ≤ 1048576) : (∀ x ∈ L, TVok x) ∧ L.length ≤ l.length ∧ ∀ x ∈ L, x.pt.2.may := by
  obtain ⟨h1, h2⟩ := lexR_may h
  rw [List.length_map] at h2
  have h3 : ∀ x ∈ L, x.pt.2.may := fun x hx => (h1 x.pt (List.mem_map_of_mem hx)).1
  refine ⟨fun x hx => ⟨?_, ?_, ?_⟩, h2, h3⟩
  · rcases (h3 x hx).2 with ⟨_, ho⟩ | ⟨_, ho⟩
    · exact fits_of_okR ho
    · have e : x.t.td = td0 := ho
      simp only [TB.td, td0, TD.mk.injEq] at e
      obtain ⟨_, _, e1, e2⟩ := e
      unfold Tm.fits
      rw [e1, e2]
      omega
  · exact (h3 x hx).1
  · have := (h1 x.pt (List.mem_map_of_mem hx)).2
    exact Nat.le_trans this hl
theorem Q3.td3 (q : Q3) : q.g.td3 = q.tds := rfl
/-- Three tokens that may be give a triple that may be. -/
theorem Q3.good {q : Q3} (hq : q.ok) (h3 : q.2.2.pt.2.may) : q.g.good ∧ fine3 q.g.td3 := by
  obtain ⟨k1, k2, k3⟩ := hq
  simp only [okSubj, okProp, okTerm, Bool.and_eq_true, beq_iff_eq, decide_eq_true_eq] at k1 k2 k3
  have g3 : q.2.2.t.td.ok = true := by
    rcases h3.2 with ⟨_, ho⟩ | ⟨hn, _⟩
    · exact ho
    · exact absurd k3 hn
  have o1 : termOk q.1.t.t.k q.1.t.b q.1.t.t.n q.1.t.t.s = true := k1.2.1
  have o2 : termOk q.2.1.t.t.k q.2.1.t.b q.2.1.t.t.n q.2.1.t.t.s = true := k2.2.1
  have o3 : termOk q.2.2.t.t.k q.2.2.t.b q.2.2.t.t.n q.2.2.t.t.s = true := g3
  refine ⟨⟨fits_of_okR o1, fits_of_okR o2, fits_of_okR o3, ?_⟩, ⟨o1, byt_of_ok o1⟩, ⟨o2, byt_of_ok o2⟩, ⟨o3, byt_of_ok o3⟩⟩
  have e1 : q.1.t.t.k ≤ 1 := k1.2.2
  have e2 : q.2.1.t.t.k = 0 := k2.2.2
  show tripleOk q.1.t.t q.2.1.t.t q.2.2.t.t q.1.t.b q.2.1.t.b q.2.2.t.b = true
  unfold tripleOk
  rw [o1, o2, o3, e2]
  simp [e1]
end Go.Proofs.YtoclingolfdfeaaGreatDoor

/- RdZ -/
namespace Go.Proofs.YtoclingolfdfeaaGreatDoor
open Go.RowKit Go.Deep Go.Sort Go.Lib
set_option maxRecDepth 100000

/-- The three boxes of the results. -/
structure Boxes (z : Nat) (W : World) (v : Value) (c p : Int) : Prop where
  c0 : W.cell? ⟨z, 0, none⟩ = some v
  c1 : W.cell? ⟨z + 1, 0, none⟩ = some (.int .i64 c)
  c2 : W.cell? ⟨z + 1 + 1, 0, none⟩ = some (.int .i64 p)
  f0 : W.frozen? ⟨z, 0, none⟩ = false
  f1 : W.frozen? ⟨z + 1, 0, none⟩ = false
  f2 : W.frozen? ⟨z + 1 + 1, 0, none⟩ = false
  lt : z + 1 + 1 < W.heap.size
theorem Boxes.below {z : Nat} {W W' : World} {v : Value} {c p : Int} (h : Boxes z W v c p) (hb : Below (z + 1 + 1 + 1) W W') : Boxes z W' v c p :=
  ⟨(hb.cell (p := ⟨z, 0, none⟩) (show z < z + 1 + 1 + 1 by omega)).trans h.c0, (hb.cell (p := ⟨z + 1, 0, none⟩) (show z + 1 < z + 1 + 1 + 1 by omega)).trans h.c1, (hb.cell (p := ⟨z + 1 + 1, 0, none⟩) (show z + 1 + 1 < z + 1 + 1 + 1 by omega)).trans h.c2,
   (hb.frozen (p := ⟨z, 0, none⟩) (show z < z + 1 + 1 + 1 by omega)).trans h.f0, (hb.frozen (p := ⟨z + 1, 0, none⟩) (show z + 1 < z + 1 + 1 + 1 by omega)).trans h.f1, (hb.frozen (p := ⟨z + 1 + 1, 0, none⟩) (show z + 1 + 1 < z + 1 + 1 + 1 by omega)).trans h.f2, Nat.lt_of_lt_of_le h.lt hb.size⟩
theorem Boxes.new (w : World) (s t : TypeId) : Boxes w.heap.size (((w.alloc (.cells #[.slice none 0 0] s)).alloc (.cells #[.int .i64 0] t)).alloc (.cells #[.int .i64 0] t)) (.slice none 0 0) 0 0 := by
  refine ⟨?_, ?_, ?_, ?_, ?_, ?_, ?_⟩ <;> simp [go_sem]
theorem gr_out (tm : Array Value) (z : Nat) (a : Option Addr) (n cap : Nat) (c p : Int) (W : World) (h2 : tm[2]? = some (.pointer (some ⟨z, 0, none⟩))) (h3 : tm[3]? = some (.pointer (some ⟨z + 1, 0, none⟩))) (h4 : tm[4]? = some (.pointer (some ⟨z + 1 + 1, 0, none⟩))) (hB : Boxes z W (.slice a n cap) c p) :
    (results Tryz.f10 tm).run Tryz.prog W = .ok (.tuple #[.agg #[.slice a n cap], .int .i64 c, .int .i64 p]) W := by
  have e0 := hB.c0
  have e1 := hB.c1
  have e2 := hB.c2
  simp [results, Tryz.results10, go_sem, h2, h3, h4, e0, e1, e2]
theorem gr_panic (R : Ending → World → Prop) (tm : Array Value) (z : Nat) (c p : Int) (W : World) (v0 : Value) (c0 p0 : Int) (h2 : tm[2]? = some (.pointer (some ⟨z, 0, none⟩))) (h3 : tm[3]? = some (.pointer (some ⟨z + 1, 0, none⟩))) (h4 : tm[4]? = some (.pointer (some ⟨z + 1 + 1, 0, none⟩))) (hB : Boxes z W v0 c0 p0)
    (h : ∀ W', Below z W W' → R (.returned (.tuple #[.agg #[.slice none 0 0], .int .i64 c, .int .i64 p])) W') :
    bodyPostD Tryz.prog Tryz.f10 R (.panic [{ v := .iface 59 (.agg #[.int .i64 c, .int .i64 p]), recovered := false }]) { tmps := tm, defers := [{ target := .fn (.func 38) #[.pointer (some ⟨z, 0, none⟩), .pointer (some ⟨z + 1, 0, none⟩), .pointer (some ⟨z + 1 + 1, 0, none⟩)], args := #[] }] } W := by
  have hl := hB.lt
  refine leaves_cons (f := 38) (args := #[.pointer (some ⟨z, 0, none⟩), .pointer (some ⟨z + 1, 0, none⟩), .pointer (some ⟨z + 1 + 1, 0, none⟩)]) (by simp) (by simp [invoke, go_sem]) ?_
  refine (grCatch z (z + 1) (z + 1 + 1) c p [] W v0 (.int .i64 c0) (.int .i64 p0) hB.c0 hB.c1 hB.c2 hB.f0 hB.f1 hB.f2 (by omega) (by omega) hl (by omega) (by omega) (by omega)).mono ?_
  rintro e u' w'' ⟨rfl, rfl, r0, r1, r2, hb⟩
  have hbz := hb z (Nat.le_refl _) (by omega) (by omega)
  refine ⟨.tuple #[.agg #[.slice none 0 0], .int .i64 c, .int .i64 p], ?_, h w'' hbz⟩
  simp [results, Tryz.results10, go_sem, h2, h3, h4, r0, r1, r2]
theorem gr_ret (R : Ending → World → Prop) (tm : Array Value) (z : Nat) (a : Option Addr) (n cap : Nat) (c p : Int) (W : World) (h2 : tm[2]? = some (.pointer (some ⟨z, 0, none⟩))) (h3 : tm[3]? = some (.pointer (some ⟨z + 1, 0, none⟩))) (h4 : tm[4]? = some (.pointer (some ⟨z + 1 + 1, 0, none⟩))) (hB : Boxes z W (.slice a n cap) c p)
    (h : ∀ W', Below W.heap.size W W' → R (.returned (.tuple #[.agg #[.slice a n cap], .int .i64 c, .int .i64 p])) W') :
    bodyPostD Tryz.prog Tryz.f10 R .ret { tmps := tm, defers := [{ target := .fn (.func 38) #[.pointer (some ⟨z, 0, none⟩), .pointer (some ⟨z + 1, 0, none⟩), .pointer (some ⟨z + 1 + 1, 0, none⟩)], args := #[] }] } W := by
  refine leaves_cons (f := 38) (args := #[.pointer (some ⟨z, 0, none⟩), .pointer (some ⟨z + 1, 0, none⟩), .pointer (some ⟨z + 1 + 1, 0, none⟩)]) (by simp) (by simp [invoke, go_sem]) ?_
  refine (grIdle ⟨z, 0, none⟩ ⟨z + 1, 0, none⟩ ⟨z + 1 + 1, 0, none⟩ W).mono ?_
  rintro e u' w'' ⟨rfl, rfl, hb⟩
  exact ⟨_, gr_out tm z a n cap c p w'' h2 h3 h4 (hB.below (hb.mono hB.lt)), h w'' hb⟩
set_option maxHeartbeats 2000000 in
theorem grLong (a : Option Addr) (len cap : Nat) (w : World) (h : 3000 < len) :
    Calls Tryz.prog 10 #[.slice a len cap] w fun e w' => e = .returned (.tuple #[.agg #[.slice none 0 0], .int .i64 1, .int .i64 0]) ∧ Below w.heap.size w w' := by
  have hmf : ∀ (fn : Fn) (first cap : Array Value) (w : World), (Instr.makeFunc fn first cap).run Tryz.prog w = .ok (.func fn first cap) w := fun _ _ _ _ => rfl
  have hR := fun w => readerLong a len cap 3000 w h
  unfold refused at hR
  go_enter_defers Tryz.func10, Tryz.ntmps10
  go_wp2_with fail
  refine (hR _).mono ?_
  rintro e w1 ⟨rfl, rfl⟩
  go_wp2_with fail
  refine gr_panic _ _ w.heap.size 1 0 _ _ _ _ rfl rfl rfl (Boxes.new w _ _) ?_
  intro W' hb
  exact ⟨rfl, (bl_alloc (bl_alloc (bl_a _) _) _).trans hb⟩
end Go.Proofs.YtoclingolfdfeaaGreatDoor

/- ReA -/
namespace Go.Proofs.YtoclingolfdfeaaGreatDoor
open Go.RowKit Go.Deep Go.Sort Go.Lib
set_option maxRecDepth 100000

theorem OwnG.empty {w : World} {B : Nat} {v : Value} (h : OwnG w B v []) : ∃ a cap, v = .slice a 0 cap := by
  rcases h.form with ⟨rfl, _⟩ | ⟨g, cap, rfl, _⟩
  · exact ⟨none, 0, rfl⟩
  · exact ⟨_, cap, rfl⟩
theorem OwnG.some {w : World} {B : Nat} {v : Value} {l : List G1} (h : OwnG w B v l) (h0 : l ≠ []) : ∃ g cap, v = .slice (some ⟨g, 0, none⟩) l.length cap := by
  rcases h.form with ⟨_, rfl⟩ | ⟨g, cap, rfl, _⟩
  · exact absurd rfl h0
  · exact ⟨g, cap, rfl⟩
theorem sortG_any (B : Nat) (v : Value) (l : List G1) (w : World) (hO : OwnG w B v l) (hn : l.length ≤ 1000000) (hg : ∀ y ∈ l, y.good ∧ ∀ W, Below B w W → y.lies W) :
    Calls Tryz.prog 41 #[v, .func (.func 42) #[] #[]] w fun e w' => e = .returned (.tuple #[]) ∧ ∃ l' : List G1, l'.Perm l ∧ (l'.map G1.td3).Pairwise (fun x y => cmpD x y ≤ 0) ∧ OwnG w' B v l' ∧ Below B w w' := by
  by_cases h0 : l = []
  · subst h0
    obtain ⟨a, cap, rfl⟩ := hO.empty
    refine (AnyF.slices_SortFunc_none Tryz.sortTriple a cap _ w).mono ?_
    rintro e w' ⟨rfl, rfl⟩
    exact ⟨rfl, [], List.Perm.refl _, by simp, hO, Below.refl _ _⟩
  · obtain ⟨g, cap, rfl⟩ := hO.some h0
    exact sortG B g l.length cap l w hO rfl hn h0 hg
set_option maxHeartbeats 1000000 in
theorem compactG0 (a : Option Addr) (cap : Nat) (fv : Value) (w : World) : Calls Tryz.prog 43 #[.slice a 0 cap, fv] w fun e w' => e = .returned (.slice a 0 cap) ∧ w' = w := by
  go_enter Tryz.func43, Tryz.ntmps43
  go_wp2
  go_ret
  exact ⟨rfl, rfl⟩
/-- Each one once. -/
structure Once (l : List G1) (r : List G1) : Prop where
  asc : (r.map G1.td3).Pairwise (fun x y => cmpD x y < 0)
  mem : ∀ t, t ∈ r.map G1.td3 ↔ t ∈ l.map G1.td3
  sub : ∀ y ∈ r, y ∈ l
theorem compactG_any (B : Nat) (v : Value) (l : List G1) (w : World) (hO : OwnG w B v l) (hn : l.length ≤ 1000000) (hg : ∀ y ∈ l, y.good ∧ ∀ W, Below B w W → y.lies W) (hf : ∀ y ∈ l, fine3 y.td3) (hs : (l.map G1.td3).Pairwise (fun x y => cmpD x y ≤ 0)) :
    Calls Tryz.prog 43 #[v, .func (.func 44) #[] #[]] w fun e w' => ∃ (a : Option Addr) (r : List G1) (cap : Nat), e = .returned (.slice a r.length cap) ∧ OwnG w' B (.slice a r.length cap) r ∧ Below B w w' ∧ Once l r := by
  by_cases h0 : l = []
  · subst h0
    obtain ⟨a, cap, rfl⟩ := hO.empty
    refine (compactG0 a cap _ w).mono ?_
    rintro e w' ⟨rfl, rfl⟩
    exact ⟨a, [], cap, rfl, hO, Below.refl _ _, by simp, fun t => Iff.rfl, fun y hy => hy⟩
  · obtain ⟨g, cap, rfl⟩ := hO.some h0
    refine (compactG B g l.length cap l w hO hn h0 hg hf hs).mono ?_
    rintro e w' ⟨r, n', rfl, hO', hb, hc⟩
    obtain ⟨_, _, _, _, _, _, hn', _⟩ := ownG_cells hO'
    subst hn'
    exact ⟨_, r, cap, rfl, hO', hb, hc.asc, fun t => by rw [hc.mem, List.take_length], hc.sub⟩
/-- A text that lay ahead of a place stays where only what lies from it on is written. -/
theorem nw_up {w w' W : World} {B0 len : Nat} {a : Option Addr} {bs : List Int} (h : Nw w B0 a len bs) (h' : Nw w' B0 a len bs) (hb : Below w.heap.size w' W) : Nw W B0 a len bs := by
  rcases h with ⟨rfl, rfl, rfl⟩ | ⟨g, rfl, hB, ho⟩
  · exact .inl ⟨rfl, rfl, rfl⟩
  · rcases h' with ⟨h', _⟩ | ⟨g', hg', _, ho'⟩
    · cases h'
    · have : g = g' := by simpa using hg'
      subst this
      have hl := ho.2.1
      obtain ⟨⟨h1, h2, h3, h4⟩, h5, h6, h7⟩ := ho'
      have hc : ∀ i, W.cell? ⟨g, i, none⟩ = w'.cell? ⟨g, i, none⟩ := fun i => hb.cell (p := ⟨g, i, none⟩) hl
      refine .inr ⟨g, rfl, hB, ⟨h1, h2, h3, ?_⟩, Nat.lt_of_lt_of_le h5 hb.size, fun i hi => ?_, fun i hi => ?_⟩
      · rcases h4 with h4 | ⟨b, off, e, hlt, hcc⟩
        · exact .inl h4
        · cases e
          exact .inr ⟨g, 0, rfl, Nat.lt_of_lt_of_le hlt hb.size, fun i hi => (hc _).trans (hcc i hi)⟩
      · obtain ⟨v, hv⟩ := h6 i hi
        exact ⟨v, (hc i).trans hv⟩
      · exact (hb.frozen (p := ⟨g, i, none⟩) hl).trans (h7 i hi)
end Go.Proofs.YtoclingolfdfeaaGreatDoor
