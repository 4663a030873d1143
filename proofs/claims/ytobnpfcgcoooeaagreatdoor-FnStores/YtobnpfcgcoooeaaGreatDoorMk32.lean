/- Texts put together: StpC StpD -/
import Derived.Test.YtobnpfcgcoooeaaGreatDoorMk31
import Derived.Test.YtobnpfcgcoooeaaGreatDoorMk09
import Derived.Test.YtobnpfcgcoooeaaGreatDoorShc
/- StpC -/
namespace Go.Proofs.YtobnpfcgcoooeaaGreatDoor
open Go.RowKit Go.Deep Go.Sort Go.Lib
set_option maxRecDepth 100000

set_option maxHeartbeats 16000000 in
theorem compactT (B g n cap : Nat) (l0 : List TB) (w : World) (hO : OwnTR w B (.slice (some ⟨g, 0, none⟩) n cap) l0) (hn : n ≤ 1000000) (h0 : l0 ≠ [])
    (hg : ∀ y ∈ l0, y.good ∧ ∀ W, Below B w W → Bs W y.t.a y.t.len y.b) (hs : (l0.map TB.td).Pairwise (fun x y => x.cmp y ≤ 0)) :
    Calls Tryz.prog 43 #[.slice (some ⟨g, 0, none⟩) n cap, .func (.func 23) #[] #[]] w fun e w' => ∃ (r : List TB) (n' : Nat), e = .returned (.slice (some ⟨g, 0, none⟩) n' cap) ∧ OwnTR w' B (.slice (some ⟨g, 0, none⟩) n' cap) r ∧ Below B w w' ∧ Cmpd l0 n r := by
  have mixed : Tryz.prog.follows .mixedOrders = true := by kernel_rfl
  obtain ⟨_, _, hnc, hcm, _, _, hnl, hBg, hgw⟩ := ownT_cells hO
  have HG : Hid (∀ y ∈ l0, y.good ∧ ∀ W, Below B w W → Bs W y.t.a y.t.len y.b) := hg
  have HGD : Hid (∀ y ∈ l0, y.good) := fun y hy => (hg y hy).1
  have HSO : Hid (∀ i x x', l0[i]? = some x' → l0[i + 1]? = some x → x'.td.cmp x.td ≤ 0) := by
    intro i x x' h1 h2
    obtain ⟨h1', rfl⟩ := List.getElem?_eq_some_iff.1 h1
    obtain ⟨h2', rfl⟩ := List.getElem?_eq_some_iff.1 h2
    have := List.pairwise_iff_getElem.1 hs i (i + 1) (by simpa using h1') (by simpa using h2') (by omega)
    simpa using this
  have HNL : Hid (n = l0.length) := hnl
  have HO0 : Hid (OwnTR w B (.slice (some ⟨g, 0, none⟩) n cap) l0) := hO
  have hn1 : 1 ≤ n := by
    have : 0 < l0.length := List.length_pos_iff.2 h0
    omega
  obtain ⟨x0, hx0⟩ : ∃ x, l0[0]? = some x := ⟨l0[0], List.getElem?_eq_getElem (by omega)⟩
  have HC1 : Hid (Cmpd l0 1 (l0.take 1)) := Cmpd.one hx0
  have HAT : Hid (∀ i, i < n → ∃ x, l0[i]? = some x) := fun i hi => ⟨l0[i], List.getElem?_eq_getElem (by omega)⟩
  have HCM : Hid (∀ x ∈ l0, ∀ y ∈ l0, ∀ W, Below B w W → Calls Tryz.prog 23 #[.agg #[.int .i64 x.t.k, .slice x.t.a x.t.len x.t.cap, .int .i64 x.t.n, .int .i64 x.t.s], .agg #[.int .i64 y.t.k, .slice y.t.a y.t.len y.t.cap, .int .i64 y.t.n, .int .i64 y.t.s]] W fun e w' => e = .returned (.bool (decide (x.td.cmp y.td = 0))) ∧ ∃ q os, w' = grow (W.drewN q) os) := fun x hx y hy W hW =>
    (isSame_tb x y W (hg x hx).1 (hg y hy).1 ((hg x hx).2 W hW) ((hg y hy).2 W hW)).mono fun _ _ h => ⟨h.1, h.2.grown⟩
  have HBW : Hid (∀ W, Below B w W → ∀ n os, Below B w (grow (W.drewN n) os)) := fun W hW n os => below_grown hW (by have := hW.size; omega) n os
  clear hO hg hs hnl h0 hx0
  have hncz : (n : Int) ≤ (cap : Int) := by omega
  by_cases hn2 : n < 2
  · have hn2z : (n : Int) < 2 := by omega
    go_enter Tryz.func43, Tryz.ntmps43
    go_wp2
    go_ret
    have e1 : n = 1 := by omega
    have := HC1.out
    rw [List.take_of_length_le (by rw [← HNL.out]; omega)] at this
    exact ⟨l0, n, rfl, HO0.out, Below.refl _ _, by rw [e1]; exact this⟩
  · have hn2z : ¬ (n : Int) < 2 := by omega
    go_enter Tryz.func43, Tryz.ntmps43
    go_wp2
    go_loopg [5] (n - 1) (fun g1 v5 wr => ∃ k : Nat, v5 = .int .i64 k ∧ 1 ≤ k ∧ k ≤ n ∧ n - k ≤ g1 ∧ Hid (OwnTR wr B (.slice (some ⟨g, 0, none⟩) n cap) l0) ∧ Hid (Below B w wr) ∧ Hid (Cmpd l0 k (l0.take k)))
    case atStart => exact ⟨1, rfl, by omega, hn1, by omega, HO0, Below.refl _ _, HC1⟩
    case round =>
      obtain ⟨k, rfl, hk1, hkn, hg1, HO, HB, HC⟩ := hrel
      by_cases hlt : k < n
      · obtain ⟨kp, rfl⟩ : ∃ kp, k = kp + 1 := ⟨k - 1, by omega⟩
        have hltz : (kp : Int) + 1 < (n : Int) := by omega
        obtain ⟨x, hx⟩ := HAT.out (kp + 1) hlt
        obtain ⟨y, hy⟩ := HAT.out kp (by omega)
        have HX : Hid (l0[kp + 1]? = some x) := hx
        have HY : Hid (l0[kp]? = some y) := hy
        have hcg := fun n os => HCM.out x (List.mem_of_getElem? hx) y (List.mem_of_getElem? hy) (grow (wr.drewN n) os) (HBW.out wr HB.out n os)
        have hwp : IntKind.i64.wrap (kp : Int) = (kp : Int) := by rw [IntKind.wrap_i64]; omega
        have jz1 : (kp : Int) < (n : Int) := by omega
        have p0 : (0 : Int) ≤ (kp : Int) + 1 := by omega
        have e0 : ((kp : Int) + 1).toNat = kp + 1 := by omega
        have hL := fun n os => ownT_at (ownT_grown HO.out n os) (kp + 1) x hx
        have hP := fun n os => ownT_at (ownT_grown HO.out n os) kp y hy
        have m0 := fun n os => (hL n os).1
        have m1 := fun n os => (hL n os).2.1
        have m2 := fun n os => (hL n os).2.2.1
        have m3 := fun n os => (hL n os).2.2.2
        have q0 := fun n os => (hP n os).1
        have q1 := fun n os => (hP n os).2.1
        have q2 := fun n os => (hP n os).2.2.1
        have q3 := fun n os => (hP n os).2.2.2
        clear hL hP
        clear hx hy
        by_cases hq : x.td.cmp y.td = 0
        · have hqd : decide (x.td.cmp y.td = 0) = true := decide_eq_true hq
          have HQ : Hid (x.td.cmp y.td = 0) := hq
          rw [hqd] at hcg
          clear hq hqd
          go_wp2_with fail
          go_quiet_grown (first | (go_at_call 23; refine Calls.grown_of (hcg _ _)))
          have HO2 : Hid (OwnTR (grow (wr.drewN nq) osq) B (.slice (some ⟨g, 0, none⟩) n cap) l0) := ownT_grown HO.out nq osq
          have HB2 : Hid (Below B w (grow (wr.drewN nq) osq)) := HBW.out wr HB.out nq osq
          clear m0 m1 m2 m3 q0 q1 q2 q3 hcg
          generalize grow (wr.drewN nq) osq = w2 at HO2 HB2 ⊢
          have hkc : ¬ ((kp : Int) + 1 = (cap : Int)) := by omega
          have hkc2 : (kp : Int) + 1 ≤ (n : Int) := by omega
          have hkc3 : ¬ (kp + 1 = cap) := by omega
          go_wp2
          obtain ⟨M, hM⟩ : ∃ M, n - (kp + 1) = M := ⟨_, rfl⟩
          rw [hM]
          have HM : Hid (n - (kp + 1) = M) := hM
          have hM1 : 1 ≤ M := by omega
          have hMn : kp + 1 + M ≤ n := by omega
          have HC2 : Hid (Cmpd l0 (kp + 1 + 1) (l0.take (kp + 1))) := HC.out.same HGD.out (by omega) HX.out HY.out HQ.out
          clear hM
          go_loopg [5, 7] M (fun g2 v5 v7 wr2 => ∃ (kk k2 : Nat) (p : List TB), v5 = .int .i64 kk ∧ v7 = .int .i64 k2 ∧ 1 ≤ k2 ∧ k2 ≤ M ∧ M - k2 ≤ g2 ∧ kk + 1 ≤ kp + 1 + k2 ∧ Hid (p.length = kk) ∧ Hid (OwnTR wr2 B (.slice (some ⟨g, 0, none⟩) n cap) (p ++ l0.drop kk)) ∧ Hid (Below B w wr2) ∧ Hid (Cmpd l0 (kp + 1 + k2) p))
          case atStart =>
            refine ⟨kp + 1, 1, l0.take (kp + 1), by go_num, rfl, by omega, hM1, by omega, by omega, (show _ = _ from ?_), (show OwnTR _ _ _ _ from ?_), HB2, HC2⟩
            · have := HNL.out
              rw [List.length_take]
              omega
            · rw [List.take_append_drop]
              exact HO2.out
          case round =>
            obtain ⟨kk, k2, p, rfl, rfl, hk21, hk2M, hg2, hkk, HP, HO3, HB3, HC3⟩ := hrel
            have GET : Hid (∀ i, kk ≤ i → (p ++ l0.drop kk)[i]? = l0[i]?) := fun i hi => by
              have := HP.out
              rw [List.getElem?_append_right (by omega), List.getElem?_drop, this]
              congr 1
              omega
            have hkkn : kk < n := by omega
            by_cases hlt2 : k2 < M
            · obtain ⟨kq, rfl⟩ : ∃ kq, k2 = kq + 1 := ⟨k2 - 1, by omega⟩
              have hlt2z : (kq : Int) + 1 < (M : Int) := by omega
              obtain ⟨x2, hx2⟩ := HAT.out (kp + 1 + (kq + 1)) (by omega)
              obtain ⟨y2, hy2⟩ := HAT.out (kp + 1 + kq) (by omega)
              have HX2 : Hid (l0[kp + 1 + (kq + 1)]? = some x2) := hx2
              have HY2 : Hid (l0[kp + 1 + (kq + 1) - 1]? = some y2) := hy2
              have hcg := fun n os => HCM.out x2 (List.mem_of_getElem? hx2) y2 (List.mem_of_getElem? hy2) (grow (wr.drewN n) os) (HBW.out wr HB3.out n os)
              have hwp2 : IntKind.i64.wrap (kq : Int) = (kq : Int) := by rw [IntKind.wrap_i64]; omega
              have jz2 : (kq : Int) < (M : Int) := by omega
              have p2 : (0 : Int) ≤ (kq : Int) + 1 := by omega
              have e2 : ((kq : Int) + 1).toNat = kq + 1 := by omega
              have ea : (kp + 1 + (kq + 1)) * 4 = (kp + 1) * 4 + (kq + 1) * 4 := by omega
              have eb : (kp + 1 + kq) * 4 = (kp + 1) * 4 + kq * 4 := by omega
              have gx : (p ++ l0.drop kk)[kp + 1 + (kq + 1)]? = some x2 := (GET.out _ (by omega)).trans hx2
              have gy : (p ++ l0.drop kk)[kp + 1 + kq]? = some y2 := (GET.out _ (by omega)).trans hy2
              have HGX : Hid ((p ++ l0.drop kk)[kp + 1 + (kq + 1)]? = some x2) := gx
              have hL := fun n os => ownT_at (ownT_grown HO3.out n os) (kp + 1 + (kq + 1)) x2 gx
              have hP := fun n os => ownT_at (ownT_grown HO3.out n os) (kp + 1 + kq) y2 gy
              rw [ea] at hL
              rw [eb] at hP
              have m0 := fun n os => (hL n os).1
              have m1 := fun n os => (hL n os).2.1
              have m2 := fun n os => (hL n os).2.2.1
              have m3 := fun n os => (hL n os).2.2.2
              have q0 := fun n os => (hP n os).1
              have q1 := fun n os => (hP n os).2.1
              have q2 := fun n os => (hP n os).2.2.1
              have q3 := fun n os => (hP n os).2.2.2
              clear hL hP
              clear hx2 hy2 gx gy
              by_cases hq : x2.td.cmp y2.td = 0
              · have hqd : decide (x2.td.cmp y2.td = 0) = true := decide_eq_true hq
                have HQ2 : Hid (x2.td.cmp y2.td = 0) := hq
                rw [hqd] at hcg
                clear hq hqd ea eb
                go_wp2_with fail
                go_quiet_grown (first | (go_at_call 23; refine Calls.grown_of (hcg _ _)))
                go_wp2
                go_roundg (M - (kq + 2))
                case measure => omega
                case rel => exact ⟨kk, kq + 2, p, rfl, by first | rfl | go_num, by omega, by omega, Nat.le_refl _, by omega, HP, ownT_grown HO3.out nq osq, HBW.out wr HB3.out nq osq, HC3.out.same HGD.out (by omega) HX2.out HY2.out HQ2.out⟩
              · have hqd : decide (x2.td.cmp y2.td = 0) = false := decide_eq_false hq
                have HQ2 : Hid (¬ x2.td.cmp y2.td = 0) := hq
                rw [hqd] at hcg
                clear hq hqd
                go_wp2_with fail
                go_quiet_grown (first | (go_at_call 23; refine Calls.grown_of (hcg _ _)))
                have HO4 : Hid (OwnTR (grow (wr.drewN nq) osq) B (.slice (some ⟨g, 0, none⟩) n cap) (p ++ l0.drop kk)) := ownT_grown HO3.out nq osq
                have HB4 : Hid (Below B w (grow (wr.drewN nq) osq)) := HBW.out wr HB3.out nq osq
                clear m0 m1 m2 m3 q0 q1 q2 q3 hcg
                generalize grow (wr.drewN nq) osq = w4 at HO4 HB4 ⊢
                have hL := ownT_at HO4.out (kp + 1 + (kq + 1)) x2 HGX.out
                rw [ea] at hL
                obtain ⟨m0, m1, m2, m3⟩ := hL
                obtain ⟨z2, hz2⟩ := HAT.out kk hkkn
                obtain ⟨q0, q1, q2, q3⟩ := ownT_at HO4.out kk z2 ((GET.out kk (Nat.le_refl _)).trans hz2)
                have f0 := ownT_fr HO4.out (kk * 4)
                have f1 := ownT_fr HO4.out (kk * 4 + 1)
                have f2 := ownT_fr HO4.out (kk * 4 + 2)
                have f3 := ownT_fr HO4.out (kk * 4 + 3)
                have kz : (kk : Int) < (n : Int) := by omega
                clear hz2 ea eb
                go_wp2
                go_roundg (M - (kq + 2))
                case measure => omega
                case rel =>
                  refine ⟨kk + 1, kq + 2, p ++ [x2], by first | rfl | go_num, by first | rfl | go_num, by omega, by omega, Nat.le_refl _, by omega, (show _ = _ from ?_), (show OwnTR _ _ _ _ from ?_), (show Below _ _ _ from ?_), HC3.out.more HX2.out HY2.out (HSO.out (kp + 1 + kq) x2 y2 HY2.out HX2.out) HQ2.out⟩
                  · rw [List.length_append, HP.out]
                    rfl
                  · have hlen : kk < (p ++ l0.drop kk).length := by
                      rw [List.length_append, HP.out, List.length_drop, ← HNL.out]
                      omega
                    have := ownT_set HO4.out kk hlen x2
                    have e : (p ++ l0.drop kk).set kk x2 = p ++ [x2] ++ l0.drop (kk + 1) := by
                      have h1 := HP.out
                      rw [List.set_append_right _ _ (by omega), h1, Nat.sub_self, List.append_assoc]
                      congr 1
                      rw [List.drop_eq_getElem_cons (by rw [← HNL.out]; exact hkkn)]
                      rfl
                    rw [e] at this
                    exact this
                  · exact (((HB4.out.setCell (p := ⟨g, kk * 4, none⟩) hBg _).setCell (p := ⟨g, kk * 4 + 1, none⟩) hBg _).setCell (p := ⟨g, kk * 4 + 2, none⟩) hBg _).setCell (p := ⟨g, kk * 4 + 3, none⟩) hBg _
            · have hlt2z : ¬ (k2 : Int) < (M : Int) := by omega
              obtain ⟨W5, hcl, HO5, HB5⟩ := ownT_clear HO3.out kk hkkn
              have HO5 : Hid (OwnTR W5 B (.slice (some ⟨g, 0, none⟩) kk cap) ((p ++ l0.drop kk).take kk)) := HO5
              have HB5 : Hid (Below B wr W5) := HB5
              have kc : ¬ ((kk : Int) = (cap : Int)) := by omega
              have kc2 : (kk : Int) ≤ (n : Int) := by omega
              have kc3 : ¬ (kk = cap) := by omega
              have kc4 : (kk : Int) ≤ (cap : Int) := by omega
              go_wp2
              go_ret
              refine ⟨p, kk, rfl, ?_, HB3.out.trans HB5.out, ?_⟩
              · have := HO5.out
                rw [List.take_append_of_le_length (by rw [HP.out]; exact Nat.le_refl _), List.take_of_length_le (by rw [HP.out]; exact Nat.le_refl _)] at this
                exact this
              · have h1 := HM.out
                have h2 : kp + 1 + k2 = n := by omega
                rw [← h2]
                exact HC3.out
        · have hqd : decide (x.td.cmp y.td = 0) = false := decide_eq_false hq
          have HQ : Hid (¬ x.td.cmp y.td = 0) := hq
          rw [hqd] at hcg
          clear hq hqd
          go_wp2_with fail
          go_quiet_grown (first | (go_at_call 23; refine Calls.grown_of (hcg _ _)))
          go_wp2
          go_roundg (n - (kp + 2))
          case measure => omega
          case rel =>
            refine ⟨kp + 2, by first | rfl | go_num, by omega, by omega, Nat.le_refl _, ownT_grown HO.out nq osq, HBW.out wr HB.out nq osq, (show Cmpd _ _ _ from ?_)⟩
            have := HC.out.more HX.out HY.out (HSO.out kp x y HY.out HX.out) HQ.out
            rw [show l0.take (kp + 2) = l0.take (kp + 1) ++ [x] by rw [List.take_add_one, HX.out]; rfl]
            exact this
      · have hltz : ¬ (k : Int) < (n : Int) := by omega
        have hkn' : Hid (k = n) := (show k = n by omega)
        go_wp2
        go_ret
        refine ⟨l0, n, rfl, HO.out, HB.out, ?_⟩
        have := HC.out
        rw [hkn'.out, List.take_of_length_le (by rw [← HNL.out]; exact Nat.le_refl _)] at this
        exact this
end Go.Proofs.YtobnpfcgcoooeaaGreatDoor

/- StpD -/
namespace Go.Proofs.YtobnpfcgcoooeaaGreatDoor
open Go.RowKit Go.Deep Go.Sort Go.Lib
set_option maxRecDepth 100000

/-- A text laid into a term of the row. -/
theorem ownT_text {W : World} {B g n cap : Nat} {l : List TB} (h : OwnTR W B (.slice (some ⟨g, 0, none⟩) n cap) l) (i : Nat) (x y : TB) (hi : l[i]? = some x) (hy : y.t.k = x.t.k ∧ y.t.n = x.t.n ∧ y.t.s = x.t.s) :
    OwnTR (W.setCell ⟨g, i * 4 + 1, none⟩ (.slice y.t.a y.t.len y.t.cap)) B (.slice (some ⟨g, 0, none⟩) n cap) (l.set i y) := by
  obtain ⟨cur, hh, hle, hmx, hcs, htk, hn, hB, hgl⟩ := ownT_cells h
  obtain ⟨hil, hxe⟩ := List.getElem?_eq_some_iff.1 hi
  refine ownT_mk (heap_set hh) hle hmx (by simpa using hcs) ?_ (by simpa using hn) hB (by simpa using hgl)
  apply List.ext_getElem?
  intro j
  rw [List.getElem?_take]
  by_cases hj : j < n * 4
  · rw [if_pos hj]
    have hi2 : j / 4 < (l.set i y).length := by rw [List.length_set]; omega
    have e := flat4_get (l.set i y) (j / 4) (j % 4) hi2 (by omega)
    rw [show j / 4 * 4 + j % 4 = j by omega] at e
    rw [e]
    have e0 := flat4_get l (j / 4) (j % 4) (by simpa using hi2) (by omega)
    rw [show j / 4 * 4 + j % 4 = j by omega, ← htk, List.getElem?_take, if_pos hj] at e0
    simp only [Array.getElem?_toList] at e0 ⊢
    have hjc : j < cur.size := by omega
    by_cases hji : j / 4 = i
    · subst hji
      rw [List.getElem_set_self]
      rw [hxe] at e0
      have hc : j % 4 = 0 ∨ j % 4 = 1 ∨ j % 4 = 2 ∨ j % 4 = 3 := by omega
      rcases hc with hc | hc | hc | hc
      · rw [hc] at e0 ⊢
        rw [Array.getElem?_setIfInBounds_ne (by omega), e0]
        simp [enc4, hy.1]
      · rw [hc, show j / 4 * 4 + 1 = j by omega, Array.getElem?_setIfInBounds_self_of_lt (by omega)]
        rfl
      · rw [hc] at e0 ⊢
        rw [Array.getElem?_setIfInBounds_ne (by omega), e0]
        simp [enc4, hy.2.1]
      · rw [hc] at e0 ⊢
        rw [Array.getElem?_setIfInBounds_ne (by omega), e0]
        simp [enc4, hy.2.2]
    · rw [List.getElem_set_ne (by omega), ← e0, Array.getElem?_setIfInBounds_ne (by omega)]
  · rw [if_neg hj, List.getElem?_eq_none (by rw [flat4_len, List.length_set]; omega)]

/-- A text in memory of the call's own. -/
def OwnY (w : World) (B : Nat) (a : Option Addr) (len cap : Nat) (bs : List Int) : Prop := w.ownsRow B 5 1 (.slice a len cap) len (bs.map (Value.int .u8)) ∧ (∀ ad, a = some ad → B ≤ ad.block ∧ ad.block < w.heap.size) ∧ Bs w a len bs
/-- .. where its blocks are as they were. -/
theorem OwnY.upper {w w' : World} {B : Nat} {a : Option Addr} {len cap : Nat} {bs : List Int} (h : OwnY w B a len cap bs) (hb : ∀ b, B ≤ b → b < w.heap.size → w'.heap[b]? = w.heap[b]?) (hs : w.heap.size ≤ w'.heap.size) : OwnY w' B a len cap bs := by
  obtain ⟨⟨h1, h2⟩, h3, ⟨b1, b2, b3, b4⟩⟩ := h
  refine ⟨⟨h1, ?_⟩, fun ad ha => ⟨(h3 ad ha).1, Nat.lt_of_lt_of_le (h3 ad ha).2 hs⟩, ⟨b1, b2, b3, ?_⟩⟩
  · rcases h2 with h2 | ⟨g, c, cur, hv, hB, hh, r⟩
    · exact .inl h2
    · refine .inr ⟨g, c, cur, hv, hB, ?_, r⟩
      cases hv
      rw [hb g hB (h3 _ rfl).2]
      exact hh
  · rcases b4 with b4 | ⟨b, off, rfl, hbl, hcc⟩
    · exact .inl b4
    · refine .inr ⟨b, off, rfl, Nat.lt_of_lt_of_le hbl hs, fun i hi => ?_⟩
      rw [World.cell?_of_block (w := w) (a := ⟨b, off + i, none⟩) (hb b (h3 _ rfl).1 hbl)]
      exact hcc i hi

/-- bytes.Clone of a text. -/
theorem cloneB (a : Option Addr) (len cap : Nat) (bs : List Int) (w : World) (h : Bs w a len bs) :
    Calls Tryz.prog 44 #[.slice a len cap] w fun e w' => ∃ a' cap', e = .returned (.slice a' len cap') ∧ OwnY w' w.heap.size a' len cap' bs ∧ Below w.heap.size w w' := by
  obtain ⟨b1, b2, b3, b4⟩ := h
  cases a with
  | none =>
    have h0 : len = 0 := by
      rcases b4 with h | ⟨b, off, ha, _⟩
      · exact h
      · cases ha
    subst h0
    refine (Tryz.bytes_Clone_nil 0 cap w).mono ?_
    rintro e w' ⟨rfl, rfl⟩
    exact ⟨none, 0, rfl, ⟨⟨by simp [b1], .inl ⟨rfl, rfl⟩⟩, fun ad ha => (by cases ha), ⟨b1, b2, b3, .inl rfl⟩⟩, Below.refl _ _⟩
  | some ad =>
    have hc : ∀ i, i < len → w.cell? (ad.add i) = some (.int .u8 (bs.getD i 0)) := by
      intro i hi
      rcases b4 with h | ⟨b, off, ha, _, hc⟩
      · omega
      · cases ha
        have ea : (⟨b, off, none⟩ : Addr).add i = ⟨b, off + i, none⟩ := by
          by_cases h0 : i = 0 <;> simp [Addr.add, h0]
        rw [ea, hc i hi]
        simp
    refine (Tryz.bytes_Clone_at ad len cap bs w b1 (by omega) hc).mono ?_
    rintro e w' ⟨v', rfl, ho, hne, hB⟩
    have ho' := ho
    rcases ho.2 with ⟨hv, _⟩ | ⟨g, cap', cur, rfl, hg, hh, hle, _, hsz, htk⟩
    · exact absurd hv hne
    · have hgl : g < w'.heap.size := by
        apply Classical.byContradiction
        intro h
        rw [Array.getElem?_eq_none (by omega)] at hh
        cases hh
      refine ⟨some ⟨g, 0, none⟩, cap', rfl, ⟨ho', fun ad ha => by cases ha; exact ⟨hg, hgl⟩, ⟨b1, b2, b3, .inr ⟨g, 0, rfl, hgl, fun i hi => ?_⟩⟩⟩, hB⟩
      have e1 : (bs.map (Value.int .u8))[i]? = some (.int .u8 (bs[i]?.getD 0)) := by simp [List.getElem?_eq_getElem (show i < bs.length by omega)]
      rw [← htk, List.getElem?_take, if_pos (by omega)] at e1
      simp only [World.cell?, hh, Nat.zero_add]
      simpa using e1

/-- What termsOf answers. -/
def TermsRes (w : World) (n : Nat) (T U V : Nat → Tm) (bt bu bv : Nat → List Int) (e : Ending) (w' : World) : Prop :=
  ∃ v r B', e = .returned v ∧ OwnTR w' w.heap.size v r ∧ TermsOf (allT T U V bt bu bv n) (r.map TB.td) ∧ r.length ≤ 3 * n ∧ Below w.heap.size w w' ∧
    w.heap.size ≤ B' ∧ (∀ g, v.ownBlock = some g → g < B') ∧ (∀ y ∈ r, OwnY w' B' y.t.a y.t.len y.t.cap y.b) ∧ r.Pairwise (fun x y => ∀ p q, x.t.a = some p → y.t.a = some q → p.block < q.block)

/-- All terms of the first k triples, as they come. -/
def gTB (T U V : Nat → Tm) (bt bu bv : Nat → List Int) (k : Nat) : List TB := (List.range k).flatMap fun j => [⟨T j, bt j⟩, ⟨U j, bu j⟩, ⟨V j, bv j⟩]
theorem gTB_succ (T U V : Nat → Tm) (bt bu bv : Nat → List Int) (k : Nat) : gTB T U V bt bu bv (k + 1) = gTB T U V bt bu bv k ++ [⟨T k, bt k⟩, ⟨U k, bu k⟩, ⟨V k, bv k⟩] := by
  simp [gTB, List.range_succ, List.flatMap_append]
theorem gTB_len (T U V : Nat → Tm) (bt bu bv : Nat → List Int) (k : Nat) : (gTB T U V bt bu bv k).length = 3 * k := by
  induction k with
  | zero => rfl
  | succ k ih => rw [gTB_succ, List.length_append, ih]; simp; omega
theorem gTB_td (T U V : Nat → Tm) (bt bu bv : Nat → List Int) (k : Nat) : (gTB T U V bt bu bv k).map TB.td = allT T U V bt bu bv k := by
  induction k with
  | zero => rfl
  | succ k ih => rw [gTB_succ, allT_succ, List.map_append, ih]; rfl
theorem gTB_in {T U V : Nat → Tm} {bt bu bv : Nat → List Int} {n k : Nat} (hk : k ≤ n) {y : TB} (h : y ∈ gTB T U V bt bu bv k) : InG n T U V bt bu bv y := by
  obtain ⟨j, hj, hy⟩ := List.mem_flatMap.1 h
  have hj := List.mem_range.1 hj
  simp only [List.mem_cons, List.not_mem_nil, or_false] at hy
  exact ⟨j, by omega, hy⟩
end Go.Proofs.YtobnpfcgcoooeaaGreatDoor
