/- Texts put together: StsL StsM -/
import Derived.Test.YtobnpfcgcoooeaaGreatDoorMk29
/- StsL -/
namespace Go.Proofs.YtobnpfcgcoooeaaGreatDoor
open Go.RowKit Go.Deep Go.Sort Go.Lib
set_option maxRecDepth 100000

set_option maxHeartbeats 32000000 in
theorem pdqM (o : Nat) (ho : o < 6) (blk off cap : Nat) (d0 : Array (Int × Int × Int)) (w0 : World) (R : RowK encR 3 w0 blk off d0) (hsz : d0.size < 1048576) :
    ∀ (N a b limit : Nat) (d : Array (Int × Int × Int)) (w : World), b - a < N → d.size = d0.size → SWK encR 3 w0 blk off d w → a ≤ b → b ≤ d0.size → limit < 1048576 → Go.Sort.Below (ltOf (rcmp o)) a b d →
    Calls Tryz.prog 78 #[.slice (some ⟨blk, off, none⟩) d0.size cap, .int .i64 a, .int .i64 b, .int .i64 limit, .func (.func 47) #[.int .i64 o] #[]] w fun e w' => e = .returned (.tuple #[]) ∧ SWK encR 3 w0 blk off (pdq (ltOf (rcmp o)) d a b limit true true) w' := by
  have mixed : Tryz.prog.follows .mixedOrders = true := by kernel_rfl
  have HR : Hid (RowK encR 3 w0 blk off d0) := R
  have HC : Hid (∀ x y W, Calls Tryz.prog 47 #[.int .i64 o, .agg #[.int .i64 x.1, .int .i64 x.2.1, .int .i64 x.2.2], .agg #[.int .i64 y.1, .int .i64 y.2.1, .int .i64 y.2.2]] W fun e w' => e = .returned (.int .i64 (rcmp o x y)) ∧ ∃ q os, w' = grow (W.drewN q) os) := cmpM o ho
  clear R
  intro N
  induction N with
  | zero => intro _ _ _ _ _ h; exact absurd h (Nat.not_lt_zero _)
  | succ N ih =>
    intro a b limit d w hN hs S hab hb hlimit hBel0
    have IH : Hid (∀ (a b limit : Nat) (d : Array (Int × Int × Int)) (w : World), b - a < N → d.size = d0.size → SWK encR 3 w0 blk off d w → a ≤ b → b ≤ d0.size → limit < 1048576 → Go.Sort.Below (ltOf (rcmp o)) a b d →
      Calls Tryz.prog 78 #[.slice (some ⟨blk, off, none⟩) d0.size cap, .int .i64 a, .int .i64 b, .int .i64 limit, .func (.func 47) #[.int .i64 o] #[]] w fun e w' => e = .returned (.tuple #[]) ∧ SWK encR 3 w0 blk off (pdq (ltOf (rcmp o)) d a b limit true true) w') := ih
    clear ih
    have HS0 : Hid (SWK encR 3 w0 blk off d w) := S
    have HB0 : Hid (Go.Sort.Below (ltOf (rcmp o)) a b d) := hBel0
    have HZ0 : Hid (d.size = d0.size) := hs
    obtain ⟨RES, hRES⟩ : ∃ r, r = pdq (ltOf (rcmp o)) d a b limit true true := ⟨_, rfl⟩
    have HRES : Hid (pdq (ltOf (rcmp o)) d a b limit true true = RES) := hRES.symm
    rw [← hRES]
    clear hRES S hBel0 hs
    go_enter Tryz.func78, Tryz.ntmps78
    go_wp2
    go_loopg [1, 2, 3, 10, 11] (b - a) (fun kx s1 s2 s3 s8 s9 wr => ∃ (a' b' lim : Nat) (wb wp : Bool) (dk : Array (Int × Int × Int)), s1 = .int .i64 a' ∧ s2 = .int .i64 b' ∧ s3 = .int .i64 lim ∧ s8 = .bool wb ∧ s9 = .bool wp ∧
      a' ≤ b' ∧ b' ≤ d0.size ∧ b' - a' ≤ kx ∧ kx ≤ b - a ∧ lim ≤ limit ∧ Hid (dk.size = d0.size) ∧ Hid (Go.Sort.Below (ltOf (rcmp o)) a' b' dk) ∧ Hid (SWK encR 3 w0 blk off dk wr) ∧ Hid (pdq (ltOf (rcmp o)) dk a' b' lim wb wp = RES))
    case atStart => exact ⟨a, b, limit, true, true, d, rfl, rfl, rfl, rfl, rfl, hab, hb, Nat.le_refl _, Nat.le_refl _, Nat.le_refl _, HZ0, HB0, HS0, HRES⟩
    case round =>
      obtain ⟨a', b', lim, wb, wp, dk, rfl, rfl, rfl, rfl, rfl, hab', hb', hkx, hkN, hlim, hds, HBel, HS, A⟩ := hrel
      have hds' := hds.out
      by_cases h12 : b' - a' ≤ 12
      · have h12z : (b' : Int) - (a' : Int) ≤ 12 := by omega
        have hc := insW o ho blk off cap d0 w0 HR.out hsz a' b' dk wr hds.out HS.out hab' hb'
        clear hds'
        go_wp2_with fail
        refine hc.mono ?_
        rintro e w1 ⟨rfl, hw1⟩
        have HW : Hid (SWK encR 3 w0 blk off (Go.Sort.insertionSort (ltOf (rcmp o)) dk a' b') w1) := hw1
        clear hw1 hc
        go_wp2_with fail
        (try simp only [Exit.inBlock, Exit.then])
        refine bodyPost_ret (results_none rfl _ _ _) rfl ?_
        refine ⟨rfl, ?_⟩
        rw [← A.out, pdq_small h12]
        exact HW.out
      · have h12z : ¬ ((b' : Int) - (a' : Int) ≤ 12) := by omega
        by_cases hl0 : lim = 0
        · have hc := heapW o ho blk off cap d0 w0 HR.out hsz a' b' dk wr hds.out HS.out (by omega) hb'
          have A' : Hid (heapSort (ltOf (rcmp o)) dk a' b' = RES) := (show _ = _ by rw [← A.out, pdq_heap h12 hl0])
          clear hds'
          subst hl0
          go_wp2_with fail
          refine hc.mono ?_
          rintro e w1 ⟨rfl, hw1⟩
          have HW : Hid (SWK encR 3 w0 blk off (heapSort (ltOf (rcmp o)) dk a' b') w1) := hw1
          clear hw1 hc
          go_wp2_with fail
          (try simp only [Exit.inBlock, Exit.then])
          refine bodyPost_ret (results_none rfl _ _ _) rfl ?_
          refine ⟨rfl, ?_⟩
          rw [← A'.out]
          exact HW.out
        · have hl0z : ¬ ((lim : Int) = 0) := by omega
          obtain ⟨d1, lim1, cp, ch, d2, pivot, hint, d3, pf, z1, z2, z3, hc1, hc2, hp1, hp2, hl1, hwf, hwt, hcp, hdec, hndec, B2, hpiy, hpin, hdone, hpe, hpt⟩ := pdq_round (ltOf (rcmp o)) (swo_rcmp o) dk a' b' lim wb wp (by omega) HBel.out h12 hl0
          have z1 : d1.size = d0.size := z1.trans hds'
          have z2 : d2.size = d0.size := z2.trans hds'
          have z3 : d3.size = d0.size := z3.trans hds'
          have HZ1 : Hid (d1.size = d0.size) := z1
          have HZ2 : Hid (d2.size = d0.size) := z2
          have HZ3 : Hid (d3.size = d0.size) := z3
          have HWF : Hid (wb = false → d1 = breakPatterns dk a' b' ∧ lim1 = lim - 1) := hwf
          have HWT : Hid (wb = true → d1 = dk ∧ lim1 = lim) := hwt
          have HDE : Hid (ch = .decreasing → d2 = reverseRange d1 a' b' ∧ pivot = b' - 1 - (cp - a') ∧ hint = .increasing) := hdec
          have HND : Hid (ch ≠ .decreasing → d2 = d1 ∧ pivot = cp ∧ hint = ch) := hndec
          have HB2 : Hid (Go.Sort.Below (ltOf (rcmp o)) a' b' d2) := B2
          have HPY : Hid ((wb && wp && decide (hint = .increasing)) = true → partialInsertionSort (ltOf (rcmp o)) d2 a' b' = (d3, pf)) := hpiy
          have HPN : Hid ((wb && wp && decide (hint = .increasing)) = false → d3 = d2 ∧ pf = false) := hpin
          have HDN : Hid (pf = true → pdq (ltOf (rcmp o)) dk a' b' lim wb wp = d3) := hdone
          have HPE : Hid (pf = false → (decide (a' > 0) && !(ltOf (rcmp o)) d3[a' - 1]! d3[pivot]!) = true → ∀ mid d4, partitionEqual (ltOf (rcmp o)) d3 a' b' pivot = (mid, d4) → a' < mid ∧ mid ≤ b' ∧ d4.size = dk.size ∧ Go.Sort.Below (ltOf (rcmp o)) mid b' d4 ∧ pdq (ltOf (rcmp o)) dk a' b' lim wb wp = pdq (ltOf (rcmp o)) d4 mid b' lim1 wb wp) := hpe
          have HPT : Hid (pf = false → (decide (a' > 0) && !(ltOf (rcmp o)) d3[a' - 1]! d3[pivot]!) = false → ∀ mid al d4, Go.Sort.partition (ltOf (rcmp o)) d3 a' b' pivot = (mid, al, d4) → a' ≤ mid ∧ mid < b' ∧ d4.size = dk.size ∧ Go.Sort.Below (ltOf (rcmp o)) a' mid d4 ∧ Go.Sort.Below (ltOf (rcmp o)) (mid + 1) b' d4 ∧
            (mid - a' < b' - mid → (pdq (ltOf (rcmp o)) d4 a' mid lim1 true true).size = dk.size ∧ Go.Sort.Below (ltOf (rcmp o)) (mid + 1) b' (pdq (ltOf (rcmp o)) d4 a' mid lim1 true true) ∧ pdq (ltOf (rcmp o)) dk a' b' lim wb wp = pdq (ltOf (rcmp o)) (pdq (ltOf (rcmp o)) d4 a' mid lim1 true true) (mid + 1) b' lim1 (decide (mid - a' ≥ (b' - a') / 8)) al) ∧
            (¬ mid - a' < b' - mid → (pdq (ltOf (rcmp o)) d4 (mid + 1) b' lim1 true true).size = dk.size ∧ Go.Sort.Below (ltOf (rcmp o)) a' mid (pdq (ltOf (rcmp o)) d4 (mid + 1) b' lim1 true true) ∧ pdq (ltOf (rcmp o)) dk a' b' lim wb wp = pdq (ltOf (rcmp o)) (pdq (ltOf (rcmp o)) d4 (mid + 1) b' lim1 true true) a' mid lim1 (decide (b' - mid ≥ (b' - a') / 8)) al)) := hpt
          have hc17 := fun W S => pivW o ho blk off cap d0 w0 HR.out hsz a' b' d1 W z1 S (by omega) hb'
          rw [hcp] at hc17
          clear z1 z2 z3 hwf hwt hdec hndec B2 hpiy hpin hdone hpe hpt hcp hds'
          go_upto_if 39 with fail
          go_cut [3] from 21 to 147 (fun s3 wc => s3 = .int .i64 lim1 ∧ Hid (SWK encR 3 w0 blk off d1 wc))
          case first =>
            cases wb
            · have hw := HWF.out rfl
              have hc := breakW blk off cap d0 w0 HR.out hsz a' b' dk wr hds.out HS.out (.func (.func 47) #[.int .i64 o] #[]) (by omega) hb'
              go_wp2_with fail
              refine hc.mono ?_
              rintro e w1 ⟨rfl, hw1⟩
              have HW : Hid (SWK encR 3 w0 blk off d1 w1) := by
                show SWK _ _ _ _ _ _ _
                rw [hw.1]
                exact hw1
              have hw2 : Hid (lim1 = lim - 1) := hw.2
              clear hw1 hc hw
              go_wp2_with fail
              go_meet
              case rel =>
                refine ⟨?_, HW⟩
                have := hw2.out
                congr 1
                omega
            · have hw := HWT.out rfl
              have HW : Hid (SWK encR 3 w0 blk off d1 wr) := by
                show SWK _ _ _ _ _ _ _
                rw [hw.1]
                exact HS.out
              have hw2 : Hid (lim1 = lim) := hw.2
              clear hw
              go_wp2_with fail
              go_meet
              case rel => exact ⟨by rw [hw2.out], HW⟩
          case rest =>
            obtain ⟨rfl, HS1⟩ := hcut
            have hc17' := hc17 wc HS1.out
            clear hc17
            go_upto_if 56 with (go_at_call 105; refine hc17'.mono ?_; rintro e w2 ⟨rfl, HS2'⟩)
            have HS2 : Hid (SWK encR 3 w0 blk off d1 w2) := HS2'
            clear HS2' hc17'
            go_cut [13, 14] from 21 to 147 (fun s11 s12 wc => s11 = .int .i64 pivot ∧ s12 = .int .i64 (hintCode hint) ∧ Hid (SWK encR 3 w0 blk off d2 wc))
            case first =>
              by_cases hh : ch = .decreasing
              · have hcode : hintCode ch = 2 := by rw [hh]; rfl
                have hd := HDE.out hh
                have hc18 := revW blk off cap d0 w0 HR.out hsz a' b' d1 w2 HZ1.out HS2.out (.func (.func 47) #[.int .i64 o] #[]) hab' hb'
                have HD : Hid (d2 = reverseRange d1 a' b' ∧ pivot = b' - 1 - (cp - a') ∧ hint = .increasing) := hd
                clear hd hh
                go_wp2_with fail
                refine hc18.mono ?_
                rintro e w3 ⟨rfl, hw3⟩
                have HW : Hid (SWK encR 3 w0 blk off d2 w3) := by
                  show SWK _ _ _ _ _ _ _
                  rw [HD.out.1]
                  exact hw3
                clear hw3 hc18
                go_wp2_with fail
                go_meet
                case rel =>
                  refine ⟨?_, by rw [HD.out.2.2]; rfl, HW⟩
                  have := HD.out.2.1
                  congr 1
                  omega
              · have hcode : ¬ (hintCode ch = 2) := fun h => hh (hintCode_two h)
                have HD : Hid (d2 = d1 ∧ pivot = cp ∧ hint = ch) := HND.out hh
                have HW : Hid (SWK encR 3 w0 blk off d2 w2) := by
                  show SWK _ _ _ _ _ _ _
                  rw [HD.out.1]
                  exact HS2.out
                go_wp2_with fail
                go_meet
                case rel => exact ⟨by rw [HD.out.2.1], by rw [HD.out.2.2], HW⟩
            case rest =>
              obtain ⟨rfl, rfl, HS3⟩ := hcut
              go_upto_region 15 with fail
              go_cut [14, 75] from 21 to 147 (fun s12 s68 wx => s12 = .int .i64 (hintCode hint) ∧ s68 = .bool (wb && wp && decide (hint = .increasing)) ∧ wx = wc)
              case first =>
                clear HWF HWT HPY HPN HDN HPE HPT A HND HDE
                cases wb <;> cases wp <;> cases hint <;>
                  (simp only [hintCode]
                   go_wp2_with fail
                   go_meet
                   exact ⟨by simp [hintCode], by simp, rfl⟩)
              case rest =>
                obtain ⟨rfl, rfl, rfl⟩ := hcut
                go_upto_if 75 with fail
                go_cut [] from 21 to 147 (fun wx => pf = false ∧ Hid (SWK encR 3 w0 blk off d3 wx))
                case first =>
                  cases h68 : (wb && wp && decide (hint = .increasing))
                  · have HW : Hid (SWK encR 3 w0 blk off d3 wc) := by
                      show SWK _ _ _ _ _ _ _
                      rw [(HPN.out h68).1]
                      exact HS3.out
                    have hpf : Hid (pf = false) := (HPN.out h68).2
                    clear h68
                    go_wp2_with fail
                    go_meet
                    case rel => exact ⟨hpf.out, HW⟩
                  · have hc19 := partInsW o ho blk off cap d0 w0 HR.out hsz a' b' d2 wc HZ2.out HS3.out (by omega) hb' HB2.out
                    rw [HPY.out h68] at hc19
                    clear h68
                    go_wp2_with fail
                    refine hc19.mono ?_
                    rintro e w4 ⟨rfl, hw4⟩
                    have HW : Hid (SWK encR 3 w0 blk off d3 w4) := hw4
                    clear hw4 hc19
                    cases hpf : pf
                    · go_wp2_with fail
                      go_meet
                      case rel => exact ⟨hpf, HW⟩
                    · have HV : Hid (d3 = RES) := (HDN.out hpf).symm.trans A.out
                      go_wp2_with fail
                      (try simp only [Exit.inBlock, Exit.then])
                      refine bodyPost_ret (results_none rfl _ _ _) rfl ?_
                      refine ⟨rfl, ?_⟩
                      rw [← HV.out]
                      exact HW.out
                case rest =>
                  obtain ⟨hpf, HS5⟩ := hcut
                  have z3 := HZ3.out
                  have hds' := hds.out
                  rcases Nat.eq_zero_or_pos a' with ha0 | ha0
                  · have h87 : (decide (a' > 0) && !(ltOf (rcmp o)) d3[a' - 1]! d3[pivot]!) = false := by simp [ha0]
                    have ha0z : decide ((a' : Int) > 0) = false := decide_eq_false (by omega)
                    have hn0 : ¬ (0 < a') := by omega
                    have hn0d : decide (0 < a') = false := decide_eq_false hn0
                    have hn0z : decide ((0 : Int) < (a' : Int)) = false := decide_eq_false (by omega)
                    have HX : Hid (a' = 0) := ha0
                    clear ha0
                    go_wp2_with fail
                    go_big_region_o
                    have HS6 : Hid (SWK encR 3 w0 blk off d3 wc.drew) := HS5.out.drew
                    generalize wc.drew = w6 at HS6 ⊢
                    obtain ⟨⟨mid, al, d4⟩, hx⟩ : ∃ r, Go.Sort.partition (ltOf (rcmp o)) d3 a' b' pivot = r := ⟨_, rfl⟩
                    obtain ⟨r1, r2, r3, r4, r5, r6, r7⟩ := HPT.out hpf h87 mid al d4 hx
                    have hc22 := partW o ho blk off cap d0 w0 HR.out hsz a' b' d3 w6 z3 HS6.out pivot mid al d4 hp1 hp2 hb' hx (by omega)
                    have HB4 : Hid (Go.Sort.Below (ltOf (rcmp o)) a' mid d4) := r4
                    have HB5 : Hid (Go.Sort.Below (ltOf (rcmp o)) (mid + 1) b' d4) := r5
                    have H6 : Hid (mid - a' < b' - mid → (pdq (ltOf (rcmp o)) d4 a' mid lim1 true true).size = dk.size ∧ Go.Sort.Below (ltOf (rcmp o)) (mid + 1) b' (pdq (ltOf (rcmp o)) d4 a' mid lim1 true true) ∧ pdq (ltOf (rcmp o)) dk a' b' lim wb wp = pdq (ltOf (rcmp o)) (pdq (ltOf (rcmp o)) d4 a' mid lim1 true true) (mid + 1) b' lim1 (decide (mid - a' ≥ (b' - a') / 8)) al) := r6
                    have H7 : Hid (¬ mid - a' < b' - mid → (pdq (ltOf (rcmp o)) d4 (mid + 1) b' lim1 true true).size = dk.size ∧ Go.Sort.Below (ltOf (rcmp o)) a' mid (pdq (ltOf (rcmp o)) d4 (mid + 1) b' lim1 true true) ∧ pdq (ltOf (rcmp o)) dk a' b' lim wb wp = pdq (ltOf (rcmp o)) (pdq (ltOf (rcmp o)) d4 (mid + 1) b' lim1 true true) a' mid lim1 (decide (b' - mid ≥ (b' - a') / 8)) al) := r7
                    have z4 : Hid (d4.size = d0.size) := (show d4.size = d0.size by omega)
                    clear hx r3 r4 r5 r6 r7 h87
                    go_wp2_with fail
                    refine hc22.mono ?_
                    rintro e w7 ⟨rfl, HS7'⟩
                    have HS7 : Hid (SWK encR 3 w0 blk off d4 w7) := HS7'
                    clear HS7' hc22
                    by_cases h4 : mid - a' < b' - mid
                    · have h4z : (mid : Int) - (a' : Int) < (b' : Int) - (mid : Int) := by omega
                      have hih := IH.out a' mid lim1 d4 w7 (by omega) z4.out HS7.out r1 (by omega) (by omega) HB4.out
                      go_wp2_with fail
                      refine hih.mono ?_
                      rintro e w8 ⟨rfl, HS8⟩
                      clear hih
                      go_wp2
                      go_roundg (b' - (mid + 1))
                      case measure => omega
                      case rel =>
                        refine ⟨mid + 1, b', lim1, decide (mid - a' ≥ (b' - a') / 8), al, pdq (ltOf (rcmp o)) d4 a' mid lim1 true true, by first | rfl | go_num, rfl, rfl, ?_, rfl, by omega, by omega, Nat.le_refl _, by omega, by omega, (H6.out h4).1.trans hds.out, (H6.out h4).2.1, HS8, (show Hid _ from ?_)⟩
                        · exact congrArg Value.bool (eighth (by omega) (by omega))
                        · show _ = _
                          rw [← (H6.out h4).2.2]
                          exact A.out
                    · have h4z : ¬ (mid : Int) - (a' : Int) < (b' : Int) - (mid : Int) := by omega
                      have hih := IH.out (mid + 1) b' lim1 d4 w7 (by omega) z4.out HS7.out (by omega) (by omega) (by omega) HB5.out
                      rw [show ((mid + 1 : Nat) : Int) = (mid : Int) + 1 by omega] at hih
                      go_wp2_with fail
                      refine hih.mono ?_
                      rintro e w8 ⟨rfl, HS8⟩
                      clear hih
                      go_wp2
                      go_roundg (mid - a')
                      case measure => omega
                      case rel =>
                        refine ⟨a', mid, lim1, decide (b' - mid ≥ (b' - a') / 8), al, pdq (ltOf (rcmp o)) d4 (mid + 1) b' lim1 true true, rfl, rfl, rfl, ?_, rfl, by omega, by omega, Nat.le_refl _, by omega, by omega, (H7.out h4).1.trans hds.out, (H7.out h4).2.1, HS8, (show Hid _ from ?_)⟩
                        · exact congrArg Value.bool (eighth (by omega) (by omega))
                        · show _ = _
                          rw [← (H7.out h4).2.2]
                          exact A.out
                  · obtain ⟨q, rfl⟩ : ∃ q, a' = q + 1 := ⟨a' - 1, by omega⟩
                    have ha0z : (0 : Int) < (q : Int) + 1 := by omega
                    have ha0d : decide ((q : Int) + 1 > 0) = true := decide_eq_true (by omega)
                    have hwp : IntKind.i64.wrap (q : Int) = (q : Int) := by rw [IntKind.wrap_i64]; omega
                    have jz1 : (q : Int) < (d0.size : Int) := by omega
                    have pz1 : (pivot : Int) < (d0.size : Int) := by omega
                    obtain ⟨xa, hxa⟩ : ∃ x, d3[q]! = x := ⟨_, rfl⟩
                    obtain ⟨xp, hxp⟩ : ∃ x, d3[pivot]! = x := ⟨_, rfl⟩
                    have hL := fun n os => swk_at3 (HS5.out.grown n os) HR.out z3 q (by omega)
                    have hP := fun n os => swk_at3 (HS5.out.grown n os) HR.out z3 pivot (by omega)
                    rw [hxa] at hL
                    rw [hxp] at hP
                    have l0 := fun n os => (hL n os).1
                    have l1 := fun n os => (hL n os).2.1
                    have l2 := fun n os => (hL n os).2.2
                    have q0 := fun n os => (hP n os).1
                    have q1 := fun n os => (hP n os).2.1
                    have q2 := fun n os => (hP n os).2.2
                    have hcg := fun n os => HC.out xa xp (grow (wc.drewN n) os)
                    clear hL hP
                    by_cases hlv : rcmp o xa xp < 0
                    · have h87 : (decide (q + 1 > 0) && !(ltOf (rcmp o)) d3[q + 1 - 1]! d3[pivot]!) = false := by
                        simp only [Nat.add_sub_cancel]
                        rw [hxa, hxp]
                        simp [ltOf, hlv]
                      go_wp2_with fail
                      go_quiet_grown (first | (go_at_call 47; refine Calls.grown_of (hcg _ _)))
                      have HS6 : Hid (SWK encR 3 w0 blk off d3 (grow (wc.drewN nq) osq)) := HS5.out.grown nq osq
                      clear l0 l1 l2 q0 q1 q2 hcg
                      generalize grow (wc.drewN nq) osq = w6 at HS6 ⊢
                      obtain ⟨⟨mid, al, d4⟩, hx⟩ : ∃ r, Go.Sort.partition (ltOf (rcmp o)) d3 (q + 1) b' pivot = r := ⟨_, rfl⟩
                      obtain ⟨r1, r2, r3, r4, r5, r6, r7⟩ := HPT.out hpf h87 mid al d4 hx
                      have hc22 := partW o ho blk off cap d0 w0 HR.out hsz (q + 1) b' d3 w6 z3 HS6.out pivot mid al d4 hp1 hp2 hb' hx (by omega)
                      have HB4 : Hid (Go.Sort.Below (ltOf (rcmp o)) (q + 1) mid d4) := r4
                      have HB5 : Hid (Go.Sort.Below (ltOf (rcmp o)) (mid + 1) b' d4) := r5
                      have H6 : Hid (mid - (q + 1) < b' - mid → (pdq (ltOf (rcmp o)) d4 (q + 1) mid lim1 true true).size = dk.size ∧ Go.Sort.Below (ltOf (rcmp o)) (mid + 1) b' (pdq (ltOf (rcmp o)) d4 (q + 1) mid lim1 true true) ∧ pdq (ltOf (rcmp o)) dk (q + 1) b' lim wb wp = pdq (ltOf (rcmp o)) (pdq (ltOf (rcmp o)) d4 (q + 1) mid lim1 true true) (mid + 1) b' lim1 (decide (mid - (q + 1) ≥ (b' - (q + 1)) / 8)) al) := r6
                      have H7 : Hid (¬ mid - (q + 1) < b' - mid → (pdq (ltOf (rcmp o)) d4 (mid + 1) b' lim1 true true).size = dk.size ∧ Go.Sort.Below (ltOf (rcmp o)) (q + 1) mid (pdq (ltOf (rcmp o)) d4 (mid + 1) b' lim1 true true) ∧ pdq (ltOf (rcmp o)) dk (q + 1) b' lim wb wp = pdq (ltOf (rcmp o)) (pdq (ltOf (rcmp o)) d4 (mid + 1) b' lim1 true true) (q + 1) mid lim1 (decide (b' - mid ≥ (b' - (q + 1)) / 8)) al) := r7
                      have z4 : Hid (d4.size = d0.size) := (show d4.size = d0.size by omega)
                      clear hx r3 r4 r5 r6 r7 h87
                      go_wp2_with fail
                      refine hc22.mono ?_
                      rintro e w7 ⟨rfl, HS7'⟩
                      have HS7 : Hid (SWK encR 3 w0 blk off d4 w7) := HS7'
                      clear HS7' hc22
                      by_cases h4 : mid - (q + 1) < b' - mid
                      · have h4z : (mid : Int) - (((q + 1 : Nat)) : Int) < (b' : Int) - (mid : Int) := by omega
                        have hih := IH.out (q + 1) mid lim1 d4 w7 (by omega) z4.out HS7.out r1 (by omega) (by omega) HB4.out
                        go_wp2_with fail
                        refine hih.mono ?_
                        rintro e w8 ⟨rfl, HS8⟩
                        clear hih
                        go_wp2
                        go_roundg (b' - (mid + 1))
                        case measure => omega
                        case rel =>
                          refine ⟨mid + 1, b', lim1, decide (mid - (q + 1) ≥ (b' - (q + 1)) / 8), al, pdq (ltOf (rcmp o)) d4 (q + 1) mid lim1 true true, by first | rfl | go_num, rfl, rfl, ?_, rfl, by omega, by omega, Nat.le_refl _, by omega, by omega, (H6.out h4).1.trans hds.out, (H6.out h4).2.1, HS8, (show Hid _ from ?_)⟩
                          · exact congrArg Value.bool (eighth (by omega) (by omega))
                          · show _ = _
                            rw [← (H6.out h4).2.2]
                            exact A.out
                      · have h4z : ¬ (mid : Int) - (((q + 1 : Nat)) : Int) < (b' : Int) - (mid : Int) := by omega
                        have hih := IH.out (mid + 1) b' lim1 d4 w7 (by omega) z4.out HS7.out (by omega) (by omega) (by omega) HB5.out
                        rw [show ((mid + 1 : Nat) : Int) = (mid : Int) + 1 by omega] at hih
                        go_wp2_with fail
                        refine hih.mono ?_
                        rintro e w8 ⟨rfl, HS8⟩
                        clear hih
                        go_wp2
                        go_roundg (mid - (q + 1))
                        case measure => omega
                        case rel =>
                          refine ⟨(q + 1), mid, lim1, decide (b' - mid ≥ (b' - (q + 1)) / 8), al, pdq (ltOf (rcmp o)) d4 (mid + 1) b' lim1 true true, rfl, rfl, rfl, ?_, rfl, by omega, by omega, Nat.le_refl _, by omega, by omega, (H7.out h4).1.trans hds.out, (H7.out h4).2.1, HS8, (show Hid _ from ?_)⟩
                          · exact congrArg Value.bool (eighth (by omega) (by omega))
                          · show _ = _
                            rw [← (H7.out h4).2.2]
                            exact A.out
                    · have hld : decide (rcmp o xa xp < 0) = false := decide_eq_false hlv
                      have h87 : (decide (q + 1 > 0) && !(ltOf (rcmp o)) d3[q + 1 - 1]! d3[pivot]!) = true := by
                        simp only [Nat.add_sub_cancel]
                        rw [hxa, hxp]
                        simp [ltOf]
                        omega
                      go_wp2_with fail
                      go_quiet_grown (first | (go_at_call 47; refine Calls.grown_of (hcg _ _)))
                      have HS6 : Hid (SWK encR 3 w0 blk off d3 (grow (wc.drewN nq) osq)) := HS5.out.grown nq osq
                      clear l0 l1 l2 q0 q1 q2 hcg
                      generalize grow (wc.drewN nq) osq = w6 at HS6 ⊢
                      obtain ⟨⟨mid, d4⟩, hx⟩ : ∃ r, partitionEqual (ltOf (rcmp o)) d3 (q + 1) b' pivot = r := ⟨_, rfl⟩
                      obtain ⟨r1, r2, r3, r4, r5⟩ := HPE.out hpf h87 mid d4 hx
                      have hc21 := partEqW o ho blk off cap d0 w0 HR.out hsz (q + 1) b' d3 w6 z3 HS6.out pivot mid d4 hp1 hp2 hb' hx (by omega)
                      have HB4 : Hid (Go.Sort.Below (ltOf (rcmp o)) mid b' d4) := r4
                      have H5 : Hid (pdq (ltOf (rcmp o)) dk (q + 1) b' lim wb wp = pdq (ltOf (rcmp o)) d4 mid b' lim1 wb wp) := r5
                      have z4 : Hid (d4.size = d0.size) := (show d4.size = d0.size by omega)
                      clear hx r3 r4 r5 h87
                      go_wp2_with fail
                      refine hc21.mono ?_
                      rintro e w7 ⟨rfl, HS7⟩
                      clear hc21
                      go_wp2
                      go_roundg (b' - mid)
                      case measure => omega
                      case rel => exact ⟨mid, b', lim1, wb, wp, d4, rfl, rfl, rfl, rfl, rfl, r2, hb', Nat.le_refl _, by omega, by omega, z4.out, HB4, HS7, (show Hid _ from (H5.out.symm.trans A.out))⟩
end Go.Proofs.YtobnpfcgcoooeaaGreatDoor

/- StsM -/
namespace Go.Proofs.YtobnpfcgcoooeaaGreatDoor
open Go.RowKit Go.Deep Go.Sort Go.Lib
set_option maxRecDepth 100000

theorem bitsLen_m (n : Nat) (hn : n < 4611686018427387904) (w : World) : Calls Tryz.prog 73 #[.int .u64 (n : Int)] w fun e w' => e = .returned (.int .i64 (Lib.bitLen n : Nat)) ∧ w' = w := by
  have h := Any.bits_Len (Go.Proofs.SlLaysF0.n15.bits (P := Tryz.prog) { Tryz.sortRow with }) (n : Int) w (by omega) (by omega)
  rwa [Int.toNat_natCast] at h

set_option maxHeartbeats 4000000 in
/-- slices.SortFunc(rows, o.compare): the rows stand ascending by the order's keys; nothing else is changed but for new memory. -/
theorem sortM (o : Nat) (ho : o < 6) (blk off cap : Nat) (d : Array (Int × Int × Int)) (w : World) (R : RowK encR 3 w blk off d) (hsz : d.size < 1048576) :
    Calls Tryz.prog 46 #[.slice (some ⟨blk, off, none⟩) d.size cap, .func (.func 47) #[.int .i64 o] #[]] w fun e w' =>
      e = .returned (.tuple #[]) ∧ ∃ d', d'.toList.Perm d.toList ∧ d'.toList.Pairwise (fun x y => rcmp o x y ≤ 0) ∧ SWK encR 3 w blk off d' w' := by
  have hlim : Lib.bitLen d.size < 1048576 := Nat.lt_of_le_of_lt (Lib.bitLen_le d.size 62 (by omega) (by omega)) (by omega)
  have hp := pdqM o ho blk off cap d w R hsz (d.size + 1) 0 d.size (Lib.bitLen d.size) d w (by omega) rfl (SWK.start R.hH) (Nat.zero_le _) (Nat.le_refl _) hlim (Or.inl rfl)
  have hl := bitsLen_m d.size (by omega) w
  obtain ⟨hs1, hs2⟩ := pdq_sorts (ltOf (rcmp o)) (swo_rcmp o) d 0 d.size (Lib.bitLen d.size) true true (Nat.zero_le _) (Nat.le_refl _) (Or.inl rfl)
  generalize pdq (ltOf (rcmp o)) d 0 d.size (Lib.bitLen d.size) true true = d' at *
  have FIN : Hid (d'.toList.Perm d.toList ∧ d'.toList.Pairwise (fun x y => rcmp o x y ≤ 0)) := by
    have hsz' := hs1.1
    refine ⟨?_, ?_⟩
    · have := hs1.2.2
      rwa [← hsz', Array.extract_size, hsz', Array.extract_size] at this
    · rw [List.pairwise_iff_getElem]
      intro i j hi hj hij
      have hi' : i < d'.size := by simpa using hi
      have hj' : j < d'.size := by simpa using hj
      have h := hs2 i j (Nat.zero_le _) hij (by omega)
      have h := of_decide_eq_false h
      have a := (ord_rcmp o).anti d'[i] d'[j]
      rw [getElem!_pos d' i hi', getElem!_pos d' j hj'] at h
      simp only [Array.getElem_toList]
      omega
  generalize Lib.bitLen d.size = B at *
  have wr : IntKind.u64.wrap (d.size : Int) = d.size := by simp [IntKind.wrap, IntKind.bits, IntKind.signed]; omega
  clear R hs1 hs2
  go_enter Tryz.func46, Tryz.ntmps46
  go_wp2_with fail
  refine hl.mono ?_
  rintro e w' ⟨rfl, rfl⟩
  go_wp2_with fail
  refine hp.mono ?_
  rintro e w1 ⟨rfl, hw1⟩
  have HW : Hid (SWK encR 3 w' blk off d' w1) := hw1
  clear hw1 hp hl
  go_wp2
  go_end0
  exact ⟨rfl, d', FIN.out.1, FIN.out.2, HW.out⟩
end Go.Proofs.YtobnpfcgcoooeaaGreatDoor
