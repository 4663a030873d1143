/- FnStores, walked: a drawn graph's store. -/
import Derived.Test.YtobnpfcgcoooeaaGreatDoorDvStyB
namespace Go.Proofs.YtobnpfcgcoooeaaGreatDoor
open Go.RowKit Go.Deep
set_option maxRecDepth 100000

set_option maxHeartbeats 16000000 in
theorem walkStores (a : Option Addr) (len cap : Nat) (w : World) (hlen : len ≤ 9223372036854775807) (hC : Code w a len) (ht : Tab w) :
    Calls Tryz.prog 3 #[.slice a len cap] w fun e w' => e = .returned (.bool true) ∧ Below w.heap.size w w' := by
  have DR := drawStoreOf_any a len cap w hlen hC
  have HTab : Hid (Tab w) := ht
  clear hC ht
  go_enter Tryz.func3, Tryz.ntmps3
  go_wp2_with fail
  refine DR.mono ?_
  rintro e w1 ⟨ag, n, cg, T, U, V, bt, bu, bv, rfl, hn61, hfit, hrows, hx1, hx2, hx3, hb1⟩
  have HG : Hid (∀ W, Below w1.heap.size w1 W → AllFit n T U V ∧ Rows W ag n T U V ∧ Texts W n T bt ∧ Texts W n U bu ∧ Texts W n V bv ∧ Tab W) := fun W hW => ⟨hfit, hrows.below hW, hx1.below hW, hx2.below hW, hx3.below hW, HTab.out.below (bl_trans hb1 hW)⟩
  have IM := fun o => implStoreOf_any ag n cg T U V bt bu bv (w1.alloc o) (by omega) hfit (hrows.below (bl_a _)) (hx1.below (bl_a _)) (hx2.below (bl_a _)) (hx3.below (bl_a _)) (HTab.out.below (bl_trans hb1 (bl_a _)))
  have HB1 : Hid (Below w.heap.size w w1) := hb1
  clear DR hfit hrows hx1 hx2 hx3 hb1
  go_wp2_with fail
  refine (IM _).mono ?_
  rintro e w2 ⟨aT, capT, aR, capR, r, rbs, rfl, hOS, hAns, hb2⟩
  have hg2 : w2.cell? ⟨w1.heap.size, 0, none⟩ = some (.slice ag n cg) := (hb2.cell (p := ⟨w1.heap.size, 0, none⟩) (by simp)).trans (by simp [go_sem])
  have hl2 : w1.heap.size < w2.heap.size := by have := hb2.size; simp at this; omega
  have HB2 : Hid (Below w1.heap.size w1 w2) := bl_trans (bl_a _) hb2
  cases hok : graphOk n T U V bt bu bv with
  | false =>
    rcases hAns with ⟨_, hr, hE⟩ | ⟨h, _⟩
    rotate_left
    · rw [hok] at h
      cases h
    have hr0 : r = [] := by simpa using hr
    have hE0 : rbs = [] := by simpa using hE
    subst hr0 hE0
    have GO := fun o => specGraphOk_any ag n cg T U V bt bu bv (w2.alloc o) (by omega) (HG.out _ (bl_alloc HB2.out o)).1 (HG.out _ (bl_alloc HB2.out o)).2.1 (HG.out _ (bl_alloc HB2.out o)).2.2.1 (HG.out _ (bl_alloc HB2.out o)).2.2.2.1 (HG.out _ (bl_alloc HB2.out o)).2.2.2.2.1
    rw [hok] at GO
    have hg3 : ∀ o, (w2.alloc o).cell? ⟨w1.heap.size, 0, none⟩ = some (.slice ag n cg) := fun o => ((bl_a o).cell (p := ⟨w1.heap.size, 0, none⟩) hl2).trans hg2
    simp only [List.length_nil]
    have HL2 : Hid (w1.heap.size < w2.heap.size) := hl2
    clear hOS hr hE hb2 IM hok hl2
    go_wp2_with fail
    refine (GO _).mono ?_
    rintro e w3 ⟨rfl, hb3⟩
    have y1 : w3.cell? ⟨w2.heap.size, 1, none⟩ = some (.slice aR 0 capR) := (hb3.cell (p := ⟨w2.heap.size, 1, none⟩) (by simp)).trans (by simp [go_sem])
    have HB3 : Hid (Below w2.heap.size w2 w3) := bl_trans (bl_a _) hb3
    clear GO hb3 hg2 hg3
    go_wp2_with fail
    go_ret
    exact ⟨rfl, bl_trans HB1.out (bl_trans HB2.out HB3.out)⟩
  | true =>
    rcases hAns with ⟨h, _⟩ | ⟨_, hTM, h6, hrw⟩
    · rw [hok] at h
      cases h
    obtain ⟨aT', capT', aR', capR', eT, eR, hSA⟩ := hOS.arg
    simp only [Value.slice.injEq] at eT eR
    obtain ⟨rfl, -, rfl⟩ := eT
    obtain ⟨rfl, -, rfl⟩ := eR
    have hG1 := HG.out _ HB2.out
    obtain ⟨hn60, hgg⟩ := graph_good hok hG1.2.2.1 hG1.2.2.2.1 hG1.2.2.2.2.1
    have HP : Hid (SP n T U V bt bu bv r rbs) := by
      refine ⟨⟨hok, hTM, allT_good (fun z hz => (hgg z hz).1)⟩, hG1.1, by simpa using h6, fun i x hx => hrw i x.l (by rw [List.getElem?_map, hx]; rfl), fun x hx => ?_, hOS.gd⟩
      obtain ⟨a1, c1, e1, _, h1⟩ := (hOS.rr x hx).form
      cases e1
      exact h1
    have HR180 : Hid (r.length ≤ 180) := hOS.nr
    obtain ⟨nT, hnT⟩ : ∃ nT, nT = r.length := ⟨_, rfl⟩
    obtain ⟨nR, hnR⟩ : ∃ nR, nR = rbs.length := ⟨_, rfl⟩
    have HNT : Hid (nT = r.length) := hnT
    have HNR : Hid (nR = rbs.length) := hnR
    have HNR6 : Hid (nR = 6) := (show nR = 6 by rw [hnR]; simpa using h6)
    have HW0 : Hid (∀ o, o = Obj.cells #[.slice aT nT capT, .slice aR nR capR] 30 → SW (w2.alloc o) w1.heap.size w2.heap.size ag n cg T U V bt bu bv aT nT capT aR nR capR r rbs) := by
      intro o ho
      have hG2 := HG.out _ (bl_alloc HB2.out o)
      subst ho
      exact ⟨((bl_a _).cell (p := ⟨w1.heap.size, 0, none⟩) hl2).trans hg2, by simp [go_sem], by simp [go_sem], by simp; omega, by simp, hG2.2.1, hG2.2.2.1, hG2.2.2.2.1, hG2.2.2.2.2.1, hSA.below (bl_a _), hG2.2.2.2.2.2⟩
    rw [← hnT, ← hnR]
    have hSW := HW0.out _ rfl
    have OK := hSW.ok HNT.out HNR.out HP.out
    have x0 := hSW.b0
    have x1 := hSW.b1
    have h6z : (nR : Int) = 6 := by have := HNR6.out; omega
    clear hOS hTM h6 hrw hSA hG1 hgg hb2 IM hok hg2 hl2 hnT hnR
    go_wp2_with fail
    refine OK.mono ?_
    rintro e w3 ⟨rfl, hb3⟩
    have HSW : Hid (SW w3 w1.heap.size w2.heap.size ag n cg T U V bt bu bv aT nT capT aR nR capR r rbs) := hSW.below hb3
    have HB0 : Hid (Below w.heap.size w w3) := bl_trans HB1.out (bl_trans HB2.out (bl_trans (bl_a _) hb3))
    clear hSW HW0 OK x0 x1 hb3 HG HB1 HB2 HTab
    generalize w1.heap.size = pg at *
    generalize w2.heap.size = ps at *
    obtain ⟨W0, hW0⟩ : ∃ W0, W0 = w3 := ⟨_, rfl⟩
    rw [← hW0] at HSW HB0 ⊢
    clear hW0
    have x1 := HSW.out.b1
    go_wp2_with fail
    clear x1 h6z
    have hT180 : nT ≤ 180 := by have h1 := HNT.out; have h2 := HR180.out; omega
    go_loopw [6] (fun i wr => ∃ k : Nat, 1 ≤ k ∧ (k ≤ nT ∨ k = 1) ∧ i = .int .i64 k ∧ Hid (Below W0.heap.size W0 wr)) (fun i _ => nT - (intOf i).toNat)
    case atStart => exact ⟨1, by omega, by omega, rfl, Below.refl _ _⟩
    case round =>
      obtain ⟨k, hk1, hk2, rfl, HB⟩ := hrel
      have hS := HSW.out.below HB.out
      have c0 := hS.b0
      by_cases hlk : k < nT
      · obtain ⟨m, hm⟩ : ∃ m, k = m + 1 := ⟨k - 1, by omega⟩
        obtain ⟨x, hx⟩ : ∃ x, r[m]? = some x := ⟨_, List.getElem?_eq_getElem (by rw [← HNT.out]; omega)⟩
        obtain ⟨y, hy⟩ : ∃ y, r[m + 1]? = some y := ⟨_, List.getElem?_eq_getElem (by rw [← HNT.out]; omega)⟩
        obtain ⟨b, off, ea, hbl, x0, x1, x2, x3⟩ := hS.tcells hx
        obtain ⟨b', off', ea', hbl', y0, y1, y2, y3⟩ := hS.tcells hy
        rw [ea] at ea'
        cases ea'
        rw [← hm] at y0 y1 y2 y3
        have xr0 := fun d os => ((bl_regrown (w := wr) d os).cell (p := ⟨b, off + m * 4, none⟩) hbl).trans x0
        have xr1 := fun d os => ((bl_regrown (w := wr) d os).cell (p := ⟨b, off + m * 4 + 1, none⟩) hbl).trans x1
        have xr2 := fun d os => ((bl_regrown (w := wr) d os).cell (p := ⟨b, off + m * 4 + 2, none⟩) hbl).trans x2
        have xr3 := fun d os => ((bl_regrown (w := wr) d os).cell (p := ⟨b, off + m * 4 + 3, none⟩) hbl).trans x3
        have yr0 := fun d os => ((bl_regrown (w := wr) d os).cell (p := ⟨b, off + k * 4, none⟩) hbl).trans y0
        have yr1 := fun d os => ((bl_regrown (w := wr) d os).cell (p := ⟨b, off + k * 4 + 1, none⟩) hbl).trans y1
        have yr2 := fun d os => ((bl_regrown (w := wr) d os).cell (p := ⟨b, off + k * 4 + 2, none⟩) hbl).trans y2
        have yr3 := fun d os => ((bl_regrown (w := wr) d os).cell (p := ⟨b, off + k * 4 + 3, none⟩) hbl).trans y3
        have cr := fun d os => (hS.below (bl_regrown (w := wr) d os)).b0
        have C := fun d os => Calls.regrown_of ((hS.below (bl_regrown (w := wr) d os)).cmp HP.out hx hy)
        rw [ea] at c0 cr
        have hlkz : (k : Int) < (nT : Int) := by omega
        have hkm : (k : Int) - 1 = (m : Int) := by omega
        have hmn : (m : Int) < (nT : Int) := by omega
        have hm0 : (0 : Int) ≤ (m : Int) := by omega
        have hwm : IntKind.i64.wrap (m : Int) = (m : Int) := by rw [IntKind.wrap_i64]; have h1 := HR180.out; have h2 := HNT.out; omega
        have hwk : IntKind.i64.wrap ((k : Int) - 1) = (m : Int) := by rw [IntKind.wrap_i64]; have h1 := HR180.out; have h2 := HNT.out; omega
        clear hx hy x0 x1 x2 x3 y0 y1 y2 y3 hS hm hbl hbl' ea
        go_wp2_with fail
        refine wp_region_quiet_below (by kernel_rfl) (by kernel_rfl) ?_
        quiet_step (fail)
        quiet_step (fail)
        quiet_step (fail)
        quiet_step (fail)
        quiet_step (fail)
        quiet_step (fail)
        quiet_step (fail)
        quiet_step (fail)
        quiet_step (fail)
        quiet_step (fail)
        quiet_step (fail)
        quiet_step (exact C _ _)
        quiet_step (fail)
        refine wpQuiet_nil ?_
        intro _ hw'
        obtain ⟨⟨dq, osq⟩, hw''⟩ := hw'
        subst hw''
        have HBq : Hid (Below W0.heap.size W0 (Go.Sort.grow (redrawn wr dq) osq)) := bl_trans HB.out (bl_regrown (w := wr) dq osq)
        clear xr0 xr1 xr2 xr3 yr0 yr1 yr2 yr3 cr C HB c0
        dsimp only
        generalize Go.Sort.grow (redrawn wr dq) osq = wq at *
        go_wp2_with fail
        go_roundw
        case rel => exact ⟨k + 1, by omega, by omega, by go_num, HBq⟩
        case measure => simp [intOf]; omega
      · have hlkz : ¬ (k : Int) < (nT : Int) := by omega
        have HB1 : Hid (Below W0.heap.size W0 wr) := HB.out
        clear HB hS
        go_wp2_with fail
        clear c0
        go_loopw [7] (fun i wr => ∃ k : Nat, k ≤ 6 ∧ i = .int .i64 k ∧ Hid (Below W0.heap.size W0 wr)) (fun i _ => 6 - (intOf i).toNat)
        case atStart => exact ⟨0, by omega, rfl, HB1⟩
        case round =>
          clear hlk hlkz hk1 hk2 HB1
          obtain ⟨k, hk, rfl, HB⟩ := hrel
          have hS := HSW.out.below HB.out
          by_cases hlk : k < 6
          · have hlkz : (k : Int) < 6 := by omega
            obtain ⟨x, hx, hxm, hxl⟩ := HP.out.at hlk
            obtain ⟨bR, oR, eR, hbR, hcR⟩ := hS.arg.srow.resolve_left (fun e => by rw [e] at hx; cases hx)
            have SC := (hS.below (Below.drew (Below.refl _ _))).scan0 HNT.out HNR.out HP.out k hlk
            have HF : Hid (∀ w', Below wr.heap.size wr w' → w'.cell? ⟨ps, 0, none⟩ = some (.slice aT nT capT) ∧ w'.cell? ⟨ps, 1, none⟩ = some (.slice (some ⟨bR, oR, none⟩) nR capR) ∧ w'.cell? ⟨pg, 0, none⟩ = some (.slice ag n cg) ∧ w'.cell? ⟨bR, oR + k, none⟩ = some (.slice x.a n x.cap)) := fun w' hb => ⟨(hS.below hb).b0, by rw [← eR]; exact (hS.below hb).b1, (hS.below hb).bg, by rw [← hxl]; exact (hb.cell (p := ⟨bR, oR + k, none⟩) hbR).trans (hcR k x hx)⟩
            rw [eR] at SC
            have hkR : (k : Int) < (nR : Int) := by have := HNR6.out; omega
            clear hx hxm hxl hcR hbR hS eR
            go_wp2_with fail
            refine wp_region_held_drew (S := fun w' => Below wr.heap.size wr w') (by kernel_rfl) ?_ (fun hHeld => ?_)
            · exact Below.drew (Below.refl _ _)
            refine take_at (i := 0) 64 (v := ?v1) rfl rfl (by kernel_rfl) (by kernel_rfl) (by kernel_rfl) (fun _ _ _ h => h) (Or.inl ⟨by rfl, ?y1⟩) hHeld ?r1
            case y1 => (intro w' hSw; skip; go_simp; (try with_reducible rfl))
            try simp only [Act.put, List.setIfInBounds_toArray, List.set_cons_zero, List.set_cons_succ]
            refine take_at (i := 1) 65 (v := ?v2) rfl rfl (by kernel_rfl) (by kernel_rfl) (by kernel_rfl) (fun _ _ _ h => h) (Or.inl ⟨by rfl, ?y2⟩) hHeld ?r2
            case y2 => (intro w' hSw; obtain ⟨b0, b1, b2, b3⟩ := HF.out w' hSw; go_simp; (try with_reducible rfl))
            try simp only [Act.put, List.setIfInBounds_toArray, List.set_cons_zero, List.set_cons_succ]
            refine take_at (i := 2) 66 (v := ?v3) rfl rfl (by kernel_rfl) (by kernel_rfl) (by kernel_rfl) (fun _ _ _ h => h) (Or.inl ⟨by rfl, ?y3⟩) hHeld ?r3
            case y3 => (intro w' hSw; skip; go_simp; (try with_reducible rfl))
            try simp only [Act.put, List.setIfInBounds_toArray, List.set_cons_zero, List.set_cons_succ]
            refine take_at (i := 3) 67 (v := ?v4) rfl rfl (by kernel_rfl) (by kernel_rfl) (by kernel_rfl) (fun _ _ _ h => h) (Or.inl ⟨by rfl, ?y4⟩) hHeld ?r4
            case y4 => (intro w' hSw; skip; go_simp; (try with_reducible rfl))
            try simp only [Act.put, List.setIfInBounds_toArray, List.set_cons_zero, List.set_cons_succ]
            refine take_at (i := 4) 68 (v := ?v5) rfl rfl (by kernel_rfl) (by kernel_rfl) (by kernel_rfl) (fun _ _ _ h => h) (Or.inl ⟨by rfl, ?y5⟩) hHeld ?r5
            case y5 => (intro w' hSw; obtain ⟨b0, b1, b2, b3⟩ := HF.out w' hSw; go_simp; (try with_reducible rfl))
            try simp only [Act.put, List.setIfInBounds_toArray, List.set_cons_zero, List.set_cons_succ]
            refine take_at (i := 5) 69 (v := ?v6) rfl rfl (by kernel_rfl) (by kernel_rfl) (by kernel_rfl) (fun _ _ _ h => h) (Or.inl ⟨by rfl, ?y6⟩) hHeld ?r6
            case y6 => (intro w' hSw; skip; go_simp; (try with_reducible rfl))
            try simp only [Act.put, List.setIfInBounds_toArray, List.set_cons_zero, List.set_cons_succ]
            refine take_at (i := 6) 70 (v := ?v7) rfl rfl (by kernel_rfl) (by kernel_rfl) (by kernel_rfl) (fun _ _ _ h => h) (Or.inl ⟨by rfl, ?y7⟩) hHeld ?r7
            case y7 => (intro w' hSw; skip; go_simp; (try with_reducible rfl))
            try simp only [Act.put, List.setIfInBounds_toArray, List.set_cons_zero, List.set_cons_succ]
            refine take_at (i := 7) 71 (v := ?v8) rfl rfl (by kernel_rfl) (by kernel_rfl) (by kernel_rfl) (fun _ _ _ h => h) (Or.inl ⟨by rfl, ?y8⟩) hHeld ?r8
            case y8 => (intro w' hSw; obtain ⟨b0, b1, b2, b3⟩ := HF.out w' hSw; go_simp; (try with_reducible rfl))
            try simp only [Act.put, List.setIfInBounds_toArray, List.set_cons_zero, List.set_cons_succ]
            refine take_at (i := 8) 72 (v := ?v9) rfl rfl (by kernel_rfl) (by kernel_rfl) (by kernel_rfl) (fun _ _ _ h => h) (Or.inl ⟨by rfl, ?y9⟩) hHeld ?r9
            case y9 => (intro w' hSw; skip; go_simp; (try with_reducible rfl))
            try simp only [Act.put, List.setIfInBounds_toArray, List.set_cons_zero, List.set_cons_succ]
            refine take_at (i := 9) 73 (v := ?v10) rfl rfl (by kernel_rfl) (by kernel_rfl) (by kernel_rfl) (fun _ _ _ h => h) (Or.inl ⟨by rfl, ?y10⟩) hHeld ?r10
            case y10 => (intro w' hSw; skip; go_simp; (try with_reducible rfl))
            try simp only [Act.put, List.setIfInBounds_toArray, List.set_cons_zero, List.set_cons_succ]
            refine take_at (i := 10) 74 (v := ?v11) rfl rfl (by kernel_rfl) (by kernel_rfl) (by kernel_rfl) (fun _ _ _ h => h) (Or.inl ⟨by rfl, ?y11⟩) hHeld ?r11
            case y11 => (intro w' hSw; skip; go_simp; (try with_reducible rfl))
            try simp only [Act.put, List.setIfInBounds_toArray, List.set_cons_zero, List.set_cons_succ]
            refine take_at (i := 11) 75 (v := ?v12) rfl rfl (by kernel_rfl) (by kernel_rfl) (by kernel_rfl) (fun _ _ _ h => h) (Or.inl ⟨by rfl, ?y12⟩) hHeld ?r12
            case y12 => (intro w' hSw; obtain ⟨b0, b1, b2, b3⟩ := HF.out w' hSw; go_simp; (try with_reducible rfl))
            try simp only [Act.put, List.setIfInBounds_toArray, List.set_cons_zero, List.set_cons_succ]
            refine take_at (i := 12) 76 (v := ?v13) rfl rfl (by kernel_rfl) (by kernel_rfl) (by kernel_rfl) (fun _ _ _ h => h) (Or.inl ⟨by rfl, ?y13⟩) hHeld ?r13
            case y13 => (intro w' hSw; skip; go_simp; (try with_reducible rfl))
            try simp only [Act.put, List.setIfInBounds_toArray, List.set_cons_zero, List.set_cons_succ]
            refine take_at (i := 15) 79 (v := ?v14) rfl rfl (by kernel_rfl) (by kernel_rfl) (by kernel_rfl) (fun _ _ _ h => h) (Or.inl ⟨by rfl, ?y14⟩) hHeld ?r14
            case y14 => (intro w' hSw; skip; go_simp; (try with_reducible rfl))
            try simp only [Act.put, List.setIfInBounds_toArray, List.set_cons_zero, List.set_cons_succ]
            refine take_at (i := 16) 80 (v := ?v15) rfl rfl (by kernel_rfl) (by kernel_rfl) (by kernel_rfl) (fun _ _ _ h => h) (Or.inl ⟨by rfl, ?y15⟩) hHeld ?r15
            case y15 => (intro w' hSw; obtain ⟨b0, b1, b2, b3⟩ := HF.out w' hSw; go_simp; (try with_reducible rfl))
            try simp only [Act.put, List.setIfInBounds_toArray, List.set_cons_zero, List.set_cons_succ]
            refine take_at (i := 17) 81 (v := ?v16) rfl rfl (by kernel_rfl) (by kernel_rfl) (by kernel_rfl) (fun _ _ _ h => h) (Or.inl ⟨by rfl, ?y16⟩) hHeld ?r16
            case y16 => (intro w' hSw; skip; go_simp; (try with_reducible rfl))
            try simp only [Act.put, List.setIfInBounds_toArray, List.set_cons_zero, List.set_cons_succ]
            refine wpAnyH_ready (rs := [13]) (by kernel_rfl) (by simp) ?_
            refine AllReadyH.cons rfl (fun K hK => ?_) AllReadyH.nil
            go_simp
            refine (SC).mono ?_
            rintro e w5 ⟨⟨b5, c5, rfl⟩, hb5⟩
            have HB5 : Hid (Below wr.heap.size wr w5) := (Below.drew (Below.refl _ _)).trans hb5
            clear hb5
            go_wp2_with fail
            refine hK.out _ _ ?_ (fun hHeld => ?_)
            · exact HB5.out
            clear hK K
            try simp only [Act.put, List.setIfInBounds_toArray, List.set_cons_zero, List.set_cons_succ]
            refine take_at (i := 14) 78 (v := ?v17) rfl rfl (by kernel_rfl) (by kernel_rfl) (by kernel_rfl) (fun _ _ _ h => h) (Or.inl ⟨by rfl, ?y17⟩) hHeld ?r17
            case y17 => (intro w' hSw; skip; go_simp; (try with_reducible rfl))
            try simp only [Act.put, List.setIfInBounds_toArray, List.set_cons_zero, List.set_cons_succ]
            refine take_at (i := 18) 82 (v := ?v18) rfl rfl (by kernel_rfl) (by kernel_rfl) (by kernel_rfl) (fun _ _ _ h => h) (Or.inl ⟨by rfl, ?y18⟩) hHeld ?r18
            case y18 => (intro w' hSw; skip; go_simp; (try with_reducible rfl))
            try simp only [Act.put, List.setIfInBounds_toArray, List.set_cons_zero, List.set_cons_succ]
            refine take_at (i := 19) 83 (v := ?v19) rfl rfl (by kernel_rfl) (by kernel_rfl) (by kernel_rfl) (fun _ _ _ h => h) (Or.inl ⟨by rfl, ?y19⟩) hHeld ?r19
            case y19 => (intro w' hSw; skip; go_simp; (try with_reducible rfl))
            try simp only [Act.put, List.setIfInBounds_toArray, List.set_cons_zero, List.set_cons_succ]
            refine wpAnyH_done (by kernel_rfl) ?_ _
            have HBq : Hid (Below W0.heap.size W0 w5) := bl_trans HB.out HB5.out
            clear hHeld HF SC HB HB5
            go_wp2_with fail
            go_roundw
            case rel => exact ⟨k + 1, by omega, by go_num, HBq⟩
            case measure => simp [intOf]; omega
          · have hlkz : ¬ (k : Int) < 6 := by omega
            have HB2 : Hid (Below W0.heap.size W0 wr) := HB.out
            clear HB hS
            go_wp2_with fail
            go_loopw [8] (fun i wr => ∃ k : Nat, k ≤ n ∧ i = .int .i64 k ∧ Hid (Below W0.heap.size W0 wr)) (fun i _ => n - (intOf i).toNat)
            case atStart => exact ⟨0, by omega, rfl, HB2⟩
            case round =>
              clear hlk hlkz hk HB2
              obtain ⟨k, hk, rfl, HB⟩ := hrel
              have hS := HSW.out.below HB.out
              have cg0 := hS.bg
              by_cases hlk : k < n
              · have hlkz : (k : Int) < (n : Int) := by omega
                obtain ⟨bg, og, eg, hbg, hcg⟩ := hS.rows.resolve_left (fun e => by omega)
                obtain ⟨⟨x0, x1, x2, x3⟩, ⟨x4, x5, x6, x7⟩, ⟨x8, x9, xa, xb⟩⟩ := hcg k hlk
                rw [eg] at cg0
                clear hcg eg
                have HS3 : Hid (SW wr pg ps ag n cg T U V bt bu bv aT nT capT aR nR capR r rbs) := hS
                clear hS
                go_wp2_with fail
                obtain ⟨wt, hwt⟩ : ∃ wt, wt = wr.alloc (.cells #[.int .i64 (T k).k, .slice (T k).a (T k).len (T k).cap, .int .i64 (T k).n, .int .i64 (T k).s, .int .i64 (U k).k, .slice (U k).a (U k).len (U k).cap, .int .i64 (U k).n, .int .i64 (U k).s, .int .i64 (V k).k, .slice (V k).a (V k).len (V k).cap, .int .i64 (V k).n, .int .i64 (V k).s] 41) := ⟨_, rfl⟩
                have HWT : Hid (wr.heap.size < wt.heap.size ∧ wt.cell? ⟨wr.heap.size, 0, none⟩ = some (.int .i64 (T k).k) ∧ wt.cell? ⟨wr.heap.size, 1, none⟩ = some (.slice (T k).a (T k).len (T k).cap) ∧ wt.cell? ⟨wr.heap.size, 2, none⟩ = some (.int .i64 (T k).n) ∧ wt.cell? ⟨wr.heap.size, 3, none⟩ = some (.int .i64 (T k).s) ∧ wt.cell? ⟨wr.heap.size, 4, none⟩ = some (.int .i64 (U k).k) ∧ wt.cell? ⟨wr.heap.size, 5, none⟩ = some (.slice (U k).a (U k).len (U k).cap) ∧ wt.cell? ⟨wr.heap.size, 6, none⟩ = some (.int .i64 (U k).n) ∧ wt.cell? ⟨wr.heap.size, 7, none⟩ = some (.int .i64 (U k).s) ∧ wt.cell? ⟨wr.heap.size, 8, none⟩ = some (.int .i64 (V k).k) ∧ wt.cell? ⟨wr.heap.size, 9, none⟩ = some (.slice (V k).a (V k).len (V k).cap) ∧ wt.cell? ⟨wr.heap.size, 10, none⟩ = some (.int .i64 (V k).n) ∧ wt.cell? ⟨wr.heap.size, 11, none⟩ = some (.int .i64 (V k).s)) := by
                  rw [hwt]
                  refine ⟨by simp, ?_, ?_, ?_, ?_, ?_, ?_, ?_, ?_, ?_, ?_, ?_, ?_⟩ <;> simp [go_sem]
                have HBT : Hid (Below W0.heap.size W0 wt) := by rw [hwt]; exact bl_alloc HB.out _
                have hSt : SW wt pg ps ag n cg T U V bt bu bv aT nT capT aR nR capR r rbs := HSW.out.below HBT.out
                rw [← hwt]
                generalize wr.heap.size = pt at *
                clear hwt HS3 HB x0 x1 x2 x3 x4 x5 x6 x7 x8 x9 xa xb cg0 hbg
                obtain ⟨j0, z, hz, hj0, hzt, hid0⟩ := HP.out.num (HP.out.gd.mem hlk).1
                obtain ⟨K0, hK0⟩ : ∃ K0, K0 = (row3 (r.map TB.td) T U V bt bu bv k).1 := ⟨_, rfl⟩
                obtain ⟨K1, hK1⟩ : ∃ K1, K1 = (row3 (r.map TB.td) T U V bt bu bv k).2.1 := ⟨_, rfl⟩
                obtain ⟨K2, hK2⟩ : ∃ K2, K2 = (row3 (r.map TB.td) T U V bt bu bv k).2.2 := ⟨_, rfl⟩
                have hKj : K0 = (j0 : Int) + 1 := by rw [hK0]; show ((idOf _ _ : Nat) : Int) = _; rw [hid0]; omega
                have HK05 : Hid ((K0, K1, K2) = rkey 0 (row3 (r.map TB.td) T U V bt bu bv k) ∧ (K2, K1, K0) = rkey 5 (row3 (r.map TB.td) T U V bt bu bv k)) := by
                  rw [hK0, hK1, hK2]
                  exact ⟨rfl, rfl⟩
                have HI0 : Hid (∀ W, Below wt.heap.size wt W → Calls Tryz.prog 10 #[.agg #[.slice aT nT capT, .slice aR nR capR], .agg #[.int .i64 (T k).k, .slice (T k).a (T k).len (T k).cap, .int .i64 (T k).n, .int .i64 (T k).s]] W (fun e w' => e = .returned (.int .i64 K0) ∧ Below W.heap.size W w')) := fun W hW => (hSt.below hW).id HNT.out HNR.out HP.out (T k) (bt k) (HP.out.fit k hlk).1 ((hSt.below hW).x1 k hlk) (HP.out.gd.mem hlk).1 K0 (by rw [hK0]; rfl)
                have HI1 : Hid (∀ W, Below wt.heap.size wt W → Calls Tryz.prog 10 #[.agg #[.slice aT nT capT, .slice aR nR capR], .agg #[.int .i64 (U k).k, .slice (U k).a (U k).len (U k).cap, .int .i64 (U k).n, .int .i64 (U k).s]] W (fun e w' => e = .returned (.int .i64 K1) ∧ Below W.heap.size W w')) := fun W hW => (hSt.below hW).id HNT.out HNR.out HP.out (U k) (bu k) (HP.out.fit k hlk).2.1 ((hSt.below hW).x2 k hlk) (HP.out.gd.mem hlk).2.1 K1 (by rw [hK1]; rfl)
                have HI2 : Hid (∀ W, Below wt.heap.size wt W → Calls Tryz.prog 10 #[.agg #[.slice aT nT capT, .slice aR nR capR], .agg #[.int .i64 (V k).k, .slice (V k).a (V k).len (V k).cap, .int .i64 (V k).n, .int .i64 (V k).s]] W (fun e w' => e = .returned (.int .i64 K2) ∧ Below W.heap.size W w')) := fun W hW => (hSt.below hW).id HNT.out HNR.out HP.out (V k) (bv k) (HP.out.fit k hlk).2.2 ((hSt.below hW).x3 k hlk) (HP.out.gd.mem hlk).2.2 K2 (by rw [hK2]; rfl)
                have HSC0 : Hid (∀ W (g : Nat), Below wt.heap.size wt W → g < W.heap.size → W.cell? ⟨g, 0, none⟩ = some (.int .i64 K0) → W.cell? ⟨g, 1, none⟩ = some (.int .i64 K1) → W.cell? ⟨g, 2, none⟩ = some (.int .i64 K2) → Calls Tryz.prog 9 #[.agg #[.slice aT nT capT, .slice aR nR capR], .int .i64 0, .slice (some ⟨g, 0, none⟩) 3 3] W (fun e w' => (∃ b c, e = .returned (.slice (some ⟨b, 0, none⟩) 1 c) ∧ b < w'.heap.size ∧ w'.cell? ⟨b, 0, none⟩ = some (.int .i64 K0) ∧ w'.cell? ⟨b, 1, none⟩ = some (.int .i64 K1) ∧ w'.cell? ⟨b, 2, none⟩ = some (.int .i64 K2)) ∧ Below W.heap.size W w')) := fun W g hW hg h0 h1 h2 => by
                  have := (hSt.below hW).scan3 HNT.out HNR.out HP.out 0 (by omega) k hlk g 3 K0 K1 K2 HK05.out.1 hg h0 h1 h2
                  rw [← hK0, ← hK1, ← hK2] at this
                  exact this
                have HSC5 : Hid (∀ W (g : Nat), Below wt.heap.size wt W → g < W.heap.size → W.cell? ⟨g, 0, none⟩ = some (.int .i64 K2) → W.cell? ⟨g, 1, none⟩ = some (.int .i64 K1) → W.cell? ⟨g, 2, none⟩ = some (.int .i64 K0) → Calls Tryz.prog 9 #[.agg #[.slice aT nT capT, .slice aR nR capR], .int .i64 5, .slice (some ⟨g, 0, none⟩) 3 3] W (fun e w' => (∃ b c, e = .returned (.slice (some ⟨b, 0, none⟩) 1 c) ∧ b < w'.heap.size ∧ w'.cell? ⟨b, 0, none⟩ = some (.int .i64 K0) ∧ w'.cell? ⟨b, 1, none⟩ = some (.int .i64 K1) ∧ w'.cell? ⟨b, 2, none⟩ = some (.int .i64 K2)) ∧ Below W.heap.size W w')) := fun W g hW hg h0 h1 h2 => by
                  have := (hSt.below hW).scan3 HNT.out HNR.out HP.out 5 (by omega) k hlk g 3 K2 K1 K0 HK05.out.2 hg h0 h1 h2
                  rw [← hK0, ← hK1, ← hK2] at this
                  exact this
                obtain ⟨bT, oT, eT, hbT, z0, z1, z2, z3⟩ := hSt.tcells hz
                have HSM : Hid (∀ W, Below wt.heap.size wt W → Calls Tryz.prog 11 #[.agg #[.int .i64 z.t.k, .slice z.t.a z.t.len z.t.cap, .int .i64 z.t.n, .int .i64 z.t.s], .agg #[.int .i64 (T k).k, .slice (T k).a (T k).len (T k).cap, .int .i64 (T k).n, .int .i64 (T k).s]] W (fun e w' => e = .returned (.bool true) ∧ Below W.heap.size W w')) := fun W hW => by
                  obtain ⟨q1, q2, q3, q4⟩ := td_parts (x := z) (t := T k) (b := bt k) hzt
                  exact sameTerm_like ⟨z.t.k, z.t.a, z.t.len, z.t.cap, z.b, z.t.n, z.t.s⟩ ⟨(T k).k, (T k).a, (T k).len, (T k).cap, bt k, (T k).n, (T k).s⟩ W q1 q2 q3 q4 ((hSt.below hW).arg.ttxt z (List.mem_of_getElem? hz)) ((hSt.below hW).x1 k hlk)
                have HZ : Hid (bT < wt.heap.size ∧ wt.cell? ⟨bT, oT + j0 * 4, none⟩ = some (.int .i64 z.t.k) ∧ wt.cell? ⟨bT, oT + j0 * 4 + 1, none⟩ = some (.slice z.t.a z.t.len z.t.cap) ∧ wt.cell? ⟨bT, oT + j0 * 4 + 2, none⟩ = some (.int .i64 z.t.n) ∧ wt.cell? ⟨bT, oT + j0 * 4 + 3, none⟩ = some (.int .i64 z.t.s)) := ⟨hbT, z0, z1, z2, z3⟩
                have hj1 : (j0 : Int) < (nT : Int) := by have := HNT.out; omega
                have hj2 : (0 : Int) ≤ (j0 : Int) := by omega
                have hj3 : K0 - 1 = (j0 : Int) := by omega
                have hj4 : IntKind.i64.wrap (K0 - 1) = (j0 : Int) := by rw [IntKind.wrap_i64]; have := HNT.out; have := HR180.out; omega
                have hj5 : IntKind.i64.wrap (j0 : Int) = (j0 : Int) := by rw [IntKind.wrap_i64]; have := HNT.out; have := HR180.out; omega
                have HF : Hid (∀ w', Below wt.heap.size wt w' → w'.cell? ⟨ps, 0, none⟩ = some (.slice aT nT capT) ∧ w'.cell? ⟨ps, 1, none⟩ = some (.slice aR nR capR) ∧ w'.cell? ⟨pg, 0, none⟩ = some (.slice ag n cg) ∧ w'.cell? ⟨pt, 0, none⟩ = some (.int .i64 (T k).k) ∧ w'.cell? ⟨pt, 1, none⟩ = some (.slice (T k).a (T k).len (T k).cap) ∧ w'.cell? ⟨pt, 2, none⟩ = some (.int .i64 (T k).n) ∧ w'.cell? ⟨pt, 3, none⟩ = some (.int .i64 (T k).s) ∧ w'.cell? ⟨pt, 4, none⟩ = some (.int .i64 (U k).k) ∧ w'.cell? ⟨pt, 5, none⟩ = some (.slice (U k).a (U k).len (U k).cap) ∧ w'.cell? ⟨pt, 6, none⟩ = some (.int .i64 (U k).n) ∧ w'.cell? ⟨pt, 7, none⟩ = some (.int .i64 (U k).s) ∧ w'.cell? ⟨pt, 8, none⟩ = some (.int .i64 (V k).k) ∧ w'.cell? ⟨pt, 9, none⟩ = some (.slice (V k).a (V k).len (V k).cap) ∧ w'.cell? ⟨pt, 10, none⟩ = some (.int .i64 (V k).n) ∧ w'.cell? ⟨pt, 11, none⟩ = some (.int .i64 (V k).s)) := fun w' hb => by
                  obtain ⟨hl, h0, h1, h2, h3, h4, h5, h6, h7, h8, h9, ha, hb'⟩ := HWT.out
                  have cc := fun o => hb.cell (p := ⟨pt, o, none⟩) hl
                  exact ⟨(hSt.below hb).b0, (hSt.below hb).b1, (hSt.below hb).bg, (cc 0).trans h0, (cc 1).trans h1, (cc 2).trans h2, (cc 3).trans h3, (cc 4).trans h4, (cc 5).trans h5, (cc 6).trans h6, (cc 7).trans h7, (cc 8).trans h8, (cc 9).trans h9, (cc 10).trans ha, (cc 11).trans hb'⟩
                have HST : Hid (SW wt pg ps ag n cg T U V bt bu bv aT nT capT aR nR capR r rbs) := hSt
                have HET : Hid (aT = some ⟨bT, oT, none⟩) := eT
                have I0 := HI0.out
                have I1 := HI1.out
                have I2 := HI2.out
                clear hz hzt hid0 hK0 hK1 hK2 hKj hSt z0 z1 z2 z3 hbT eT hj0
                go_wp2_with fail
                refine wp_region_held_drew (S := fun w' => Below wt.heap.size wt w') (by kernel_rfl) ?_ (fun hHeld => ?_)
                · exact Below.drew (Below.refl _ _)
                refine take_at (i := 0) 96 (v := ?v20) rfl rfl (by kernel_rfl) (by kernel_rfl) (by kernel_rfl) (fun _ _ _ h => h) (Or.inl ⟨by rfl, ?y20⟩) hHeld ?r20
                case y20 => (intro w' hSw; obtain ⟨b0, b1, b2, t0, t1, t2, t3, t4, t5, t6, t7, t8, t9, ta, tb⟩ := HF.out w' hSw; go_simp; (try with_reducible rfl))
                try simp only [Act.put, List.setIfInBounds_toArray, List.set_cons_zero, List.set_cons_succ]
                refine take_at (i := 1) 97 (v := ?v21) rfl rfl (by kernel_rfl) (by kernel_rfl) (by kernel_rfl) (fun _ _ _ h => h) (Or.inl ⟨by rfl, ?y21⟩) hHeld ?r21
                case y21 => (intro w' hSw; skip; go_simp; (try with_reducible rfl))
                try simp only [Act.put, List.setIfInBounds_toArray, List.set_cons_zero, List.set_cons_succ]
                refine take_at (i := 2) 98 (v := ?v22) rfl rfl (by kernel_rfl) (by kernel_rfl) (by kernel_rfl) (fun _ _ _ h => h) (Or.inl ⟨by rfl, ?y22⟩) hHeld ?r22
                case y22 => (intro w' hSw; obtain ⟨b0, b1, b2, t0, t1, t2, t3, t4, t5, t6, t7, t8, t9, ta, tb⟩ := HF.out w' hSw; go_simp; (try with_reducible rfl))
                try simp only [Act.put, List.setIfInBounds_toArray, List.set_cons_zero, List.set_cons_succ]
                refine take_at (i := 4) 100 (v := ?v23) rfl rfl (by kernel_rfl) (by kernel_rfl) (by kernel_rfl) (fun _ _ _ h => h) (Or.inl ⟨by rfl, ?y23⟩) hHeld ?r23
                case y23 => (intro w' hSw; obtain ⟨b0, b1, b2, t0, t1, t2, t3, t4, t5, t6, t7, t8, t9, ta, tb⟩ := HF.out w' hSw; go_simp; (try with_reducible rfl))
                try simp only [Act.put, List.setIfInBounds_toArray, List.set_cons_zero, List.set_cons_succ]
                refine take_at (i := 5) 101 (v := ?v24) rfl rfl (by kernel_rfl) (by kernel_rfl) (by kernel_rfl) (fun _ _ _ h => h) (Or.inl ⟨by rfl, ?y24⟩) hHeld ?r24
                case y24 => (intro w' hSw; skip; go_simp; (try with_reducible rfl))
                try simp only [Act.put, List.setIfInBounds_toArray, List.set_cons_zero, List.set_cons_succ]
                refine take_at (i := 6) 102 (v := ?v25) rfl rfl (by kernel_rfl) (by kernel_rfl) (by kernel_rfl) (fun _ _ _ h => h) (Or.inl ⟨by rfl, ?y25⟩) hHeld ?r25
                case y25 => (intro w' hSw; obtain ⟨b0, b1, b2, t0, t1, t2, t3, t4, t5, t6, t7, t8, t9, ta, tb⟩ := HF.out w' hSw; go_simp; (try with_reducible rfl))
                try simp only [Act.put, List.setIfInBounds_toArray, List.set_cons_zero, List.set_cons_succ]
                refine take_at (i := 8) 104 (v := ?v26) rfl rfl (by kernel_rfl) (by kernel_rfl) (by kernel_rfl) (fun _ _ _ h => h) (Or.inl ⟨by rfl, ?y26⟩) hHeld ?r26
                case y26 => (intro w' hSw; obtain ⟨b0, b1, b2, t0, t1, t2, t3, t4, t5, t6, t7, t8, t9, ta, tb⟩ := HF.out w' hSw; go_simp; (try with_reducible rfl))
                try simp only [Act.put, List.setIfInBounds_toArray, List.set_cons_zero, List.set_cons_succ]
                refine take_at (i := 9) 105 (v := ?v27) rfl rfl (by kernel_rfl) (by kernel_rfl) (by kernel_rfl) (fun _ _ _ h => h) (Or.inl ⟨by rfl, ?y27⟩) hHeld ?r27
                case y27 => (intro w' hSw; skip; go_simp; (try with_reducible rfl))
                try simp only [Act.put, List.setIfInBounds_toArray, List.set_cons_zero, List.set_cons_succ]
                refine take_at (i := 10) 106 (v := ?v28) rfl rfl (by kernel_rfl) (by kernel_rfl) (by kernel_rfl) (fun _ _ _ h => h) (Or.inl ⟨by rfl, ?y28⟩) hHeld ?r28
                case y28 => (intro w' hSw; obtain ⟨b0, b1, b2, t0, t1, t2, t3, t4, t5, t6, t7, t8, t9, ta, tb⟩ := HF.out w' hSw; go_simp; (try with_reducible rfl))
                try simp only [Act.put, List.setIfInBounds_toArray, List.set_cons_zero, List.set_cons_succ]
                refine wpAnyH_ready (rs := [3]) (by kernel_rfl) (by simp) ?_
                refine AllReadyH.cons rfl (fun K hK => ?_) AllReadyH.nil
                go_simp
                refine (I0 _ (Below.drew (Below.refl _ _))).mono ?_
                rintro e w5 ⟨rfl, hb5⟩
                have HB5 : Hid (Below wt.heap.size wt w5) := (Below.drew (Below.refl _ _)).trans hb5
                clear hb5
                go_wp2_with fail
                refine hK.out _ _ ?_ (fun hHeld => ?_)
                · exact HB5.out
                clear hK K
                try simp only [Act.put, List.setIfInBounds_toArray, List.set_cons_zero, List.set_cons_succ]
                refine wpAnyH_ready (rs := [7]) (by kernel_rfl) (by simp) ?_
                refine AllReadyH.cons rfl (fun K hK => ?_) AllReadyH.nil
                go_simp
                refine (I1 _ HB5.out).mono ?_
                rintro e w6 ⟨rfl, hb6⟩
                have HB6 : Hid (Below wt.heap.size wt w6) := bl_trans HB5.out hb6
                clear hb6
                go_wp2_with fail
                refine hK.out _ _ ?_ (fun hHeld => ?_)
                · exact HB6.out
                clear hK K
                try simp only [Act.put, List.setIfInBounds_toArray, List.set_cons_zero, List.set_cons_succ]
                refine wpAnyH_ready (rs := [11]) (by kernel_rfl) (by simp) ?_
                refine AllReadyH.cons rfl (fun K hK => ?_) AllReadyH.nil
                go_simp
                refine (I2 _ HB6.out).mono ?_
                rintro e w7 ⟨rfl, hb7⟩
                have HB7 : Hid (Below wt.heap.size wt w7) := bl_trans HB6.out hb7
                clear hb7
                go_wp2_with fail
                refine hK.out _ _ ?_ (fun hHeld => ?_)
                · exact HB7.out
                clear hK K
                try simp only [Act.put, List.setIfInBounds_toArray, List.set_cons_zero, List.set_cons_succ]
                refine wpAnyH_ready (rs := [12]) (by kernel_rfl) (by simp) ?_
                refine AllReadyH.cons rfl (fun K hK => ?_) AllReadyH.nil
                go_simp
                refine hK.out _ _ ?_ (fun hHeld => ?_)
                · exact bl_alloc HB7.out _
                clear hK K
                try simp only [Act.put, List.setIfInBounds_toArray, List.set_cons_zero, List.set_cons_succ]
                refine take_at (i := 13) 10 (v := ?v29) rfl rfl (by kernel_rfl) (by kernel_rfl) (by kernel_rfl) (fun _ _ _ h => h) (Or.inl ⟨by rfl, ?y29⟩) hHeld ?r29
                case y29 => (intro w' hSw; skip; go_simp; (try with_reducible rfl))
                try simp only [Act.put, List.setIfInBounds_toArray, List.set_cons_zero, List.set_cons_succ]
                refine wpAnyH_done (by kernel_rfl) ?_ _
                clear I0 I1 I2 HB5 HB6 hHeld HI0 HI1 HI2
                obtain ⟨wk, hwk⟩ : ∃ wk, wk = (w7.alloc (.cells #[.int .i64 K0, .int .i64 K1, .int .i64 K2] 3)) := ⟨_, rfl⟩
                have HWK : Hid (w7.heap.size < wk.heap.size ∧ wk.cell? ⟨w7.heap.size, 0, none⟩ = some (.int .i64 K0) ∧ wk.cell? ⟨w7.heap.size, 1, none⟩ = some (.int .i64 K1) ∧ wk.cell? ⟨w7.heap.size, 2, none⟩ = some (.int .i64 K2)) := by
                  rw [hwk]
                  refine ⟨by simp, ?_, ?_, ?_⟩ <;> simp [go_sem]
                have HBK : Hid (Below wt.heap.size wt wk) := by rw [hwk]; exact bl_alloc HB7.out _
                rw [← hwk]
                generalize w7.heap.size = pk at *
                clear hwk HB7
                have SC0 := HSC0.out wk pk HBK.out HWK.out.1 HWK.out.2.1 HWK.out.2.2.1 HWK.out.2.2.2
                have b0 := (HF.out wk HBK.out).1
                have b1 := (HF.out wk HBK.out).2.1
                go_wp2_with fail
                refine SC0.mono ?_
                rintro e w8 ⟨⟨bl, cl, rfl, hbl, l0, l1, l2⟩, hb8⟩
                have HB8 : Hid (Below wt.heap.size wt w8) := bl_trans HBK.out hb8
                have HL8 : Hid (bl < w8.heap.size ∧ w8.cell? ⟨bl, 0, none⟩ = some (.int .i64 K0) ∧ w8.cell? ⟨bl, 1, none⟩ = some (.int .i64 K1) ∧ w8.cell? ⟨bl, 2, none⟩ = some (.int .i64 K2)) := ⟨hbl, l0, l1, l2⟩
                have HK8 : Hid (pk < w8.heap.size ∧ w8.cell? ⟨pk, 0, none⟩ = some (.int .i64 K0) ∧ w8.cell? ⟨pk, 1, none⟩ = some (.int .i64 K1) ∧ w8.cell? ⟨pk, 2, none⟩ = some (.int .i64 K2)) := ⟨Nat.lt_of_lt_of_le HWK.out.1 hb8.size, (hb8.cell (p := ⟨pk, 0, none⟩) HWK.out.1).trans HWK.out.2.1, (hb8.cell (p := ⟨pk, 1, none⟩) HWK.out.1).trans HWK.out.2.2.1, (hb8.cell (p := ⟨pk, 2, none⟩) HWK.out.1).trans HWK.out.2.2.2⟩
                clear SC0 b0 b1 hbl l0 l1 l2 hb8 HWK HBK HSC0
                have HF2 : Hid (∀ w', Below w8.heap.size w8 w' → w'.cell? ⟨ps, 0, none⟩ = some (.slice aT nT capT) ∧ w'.cell? ⟨ps, 1, none⟩ = some (.slice aR nR capR) ∧ w'.cell? ⟨pk, 0, none⟩ = some (.int .i64 K0) ∧ w'.cell? ⟨pk, 1, none⟩ = some (.int .i64 K1) ∧ w'.cell? ⟨pk, 2, none⟩ = some (.int .i64 K2)) := fun w' hb => ⟨(HF.out w' (bl_trans HB8.out hb)).1, (HF.out w' (bl_trans HB8.out hb)).2.1, (hb.cell (p := ⟨pk, 0, none⟩) HK8.out.1).trans HK8.out.2.1, (hb.cell (p := ⟨pk, 1, none⟩) HK8.out.1).trans HK8.out.2.2.1, (hb.cell (p := ⟨pk, 2, none⟩) HK8.out.1).trans HK8.out.2.2.2⟩
                have SC5 := HSC5.out (w8.drew.alloc (.cells #[.int .i64 K2, .int .i64 K1, .int .i64 K0] 3)) w8.heap.size (bl_trans HB8.out (bl_alloc (Below.drew (Below.refl _ _)) _)) (by simp) (by simp [go_sem]) (by simp [go_sem]) (by simp [go_sem])
                go_wp2_with fail
                refine wp_region_held_drew (S := fun w' => Below w8.heap.size w8 w') (by kernel_rfl) ?_ (fun hHeld => ?_)
                · exact Below.drew (Below.refl _ _)
                refine take_at (i := 0) 112 (v := ?v30) rfl rfl (by kernel_rfl) (by kernel_rfl) (by kernel_rfl) (fun _ _ _ h => h) (Or.inl ⟨by rfl, ?y30⟩) hHeld ?r30
                case y30 => (intro w' hSw; obtain ⟨b0, b1, k0, k1, k2⟩ := HF2.out w' hSw; go_simp; (try with_reducible rfl))
                try simp only [Act.put, List.setIfInBounds_toArray, List.set_cons_zero, List.set_cons_succ]
                refine take_at (i := 1) 113 (v := ?v31) rfl rfl (by kernel_rfl) (by kernel_rfl) (by kernel_rfl) (fun _ _ _ h => h) (Or.inl ⟨by rfl, ?y31⟩) hHeld ?r31
                case y31 => (intro w' hSw; skip; go_simp; (try with_reducible rfl))
                try simp only [Act.put, List.setIfInBounds_toArray, List.set_cons_zero, List.set_cons_succ]
                refine take_at (i := 2) 114 (v := ?v32) rfl rfl (by kernel_rfl) (by kernel_rfl) (by kernel_rfl) (fun _ _ _ h => h) (Or.inl ⟨by rfl, ?y32⟩) hHeld ?r32
                case y32 => (intro w' hSw; skip; go_simp; (try with_reducible rfl))
                try simp only [Act.put, List.setIfInBounds_toArray, List.set_cons_zero, List.set_cons_succ]
                refine take_at (i := 3) 115 (v := ?v33) rfl rfl (by kernel_rfl) (by kernel_rfl) (by kernel_rfl) (fun _ _ _ h => h) (Or.inl ⟨by rfl, ?y33⟩) hHeld ?r33
                case y33 => (intro w' hSw; obtain ⟨b0, b1, k0, k1, k2⟩ := HF2.out w' hSw; go_simp; (try with_reducible rfl))
                try simp only [Act.put, List.setIfInBounds_toArray, List.set_cons_zero, List.set_cons_succ]
                refine take_at (i := 4) 116 (v := ?v34) rfl rfl (by kernel_rfl) (by kernel_rfl) (by kernel_rfl) (fun _ _ _ h => h) (Or.inl ⟨by rfl, ?y34⟩) hHeld ?r34
                case y34 => (intro w' hSw; skip; go_simp; (try with_reducible rfl))
                try simp only [Act.put, List.setIfInBounds_toArray, List.set_cons_zero, List.set_cons_succ]
                refine take_at (i := 5) 117 (v := ?v35) rfl rfl (by kernel_rfl) (by kernel_rfl) (by kernel_rfl) (fun _ _ _ h => h) (Or.inl ⟨by rfl, ?y35⟩) hHeld ?r35
                case y35 => (intro w' hSw; skip; go_simp; (try with_reducible rfl))
                try simp only [Act.put, List.setIfInBounds_toArray, List.set_cons_zero, List.set_cons_succ]
                refine take_at (i := 6) 118 (v := ?v36) rfl rfl (by kernel_rfl) (by kernel_rfl) (by kernel_rfl) (fun _ _ _ h => h) (Or.inl ⟨by rfl, ?y36⟩) hHeld ?r36
                case y36 => (intro w' hSw; obtain ⟨b0, b1, k0, k1, k2⟩ := HF2.out w' hSw; go_simp; (try with_reducible rfl))
                try simp only [Act.put, List.setIfInBounds_toArray, List.set_cons_zero, List.set_cons_succ]
                refine take_at (i := 7) 119 (v := ?v37) rfl rfl (by kernel_rfl) (by kernel_rfl) (by kernel_rfl) (fun _ _ _ h => h) (Or.inl ⟨by rfl, ?y37⟩) hHeld ?r37
                case y37 => (intro w' hSw; skip; go_simp; (try with_reducible rfl))
                try simp only [Act.put, List.setIfInBounds_toArray, List.set_cons_zero, List.set_cons_succ]
                refine take_at (i := 8) 120 (v := ?v38) rfl rfl (by kernel_rfl) (by kernel_rfl) (by kernel_rfl) (fun _ _ _ h => h) (Or.inl ⟨by rfl, ?y38⟩) hHeld ?r38
                case y38 => (intro w' hSw; skip; go_simp; (try with_reducible rfl))
                try simp only [Act.put, List.setIfInBounds_toArray, List.set_cons_zero, List.set_cons_succ]
                refine take_at (i := 9) 121 (v := ?v39) rfl rfl (by kernel_rfl) (by kernel_rfl) (by kernel_rfl) (fun _ _ _ h => h) (Or.inl ⟨by rfl, ?y39⟩) hHeld ?r39
                case y39 => (intro w' hSw; obtain ⟨b0, b1, k0, k1, k2⟩ := HF2.out w' hSw; go_simp; (try with_reducible rfl))
                try simp only [Act.put, List.setIfInBounds_toArray, List.set_cons_zero, List.set_cons_succ]
                refine wpAnyH_ready (rs := [10]) (by kernel_rfl) (by simp) ?_
                refine AllReadyH.cons rfl (fun K hK => ?_) AllReadyH.nil
                go_simp
                refine hK.out _ _ ?_ (fun hHeld => ?_)
                · exact bl_alloc (Below.drew (Below.refl _ _)) _
                clear hK K
                try simp only [Act.put, List.setIfInBounds_toArray, List.set_cons_zero, List.set_cons_succ]
                refine wpAnyH_ready (rs := [11]) (by kernel_rfl) (by simp) ?_
                refine AllReadyH.cons rfl (fun K hK => ?_) AllReadyH.nil
                go_simp
                refine (SC5).mono ?_
                rintro e w9 ⟨⟨bm, cm, rfl, hbm, m0, m1, m2⟩, hb9⟩
                have HB9 : Hid (Below w8.heap.size w8 w9) := bl_trans (bl_alloc (Below.drew (Below.refl _ _)) _) hb9
                clear hb9
                go_wp2_with fail
                refine hK.out _ _ ?_ (fun hHeld => ?_)
                · exact HB9.out
                clear hK K
                try simp only [Act.put, List.setIfInBounds_toArray, List.set_cons_zero, List.set_cons_succ]
                refine take_at (i := 12) 12 (v := ?v40) rfl rfl (by kernel_rfl) (by kernel_rfl) (by kernel_rfl) (fun _ _ _ h => h) (Or.inl ⟨by rfl, ?y40⟩) hHeld ?r40
                case y40 => (intro w' hSw; skip; go_simp; (try with_reducible rfl))
                try simp only [Act.put, List.setIfInBounds_toArray, List.set_cons_zero, List.set_cons_succ]
                refine wpAnyH_done (by kernel_rfl) ?_ _
                have HF3 : Hid (∀ w', Below w9.heap.size w9 w' → w'.cell? ⟨ps, 0, none⟩ = some (.slice (some ⟨bT, oT, none⟩) nT capT) ∧ w'.cell? ⟨ps, 1, none⟩ = some (.slice aR nR capR) ∧ w'.cell? ⟨pk, 0, none⟩ = some (.int .i64 K0) ∧ w'.cell? ⟨bl, 0, none⟩ = some (.int .i64 K0) ∧ w'.cell? ⟨bl, 1, none⟩ = some (.int .i64 K1) ∧ w'.cell? ⟨bl, 2, none⟩ = some (.int .i64 K2) ∧ w'.cell? ⟨bm, 0, none⟩ = some (.int .i64 K0) ∧ w'.cell? ⟨bm, 1, none⟩ = some (.int .i64 K1) ∧ w'.cell? ⟨bm, 2, none⟩ = some (.int .i64 K2) ∧ w'.cell? ⟨bT, oT + j0 * 4, none⟩ = some (.int .i64 z.t.k) ∧ w'.cell? ⟨bT, oT + j0 * 4 + 1, none⟩ = some (.slice z.t.a z.t.len z.t.cap) ∧ w'.cell? ⟨bT, oT + j0 * 4 + 2, none⟩ = some (.int .i64 z.t.n) ∧ w'.cell? ⟨bT, oT + j0 * 4 + 3, none⟩ = some (.int .i64 z.t.s) ∧ w'.cell? ⟨pt, 0, none⟩ = some (.int .i64 (T k).k) ∧ w'.cell? ⟨pt, 1, none⟩ = some (.slice (T k).a (T k).len (T k).cap) ∧ w'.cell? ⟨pt, 2, none⟩ = some (.int .i64 (T k).n) ∧ w'.cell? ⟨pt, 3, none⟩ = some (.int .i64 (T k).s)) := fun w' hb => by
                  have hw8 := bl_trans HB9.out hb
                  have hwt := bl_trans HB8.out hw8
                  obtain ⟨g0, g1, _, q0, q1, q2, q3, _⟩ := HF.out w' hwt
                  rw [HET.out] at g0
                  exact ⟨g0, g1, (HF2.out w' hw8).2.2.1, (hw8.cell (p := ⟨bl, 0, none⟩) HL8.out.1).trans HL8.out.2.1, (hw8.cell (p := ⟨bl, 1, none⟩) HL8.out.1).trans HL8.out.2.2.1, (hw8.cell (p := ⟨bl, 2, none⟩) HL8.out.1).trans HL8.out.2.2.2, (hb.cell (p := ⟨bm, 0, none⟩) hbm).trans m0, (hb.cell (p := ⟨bm, 1, none⟩) hbm).trans m1, (hb.cell (p := ⟨bm, 2, none⟩) hbm).trans m2, (hwt.cell (p := ⟨bT, oT + j0 * 4, none⟩) HZ.out.1).trans HZ.out.2.1, (hwt.cell (p := ⟨bT, oT + j0 * 4 + 1, none⟩) HZ.out.1).trans HZ.out.2.2.1, (hwt.cell (p := ⟨bT, oT + j0 * 4 + 2, none⟩) HZ.out.1).trans HZ.out.2.2.2.1, (hwt.cell (p := ⟨bT, oT + j0 * 4 + 3, none⟩) HZ.out.1).trans HZ.out.2.2.2.2, q0, q1, q2, q3⟩
                have HBW : Hid (Below W0.heap.size W0 w9) := bl_trans HBT.out (bl_trans HB8.out HB9.out)
                have SM := HSM.out w9.drew (bl_trans HB8.out (bl_trans HB9.out (Below.drew (Below.refl _ _))))
                clear hHeld SC5 HSC5 m0 m1 m2 hbm HB9 HF2 HF HK8 HL8 HB8 HSM HZ
                go_wp2_with fail
                refine wp_region_held_drew (S := fun w' => Below w9.heap.size w9 w') (by kernel_rfl) ?_ (fun hHeld => ?_)
                · exact Below.drew (Below.refl _ _)
                refine take_at (i := 0) 124 (v := ?v41) rfl rfl (by kernel_rfl) (by kernel_rfl) (by kernel_rfl) (fun _ _ _ h => h) (Or.inl ⟨by rfl, ?y41⟩) hHeld ?r41
                case y41 => (intro w' hSw; skip; go_simp; (try with_reducible rfl))
                try simp only [Act.put, List.setIfInBounds_toArray, List.set_cons_zero, List.set_cons_succ]
                refine take_at (i := 1) 125 (v := ?v42) rfl rfl (by kernel_rfl) (by kernel_rfl) (by kernel_rfl) (fun _ _ _ h => h) (Or.inl ⟨by rfl, ?y42⟩) hHeld ?r42
                case y42 => (intro w' hSw; skip; go_simp; (try with_reducible rfl))
                try simp only [Act.put, List.setIfInBounds_toArray, List.set_cons_zero, List.set_cons_succ]
                refine take_at (i := 2) 126 (v := ?v43) rfl rfl (by kernel_rfl) (by kernel_rfl) (by kernel_rfl) (fun _ _ _ h => h) (Or.inl ⟨by rfl, ?y43⟩) hHeld ?r43
                case y43 => (intro w' hSw; skip; go_simp; (try with_reducible rfl))
                try simp only [Act.put, List.setIfInBounds_toArray, List.set_cons_zero, List.set_cons_succ]
                refine take_at (i := 3) 127 (v := ?v44) rfl rfl (by kernel_rfl) (by kernel_rfl) (by kernel_rfl) (fun _ _ _ h => h) (Or.inl ⟨by rfl, ?y44⟩) hHeld ?r44
                case y44 => (intro w' hSw; skip; go_simp; (try with_reducible rfl))
                try simp only [Act.put, List.setIfInBounds_toArray, List.set_cons_zero, List.set_cons_succ]
                refine take_at (i := 4) 128 (v := ?v45) rfl rfl (by kernel_rfl) (by kernel_rfl) (by kernel_rfl) (fun _ _ _ h => h) (Or.inl ⟨by rfl, ?y45⟩) hHeld ?r45
                case y45 => (intro w' hSw; skip; go_simp; (try with_reducible rfl))
                try simp only [Act.put, List.setIfInBounds_toArray, List.set_cons_zero, List.set_cons_succ]
                refine take_at (i := 5) 129 (v := ?v46) rfl rfl (by kernel_rfl) (by kernel_rfl) (by kernel_rfl) (fun _ _ _ h => h) (Or.inl ⟨by rfl, ?y46⟩) hHeld ?r46
                case y46 => (intro w' hSw; skip; go_simp; (try with_reducible rfl))
                try simp only [Act.put, List.setIfInBounds_toArray, List.set_cons_zero, List.set_cons_succ]
                refine take_at (i := 6) 130 (v := ?v47) rfl rfl (by kernel_rfl) (by kernel_rfl) (by kernel_rfl) (fun _ _ _ h => h) (Or.inl ⟨by rfl, ?y47⟩) hHeld ?r47
                case y47 => (intro w' hSw; skip; go_simp; (try with_reducible rfl))
                try simp only [Act.put, List.setIfInBounds_toArray, List.set_cons_zero, List.set_cons_succ]
                refine take_at (i := 7) 131 (v := ?v48) rfl rfl (by kernel_rfl) (by kernel_rfl) (by kernel_rfl) (fun _ _ _ h => h) (Or.inl ⟨by rfl, ?y48⟩) hHeld ?r48
                case y48 => (intro w' hSw; skip; go_simp; (try with_reducible rfl))
                try simp only [Act.put, List.setIfInBounds_toArray, List.set_cons_zero, List.set_cons_succ]
                refine take_at (i := 8) 132 (v := ?v49) rfl rfl (by kernel_rfl) (by kernel_rfl) (by kernel_rfl) (fun _ _ _ h => h) (Or.inl ⟨by rfl, ?y49⟩) hHeld ?r49
                case y49 => (intro w' hSw; skip; go_simp; (try with_reducible rfl))
                try simp only [Act.put, List.setIfInBounds_toArray, List.set_cons_zero, List.set_cons_succ]
                refine take_at (i := 9) 133 (v := ?v50) rfl rfl (by kernel_rfl) (by kernel_rfl) (by kernel_rfl) (fun _ _ _ h => h) (Or.inl ⟨by rfl, ?y50⟩) hHeld ?r50
                case y50 => (intro w' hSw; skip; go_simp; (try with_reducible rfl))
                try simp only [Act.put, List.setIfInBounds_toArray, List.set_cons_zero, List.set_cons_succ]
                refine take_at (i := 10) 134 (v := ?v51) rfl rfl (by kernel_rfl) (by kernel_rfl) (by kernel_rfl) (fun _ _ _ h => h) (Or.inl ⟨by rfl, ?y51⟩) hHeld ?r51
                case y51 => (intro w' hSw; skip; go_simp; (try with_reducible rfl))
                try simp only [Act.put, List.setIfInBounds_toArray, List.set_cons_zero, List.set_cons_succ]
                refine take_at (i := 11) 135 (v := ?v52) rfl rfl (by kernel_rfl) (by kernel_rfl) (by kernel_rfl) (fun _ _ _ h => h) (Or.inl ⟨by rfl, ?y52⟩) hHeld ?r52
                case y52 => (intro w' hSw; obtain ⟨b0, b1, k0, l0, l1, l2, m0, m1, m2, y0, y1, y2, y3, t0, t1, t2, t3⟩ := HF3.out w' hSw; go_simp; (try with_reducible rfl))
                try simp only [Act.put, List.setIfInBounds_toArray, List.set_cons_zero, List.set_cons_succ]
                refine take_at (i := 12) 136 (v := ?v53) rfl rfl (by kernel_rfl) (by kernel_rfl) (by kernel_rfl) (fun _ _ _ h => h) (Or.inl ⟨by rfl, ?y53⟩) hHeld ?r53
                case y53 => (intro w' hSw; skip; go_simp; (try with_reducible rfl))
                try simp only [Act.put, List.setIfInBounds_toArray, List.set_cons_zero, List.set_cons_succ]
                refine take_at (i := 13) 137 (v := ?v54) rfl rfl (by kernel_rfl) (by kernel_rfl) (by kernel_rfl) (fun _ _ _ h => h) (Or.inl ⟨by rfl, ?y54⟩) hHeld ?r54
                case y54 => (intro w' hSw; skip; go_simp; (try with_reducible rfl))
                try simp only [Act.put, List.setIfInBounds_toArray, List.set_cons_zero, List.set_cons_succ]
                refine take_at (i := 14) 138 (v := ?v55) rfl rfl (by kernel_rfl) (by kernel_rfl) (by kernel_rfl) (fun _ _ _ h => h) (Or.inl ⟨by rfl, ?y55⟩) hHeld ?r55
                case y55 => (intro w' hSw; obtain ⟨b0, b1, k0, l0, l1, l2, m0, m1, m2, y0, y1, y2, y3, t0, t1, t2, t3⟩ := HF3.out w' hSw; go_simp; (try with_reducible rfl))
                try simp only [Act.put, List.setIfInBounds_toArray, List.set_cons_zero, List.set_cons_succ]
                refine take_at (i := 15) 139 (v := ?v56) rfl rfl (by kernel_rfl) (by kernel_rfl) (by kernel_rfl) (fun _ _ _ h => h) (Or.inl ⟨by rfl, ?y56⟩) hHeld ?r56
                case y56 => (intro w' hSw; skip; go_simp; (try with_reducible rfl))
                try simp only [Act.put, List.setIfInBounds_toArray, List.set_cons_zero, List.set_cons_succ]
                refine take_at (i := 16) 140 (v := ?v57) rfl rfl (by kernel_rfl) (by kernel_rfl) (by kernel_rfl) (fun _ _ _ h => h) (Or.inl ⟨by rfl, ?y57⟩) hHeld ?r57
                case y57 => (intro w' hSw; skip; go_simp; (try with_reducible rfl))
                try simp only [Act.put, List.setIfInBounds_toArray, List.set_cons_zero, List.set_cons_succ]
                refine take_at (i := 17) 141 (v := ?v58) rfl rfl (by kernel_rfl) (by kernel_rfl) (by kernel_rfl) (fun _ _ _ h => h) (Or.inl ⟨by rfl, ?y58⟩) hHeld ?r58
                case y58 => (intro w' hSw; skip; go_simp; (try with_reducible rfl))
                try simp only [Act.put, List.setIfInBounds_toArray, List.set_cons_zero, List.set_cons_succ]
                refine take_at (i := 18) 142 (v := ?v59) rfl rfl (by kernel_rfl) (by kernel_rfl) (by kernel_rfl) (fun _ _ _ h => h) (Or.inl ⟨by rfl, ?y59⟩) hHeld ?r59
                case y59 => (intro w' hSw; skip; go_simp; (try with_reducible rfl))
                try simp only [Act.put, List.setIfInBounds_toArray, List.set_cons_zero, List.set_cons_succ]
                refine take_at (i := 19) 143 (v := ?v60) rfl rfl (by kernel_rfl) (by kernel_rfl) (by kernel_rfl) (fun _ _ _ h => h) (Or.inl ⟨by rfl, ?y60⟩) hHeld ?r60
                case y60 => (intro w' hSw; obtain ⟨b0, b1, k0, l0, l1, l2, m0, m1, m2, y0, y1, y2, y3, t0, t1, t2, t3⟩ := HF3.out w' hSw; go_simp; (try with_reducible rfl))
                try simp only [Act.put, List.setIfInBounds_toArray, List.set_cons_zero, List.set_cons_succ]
                refine take_at (i := 20) 144 (v := ?v61) rfl rfl (by kernel_rfl) (by kernel_rfl) (by kernel_rfl) (fun _ _ _ h => h) (Or.inl ⟨by rfl, ?y61⟩) hHeld ?r61
                case y61 => (intro w' hSw; skip; go_simp; (try with_reducible rfl))
                try simp only [Act.put, List.setIfInBounds_toArray, List.set_cons_zero, List.set_cons_succ]
                refine take_at (i := 21) 145 (v := ?v62) rfl rfl (by kernel_rfl) (by kernel_rfl) (by kernel_rfl) (fun _ _ _ h => h) (Or.inl ⟨by rfl, ?y62⟩) hHeld ?r62
                case y62 => (intro w' hSw; skip; go_simp; (try with_reducible rfl))
                try simp only [Act.put, List.setIfInBounds_toArray, List.set_cons_zero, List.set_cons_succ]
                refine take_at (i := 22) 146 (v := ?v63) rfl rfl (by kernel_rfl) (by kernel_rfl) (by kernel_rfl) (fun _ _ _ h => h) (Or.inl ⟨by rfl, ?y63⟩) hHeld ?r63
                case y63 => (intro w' hSw; obtain ⟨b0, b1, k0, l0, l1, l2, m0, m1, m2, y0, y1, y2, y3, t0, t1, t2, t3⟩ := HF3.out w' hSw; go_simp; (try with_reducible rfl))
                try simp only [Act.put, List.setIfInBounds_toArray, List.set_cons_zero, List.set_cons_succ]
                refine take_at (i := 23) 147 (v := ?v64) rfl rfl (by kernel_rfl) (by kernel_rfl) (by kernel_rfl) (fun _ _ _ h => h) (Or.inl ⟨by rfl, ?y64⟩) hHeld ?r64
                case y64 => (intro w' hSw; skip; go_simp; (try with_reducible rfl))
                try simp only [Act.put, List.setIfInBounds_toArray, List.set_cons_zero, List.set_cons_succ]
                refine take_at (i := 24) 148 (v := ?v65) rfl rfl (by kernel_rfl) (by kernel_rfl) (by kernel_rfl) (fun _ _ _ h => h) (Or.inl ⟨by rfl, ?y65⟩) hHeld ?r65
                case y65 => (intro w' hSw; skip; go_simp; (try with_reducible rfl))
                try simp only [Act.put, List.setIfInBounds_toArray, List.set_cons_zero, List.set_cons_succ]
                refine take_at (i := 25) 149 (v := ?v66) rfl rfl (by kernel_rfl) (by kernel_rfl) (by kernel_rfl) (fun _ _ _ h => h) (Or.inl ⟨by rfl, ?y66⟩) hHeld ?r66
                case y66 => (intro w' hSw; obtain ⟨b0, b1, k0, l0, l1, l2, m0, m1, m2, y0, y1, y2, y3, t0, t1, t2, t3⟩ := HF3.out w' hSw; go_simp; (try with_reducible rfl))
                try simp only [Act.put, List.setIfInBounds_toArray, List.set_cons_zero, List.set_cons_succ]
                refine take_at (i := 26) 150 (v := ?v67) rfl rfl (by kernel_rfl) (by kernel_rfl) (by kernel_rfl) (fun _ _ _ h => h) (Or.inl ⟨by rfl, ?y67⟩) hHeld ?r67
                case y67 => (intro w' hSw; skip; go_simp; (try with_reducible rfl))
                try simp only [Act.put, List.setIfInBounds_toArray, List.set_cons_zero, List.set_cons_succ]
                refine take_at (i := 27) 151 (v := ?v68) rfl rfl (by kernel_rfl) (by kernel_rfl) (by kernel_rfl) (fun _ _ _ h => h) (Or.inl ⟨by rfl, ?y68⟩) hHeld ?r68
                case y68 => (intro w' hSw; obtain ⟨b0, b1, k0, l0, l1, l2, m0, m1, m2, y0, y1, y2, y3, t0, t1, t2, t3⟩ := HF3.out w' hSw; go_simp; (try with_reducible rfl))
                try simp only [Act.put, List.setIfInBounds_toArray, List.set_cons_zero, List.set_cons_succ]
                refine wpAnyH_ready (rs := [28]) (by kernel_rfl) (by simp) ?_
                refine AllReadyH.cons rfl (fun K hK => ?_) AllReadyH.nil
                go_simp
                refine (SM).mono ?_
                rintro e w10 ⟨rfl, hb10⟩
                have HB10 : Hid (Below w9.heap.size w9 w10) := (Below.drew (Below.refl _ _)).trans hb10
                clear hb10
                go_wp2_with fail
                refine hK.out _ _ ?_ (fun hHeld => ?_)
                · exact HB10.out
                clear hK K
                try simp only [Act.put, List.setIfInBounds_toArray, List.set_cons_zero, List.set_cons_succ]
                refine take_at (i := 29) 153 (v := ?v69) rfl rfl (by kernel_rfl) (by kernel_rfl) (by kernel_rfl) (fun _ _ _ h => h) (Or.inl ⟨by rfl, ?y69⟩) hHeld ?r69
                case y69 => (intro w' hSw; skip; go_simp; (try with_reducible rfl))
                try simp only [Act.put, List.setIfInBounds_toArray, List.set_cons_zero, List.set_cons_succ]
                refine take_at (i := 30) 154 (v := ?v70) rfl rfl (by kernel_rfl) (by kernel_rfl) (by kernel_rfl) (fun _ _ _ h => h) (Or.inl ⟨by rfl, ?y70⟩) hHeld ?r70
                case y70 => (intro w' hSw; skip; go_simp; (try with_reducible rfl))
                try simp only [Act.put, List.setIfInBounds_toArray, List.set_cons_zero, List.set_cons_succ]
                refine wpAnyH_done (by kernel_rfl) ?_ _
                have HBq : Hid (Below W0.heap.size W0 w10) := bl_trans HBW.out HB10.out
                clear hHeld HF3 SM HBW HB10
                go_wp2_with fail
                go_roundw
                case rel => exact ⟨k + 1, by omega, by go_num, HBq⟩
                case measure => simp [intOf]; omega
              · have hlkz : ¬ (k : Int) < (n : Int) := by omega
                clear hS
                go_wp2_with fail
                go_ret
                exact ⟨rfl, bl_trans HB0.out HB.out⟩
end Go.Proofs.YtobnpfcgcoooeaaGreatDoor
