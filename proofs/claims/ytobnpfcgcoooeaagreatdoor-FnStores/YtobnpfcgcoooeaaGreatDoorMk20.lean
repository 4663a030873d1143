/- Texts put together: GraH -/
import Derived.Test.YtobnpfcgcoooeaaGreatDoorMk08
/- GraH -/
namespace Go.Proofs.YtobnpfcgcoooeaaGreatDoor
open Go.RowKit Go.Deep

set_option maxRecDepth 20000 in
set_option maxHeartbeats 1000000 in
theorem implGraphOk_any (a : Option Addr) (n cap : Nat) (T U V : Nat → Tm) (bt bu bv : Nat → List Int) (w : World) (hn : n ≤ 1048576) (hf : AllFit n T U V) (hR : Rows w a n T U V) (h1 : Texts w n T bt) (h2 : Texts w n U bu) (h3 : Texts w n V bv) :
    Calls Tryz.prog 14 #[.agg #[.slice a n cap]] w fun e w' => e = .returned (.bool (graphOk n T U V bt bu bv)) ∧ Below w.heap.size w w' := by
  by_cases hbig : 60 < n
  · rw [graphOk_long hbig]
    clear hf hR h1 h2 h3
    go_enter Tryz.func14, Tryz.ntmps14
    go_wp2
    go_ret
    exact ⟨rfl, bl_a _⟩
  by_cases hn0 : n = 0
  · subst hn0
    rw [graphOk_all (by omega) (fun i hi => by omega)]
    clear hf hR h1 h2 h3
    go_enter Tryz.func14, Tryz.ntmps14
    go_wp2
    refine wp_loop_rounds 1 ?_
    rw [rounds_succ]
    go_wp2
    go_ret
    exact ⟨rfl, bl_a _⟩
  obtain ⟨b, off, rfl, hlt, hc⟩ := hR.resolve_left hn0
  have HC : Hid (∀ i, i < n → Row12 w b (off + i * 12) (T i) (U i) (V i)) := hc
  have H1 : Hid (Texts w n T bt) := h1
  have H2 : Hid (Texts w n U bu) := h2
  have H3 : Hid (Texts w n V bv) := h3
  have HF : Hid (AllFit n T U V) := hf
  clear hR hc h1 h2 h3 hf
  obtain ⟨res, HR⟩ : ∃ res, Hid (res = graphOk n T U V bt bu bv) := ⟨_, rfl⟩
  have er : graphOk n T U V bt bu bv = res := HR.out.symm
  rw [er]
  clear er
  go_enter Tryz.func14, Tryz.ntmps14
  go_wp2
  go_loopw [12] (fun i wr => ∃ k : Nat, k ≤ n ∧ i = .int .i64 k ∧ Below w.heap.size w wr ∧ w.heap.size < wr.heap.size ∧ wr.cell? ⟨w.heap.size, 0, none⟩ = some (.slice (some ⟨b, off, none⟩) n cap) ∧ Hid (∀ j, j < k → stepOk T U V bt bu bv j = true))
    (fun i _ => n - (intOf i).toNat)
  case atStart => exact ⟨0, Nat.zero_le _, rfl, bl_a _, by simp, by simp [go_sem], fun j hj => by omega⟩
  case round =>
    obtain ⟨k, hk, rfl, hb, hsz, hbox, HH⟩ := hrel
    by_cases hlk : k < n
    · have hx0 := (HC.out k hlk).of_block (hb.block b hlt)
      have O := fun (w' : World) (hq : Below w.heap.size w w') => implTripleOk_any (T k) (U k) (V k) (bt k) (bu k) (bv k) w' (HF.out k hlk).1 (HF.out k hlk).2.1 (HF.out k hlk).2.2 ((H1.out k hlk).below hq) ((H2.out k hlk).below hq) ((H3.out k hlk).below hq)
      cases ok : tripleOk (T k) (U k) (V k) (bt k) (bu k) (bv k)
      · have HB : Hid (res = false) := by
          show _ = _
          rw [HR.out]
          exact graphOk_bad hlk (by simp [stepOk, ok])
        simp only [ok] at O
        clear ok
        have hx := hx0
        obtain ⟨⟨x0, x1, x2, x3⟩, ⟨x4, x5, x6, x7⟩, ⟨x8, x9, xa, xb⟩⟩ := hx
        go_wp2_with fail
        change Code.wp _ _ _ _ (wr.alloc (.cells (cells12 (T k) (U k) (V k)) 41))
        have hZ := (Own12.at wr wr.heap.size (T k) (U k) (V k) 41 rfl).1
        have hb1 := bl_alloc hb (.cells (cells12 (T k) (U k) (V k)) 41)
        have hbox1 : (wr.alloc (.cells (cells12 (T k) (U k) (V k)) 41)).cell? ⟨w.heap.size, 0, none⟩ = some (.slice (some ⟨b, off, none⟩) n cap) := ((bl_a _).cell (p := ⟨w.heap.size, 0, none⟩) hsz).trans hbox
        have hsz1 : w.heap.size < (wr.alloc (.cells (cells12 (T k) (U k) (V k)) 41)).heap.size := Nat.lt_of_lt_of_le hsz (bl_a _).size
        generalize (wr.alloc (.cells (cells12 (T k) (U k) (V k)) 41)) = w1 at *
        clear x0 x1 x2 x3 x4 x5 x6 x7 x8 x9 xa xb
        obtain ⟨_, ⟨x0, x1, x2, x3⟩, ⟨x4, x5, x6, x7⟩, ⟨x8, x9, xa, xb⟩⟩ := id hZ
        refine wp_region_held_drew (S := (fun w' => w'.cell? ⟨w.heap.size, 0, none⟩ = some (.slice (some ⟨b, off, none⟩) n cap) ∧ w'.cell? ⟨wr.heap.size, 0, none⟩ = some (.int .i64 (T k).k) ∧ w'.cell? ⟨wr.heap.size, 1, none⟩ = some (.slice (T k).a (T k).len (T k).cap) ∧ w'.cell? ⟨wr.heap.size, 2, none⟩ = some (.int .i64 (T k).n) ∧ w'.cell? ⟨wr.heap.size, 3, none⟩ = some (.int .i64 (T k).s) ∧ w'.cell? ⟨wr.heap.size, 4, none⟩ = some (.int .i64 (U k).k) ∧ w'.cell? ⟨wr.heap.size, 5, none⟩ = some (.slice (U k).a (U k).len (U k).cap) ∧ w'.cell? ⟨wr.heap.size, 6, none⟩ = some (.int .i64 (U k).n) ∧ w'.cell? ⟨wr.heap.size, 7, none⟩ = some (.int .i64 (U k).s) ∧ w'.cell? ⟨wr.heap.size, 8, none⟩ = some (.int .i64 (V k).k) ∧ w'.cell? ⟨wr.heap.size, 9, none⟩ = some (.slice (V k).a (V k).len (V k).cap) ∧ w'.cell? ⟨wr.heap.size, 10, none⟩ = some (.int .i64 (V k).n) ∧ w'.cell? ⟨wr.heap.size, 11, none⟩ = some (.int .i64 (V k).s))) (by kernel_rfl) ?_ (fun hHeld => ?_)
        · simp [*, go_sem]
        refine take_at (i := 0) 17 (v := ?v501) rfl rfl (by kernel_rfl) (by kernel_rfl) (by kernel_rfl) (fun _ _ _ h => h) (Or.inl ⟨by rfl, ?y501⟩) (by assumption) ?r501
        case y501 => (intro w hSw; (try dsimp only at hSw); go_simp; (try with_reducible rfl))
        simp only [Act.put, List.setIfInBounds_toArray, List.set_cons_zero, List.set_cons_succ]
        refine wpAnyH_ready (rs := [1]) (by kernel_rfl) (by simp) ?_
        refine AllReadyH.cons rfl (fun K hK => ?_) AllReadyH.nil
        go_simp
        refine (O _ (bl_trans hb1 bl_drew0)).mono ?_
        rintro e w2 ⟨rfl, hb2⟩
        have hb3 := bl_trans bl_drew0 hb2
        have hbox2 := (hb3.cell (p := ⟨w.heap.size, 0, none⟩) hsz1).trans hbox1
        have hZ2 := hZ.below hb3
        obtain ⟨_, ⟨x0, x1, x2, x3⟩, ⟨x4, x5, x6, x7⟩, ⟨x8, x9, xa, xb⟩⟩ := id hZ2
        go_wp2_with fail
        refine hK.out _ _ ?_ (fun hHeld => ?_)
        · simp [*, go_sem]
        clear hK K
        refine take_at (i := 2) 19 (v := ?v502) rfl rfl (by kernel_rfl) (by kernel_rfl) (by kernel_rfl) (fun _ _ _ h => h) (Or.inl ⟨by rfl, ?y502⟩) (by assumption) ?r502
        case y502 => (intro w hSw; (try dsimp only at hSw); go_simp; (try with_reducible rfl))
        simp only [Act.put, List.setIfInBounds_toArray, List.set_cons_zero, List.set_cons_succ]
        refine take_at (i := 3) 20 (v := ?v503) rfl rfl (by kernel_rfl) (by kernel_rfl) (by kernel_rfl) (fun _ _ _ h => h) (Or.inl ⟨by rfl, ?y503⟩) (by assumption) ?r503
        case y503 => (intro w hSw; (try dsimp only at hSw); go_simp; (try with_reducible rfl))
        simp only [Act.put, List.setIfInBounds_toArray, List.set_cons_zero, List.set_cons_succ]
        refine take_at (i := 4) 21 (v := undef) rfl rfl (by kernel_rfl) (by kernel_rfl) (by kernel_rfl) (fun _ _ _ h => h) (Or.inr ⟨by rfl, rfl⟩) (by assumption) ?_
        simp only [Act.put, List.setIfInBounds_toArray, List.set_cons_zero, List.set_cons_succ]
        refine take_at (i := 5) 22 (v := undef) rfl rfl (by kernel_rfl) (by kernel_rfl) (by kernel_rfl) (fun _ _ _ h => h) (Or.inr ⟨by rfl, rfl⟩) (by assumption) ?_
        simp only [Act.put, List.setIfInBounds_toArray, List.set_cons_zero, List.set_cons_succ]
        refine take_at (i := 6) 23 (v := undef) rfl rfl (by kernel_rfl) (by kernel_rfl) (by kernel_rfl) (fun _ _ _ h => h) (Or.inr ⟨by rfl, rfl⟩) (by assumption) ?_
        simp only [Act.put, List.setIfInBounds_toArray, List.set_cons_zero, List.set_cons_succ]
        refine take_at (i := 7) 24 (v := undef) rfl rfl (by kernel_rfl) (by kernel_rfl) (by kernel_rfl) (fun _ _ _ h => h) (Or.inr ⟨by rfl, rfl⟩) (by assumption) ?_
        simp only [Act.put, List.setIfInBounds_toArray, List.set_cons_zero, List.set_cons_succ]
        refine take_at (i := 8) 25 (v := undef) rfl rfl (by kernel_rfl) (by kernel_rfl) (by kernel_rfl) (fun _ _ _ h => h) (Or.inr ⟨by rfl, rfl⟩) (by assumption) ?_
        simp only [Act.put, List.setIfInBounds_toArray, List.set_cons_zero, List.set_cons_succ]
        refine take_at (i := 9) 26 (v := undef) rfl rfl (by kernel_rfl) (by kernel_rfl) (by kernel_rfl) (fun _ _ _ h => h) (Or.inr ⟨by rfl, rfl⟩) (by assumption) ?_
        simp only [Act.put, List.setIfInBounds_toArray, List.set_cons_zero, List.set_cons_succ]
        refine take_at (i := 10) 27 (v := undef) rfl rfl (by kernel_rfl) (by kernel_rfl) (by kernel_rfl) (fun _ _ _ h => h) (Or.inr ⟨by rfl, rfl⟩) (by assumption) ?_
        simp only [Act.put, List.setIfInBounds_toArray, List.set_cons_zero, List.set_cons_succ]
        refine take_at (i := 11) 28 (v := undef) rfl rfl (by kernel_rfl) (by kernel_rfl) (by kernel_rfl) (fun _ _ _ h => h) (Or.inr ⟨by rfl, rfl⟩) (by assumption) ?_
        simp only [Act.put, List.setIfInBounds_toArray, List.set_cons_zero, List.set_cons_succ]
        refine take_at (i := 12) 29 (v := undef) rfl rfl (by kernel_rfl) (by kernel_rfl) (by kernel_rfl) (fun _ _ _ h => h) (Or.inr ⟨by rfl, rfl⟩) (by assumption) ?_
        simp only [Act.put, List.setIfInBounds_toArray, List.set_cons_zero, List.set_cons_succ]
        refine take_at (i := 13) 30 (v := undef) rfl rfl (by kernel_rfl) (by kernel_rfl) (by kernel_rfl) (fun _ _ _ h => h) (Or.inr ⟨by rfl, rfl⟩) (by assumption) ?_
        simp only [Act.put, List.setIfInBounds_toArray, List.set_cons_zero, List.set_cons_succ]
        refine take_at (i := 14) 31 (v := undef) rfl rfl (by kernel_rfl) (by kernel_rfl) (by kernel_rfl) (fun _ _ _ h => h) (Or.inr ⟨by rfl, rfl⟩) (by assumption) ?_
        simp only [Act.put, List.setIfInBounds_toArray, List.set_cons_zero, List.set_cons_succ]
        refine take_at (i := 15) 32 (v := undef) rfl rfl (by kernel_rfl) (by kernel_rfl) (by kernel_rfl) (fun _ _ _ h => h) (Or.inr ⟨by rfl, rfl⟩) (by assumption) ?_
        simp only [Act.put, List.setIfInBounds_toArray, List.set_cons_zero, List.set_cons_succ]
        refine take_at (i := 16) 33 (v := undef) rfl rfl (by kernel_rfl) (by kernel_rfl) (by kernel_rfl) (fun _ _ _ h => h) (Or.inr ⟨by rfl, rfl⟩) (by assumption) ?_
        simp only [Act.put, List.setIfInBounds_toArray, List.set_cons_zero, List.set_cons_succ]
        refine take_at (i := 17) 34 (v := ?v504) rfl rfl (by kernel_rfl) (by kernel_rfl) (by kernel_rfl) (fun _ _ _ h => h) (Or.inl ⟨by rfl, ?y504⟩) (by assumption) ?r504
        case y504 => (intro w hSw; (try dsimp only at hSw); go_simp; (try with_reducible rfl))
        simp only [Act.put, List.setIfInBounds_toArray, List.set_cons_zero, List.set_cons_succ]
        refine wpAnyH_done (by kernel_rfl) ?_ _
        go_wp2
        go_ret
        exact ⟨by rw [HB.out]; rfl, bl_trans hb1 hb3⟩
      · simp only [ok] at O
        rcases Nat.eq_zero_or_pos k with hk0 | hk0
        · subst hk0
          have HB : Hid (stepOk T U V bt bu bv 0 = true) := by
            show _ = _
            simp [stepOk, ok]
          have hx0 : Row12 wr b off (T 0) (U 0) (V 0) := by simpa using hx0
          have hx := hx0
          obtain ⟨⟨x0, x1, x2, x3⟩, ⟨x4, x5, x6, x7⟩, ⟨x8, x9, xa, xb⟩⟩ := hx
          go_wp2_with fail
          change Code.wp _ _ _ _ (wr.alloc (.cells (cells12 (T 0) (U 0) (V 0)) 41))
          have hZ := (Own12.at wr wr.heap.size (T 0) (U 0) (V 0) 41 rfl).1
          have hb1 := bl_alloc hb (.cells (cells12 (T 0) (U 0) (V 0)) 41)
          have hbox1 : (wr.alloc (.cells (cells12 (T 0) (U 0) (V 0)) 41)).cell? ⟨w.heap.size, 0, none⟩ = some (.slice (some ⟨b, off, none⟩) n cap) := ((bl_a _).cell (p := ⟨w.heap.size, 0, none⟩) hsz).trans hbox
          have hsz1 : w.heap.size < (wr.alloc (.cells (cells12 (T 0) (U 0) (V 0)) 41)).heap.size := Nat.lt_of_lt_of_le hsz (bl_a _).size
          generalize (wr.alloc (.cells (cells12 (T 0) (U 0) (V 0)) 41)) = w1 at *
          clear x0 x1 x2 x3 x4 x5 x6 x7 x8 x9 xa xb
          obtain ⟨_, ⟨x0, x1, x2, x3⟩, ⟨x4, x5, x6, x7⟩, ⟨x8, x9, xa, xb⟩⟩ := id hZ
          refine wp_region_held_drew (S := (fun w' => w'.cell? ⟨w.heap.size, 0, none⟩ = some (.slice (some ⟨b, off, none⟩) n cap) ∧ w'.cell? ⟨wr.heap.size, 0, none⟩ = some (.int .i64 (T 0).k) ∧ w'.cell? ⟨wr.heap.size, 1, none⟩ = some (.slice (T 0).a (T 0).len (T 0).cap) ∧ w'.cell? ⟨wr.heap.size, 2, none⟩ = some (.int .i64 (T 0).n) ∧ w'.cell? ⟨wr.heap.size, 3, none⟩ = some (.int .i64 (T 0).s) ∧ w'.cell? ⟨wr.heap.size, 4, none⟩ = some (.int .i64 (U 0).k) ∧ w'.cell? ⟨wr.heap.size, 5, none⟩ = some (.slice (U 0).a (U 0).len (U 0).cap) ∧ w'.cell? ⟨wr.heap.size, 6, none⟩ = some (.int .i64 (U 0).n) ∧ w'.cell? ⟨wr.heap.size, 7, none⟩ = some (.int .i64 (U 0).s) ∧ w'.cell? ⟨wr.heap.size, 8, none⟩ = some (.int .i64 (V 0).k) ∧ w'.cell? ⟨wr.heap.size, 9, none⟩ = some (.slice (V 0).a (V 0).len (V 0).cap) ∧ w'.cell? ⟨wr.heap.size, 10, none⟩ = some (.int .i64 (V 0).n) ∧ w'.cell? ⟨wr.heap.size, 11, none⟩ = some (.int .i64 (V 0).s))) (by kernel_rfl) ?_ (fun hHeld => ?_)
          · simp [*, go_sem]
          refine take_at (i := 0) 17 (v := ?v505) rfl rfl (by kernel_rfl) (by kernel_rfl) (by kernel_rfl) (fun _ _ _ h => h) (Or.inl ⟨by rfl, ?y505⟩) (by assumption) ?r505
          case y505 => (intro w hSw; (try dsimp only at hSw); go_simp; (try with_reducible rfl))
          simp only [Act.put, List.setIfInBounds_toArray, List.set_cons_zero, List.set_cons_succ]
          refine wpAnyH_ready (rs := [1]) (by kernel_rfl) (by simp) ?_
          refine AllReadyH.cons rfl (fun K hK => ?_) AllReadyH.nil
          go_simp
          refine (O _ (bl_trans hb1 bl_drew0)).mono ?_
          rintro e w2 ⟨rfl, hb2⟩
          have hb3 := bl_trans bl_drew0 hb2
          have hbox2 := (hb3.cell (p := ⟨w.heap.size, 0, none⟩) hsz1).trans hbox1
          have hZ2 := hZ.below hb3
          obtain ⟨_, ⟨x0, x1, x2, x3⟩, ⟨x4, x5, x6, x7⟩, ⟨x8, x9, xa, xb⟩⟩ := id hZ2
          go_wp2_with fail
          refine hK.out _ _ ?_ (fun hHeld => ?_)
          · simp [*, go_sem]
          clear hK K
          refine take_at (i := 2) 19 (v := ?v506) rfl rfl (by kernel_rfl) (by kernel_rfl) (by kernel_rfl) (fun _ _ _ h => h) (Or.inl ⟨by rfl, ?y506⟩) (by assumption) ?r506
          case y506 => (intro w hSw; (try dsimp only at hSw); go_simp; (try with_reducible rfl))
          simp only [Act.put, List.setIfInBounds_toArray, List.set_cons_zero, List.set_cons_succ]
          refine take_at (i := 3) 20 (v := ?v507) rfl rfl (by kernel_rfl) (by kernel_rfl) (by kernel_rfl) (fun _ _ _ h => h) (Or.inl ⟨by rfl, ?y507⟩) (by assumption) ?r507
          case y507 => (intro w hSw; (try dsimp only at hSw); go_simp; (try with_reducible rfl))
          simp only [Act.put, List.setIfInBounds_toArray, List.set_cons_zero, List.set_cons_succ]
          refine take_at (i := 4) 21 (v := ?v508) rfl rfl (by kernel_rfl) (by kernel_rfl) (by kernel_rfl) (fun _ _ _ h => h) (Or.inl ⟨by rfl, ?y508⟩) (by assumption) ?r508
          case y508 => (intro w hSw; (try dsimp only at hSw); go_simp; (try with_reducible rfl))
          simp only [Act.put, List.setIfInBounds_toArray, List.set_cons_zero, List.set_cons_succ]
          refine take_at (i := 5) 22 (v := ?v509) rfl rfl (by kernel_rfl) (by kernel_rfl) (by kernel_rfl) (fun _ _ _ h => h) (Or.inl ⟨by rfl, ?y509⟩) (by assumption) ?r509
          case y509 => (intro w hSw; (try dsimp only at hSw); go_simp; (try with_reducible rfl))
          simp only [Act.put, List.setIfInBounds_toArray, List.set_cons_zero, List.set_cons_succ]
          refine take_at (i := 6) 23 (v := ?v510) rfl rfl (by kernel_rfl) (by kernel_rfl) (by kernel_rfl) (fun _ _ _ h => h) (Or.inl ⟨by rfl, ?y510⟩) (by assumption) ?r510
          case y510 => (intro w hSw; (try dsimp only at hSw); go_simp; (try with_reducible rfl))
          simp only [Act.put, List.setIfInBounds_toArray, List.set_cons_zero, List.set_cons_succ]
          refine take_at (i := 7) 24 (v := undef) rfl rfl (by kernel_rfl) (by kernel_rfl) (by kernel_rfl) (fun _ _ _ h => h) (Or.inr ⟨by rfl, rfl⟩) (by assumption) ?_
          simp only [Act.put, List.setIfInBounds_toArray, List.set_cons_zero, List.set_cons_succ]
          refine take_at (i := 8) 25 (v := undef) rfl rfl (by kernel_rfl) (by kernel_rfl) (by kernel_rfl) (fun _ _ _ h => h) (Or.inr ⟨by rfl, rfl⟩) (by assumption) ?_
          simp only [Act.put, List.setIfInBounds_toArray, List.set_cons_zero, List.set_cons_succ]
          refine take_at (i := 9) 26 (v := undef) rfl rfl (by kernel_rfl) (by kernel_rfl) (by kernel_rfl) (fun _ _ _ h => h) (Or.inr ⟨by rfl, rfl⟩) (by assumption) ?_
          simp only [Act.put, List.setIfInBounds_toArray, List.set_cons_zero, List.set_cons_succ]
          refine take_at (i := 10) 27 (v := undef) rfl rfl (by kernel_rfl) (by kernel_rfl) (by kernel_rfl) (fun _ _ _ h => h) (Or.inr ⟨by rfl, rfl⟩) (by assumption) ?_
          simp only [Act.put, List.setIfInBounds_toArray, List.set_cons_zero, List.set_cons_succ]
          refine take_at (i := 11) 28 (v := undef) rfl rfl (by kernel_rfl) (by kernel_rfl) (by kernel_rfl) (fun _ _ _ h => h) (Or.inr ⟨by rfl, rfl⟩) (by assumption) ?_
          simp only [Act.put, List.setIfInBounds_toArray, List.set_cons_zero, List.set_cons_succ]
          refine take_at (i := 12) 29 (v := undef) rfl rfl (by kernel_rfl) (by kernel_rfl) (by kernel_rfl) (fun _ _ _ h => h) (Or.inr ⟨by rfl, rfl⟩) (by assumption) ?_
          simp only [Act.put, List.setIfInBounds_toArray, List.set_cons_zero, List.set_cons_succ]
          refine take_at (i := 13) 30 (v := undef) rfl rfl (by kernel_rfl) (by kernel_rfl) (by kernel_rfl) (fun _ _ _ h => h) (Or.inr ⟨by rfl, rfl⟩) (by assumption) ?_
          simp only [Act.put, List.setIfInBounds_toArray, List.set_cons_zero, List.set_cons_succ]
          refine take_at (i := 14) 31 (v := undef) rfl rfl (by kernel_rfl) (by kernel_rfl) (by kernel_rfl) (fun _ _ _ h => h) (Or.inr ⟨by rfl, rfl⟩) (by assumption) ?_
          simp only [Act.put, List.setIfInBounds_toArray, List.set_cons_zero, List.set_cons_succ]
          refine take_at (i := 15) 32 (v := undef) rfl rfl (by kernel_rfl) (by kernel_rfl) (by kernel_rfl) (fun _ _ _ h => h) (Or.inr ⟨by rfl, rfl⟩) (by assumption) ?_
          simp only [Act.put, List.setIfInBounds_toArray, List.set_cons_zero, List.set_cons_succ]
          refine take_at (i := 16) 33 (v := ?v511) rfl rfl (by kernel_rfl) (by kernel_rfl) (by kernel_rfl) (fun _ _ _ h => h) (Or.inl ⟨by rfl, ?y511⟩) (by assumption) ?r511
          case y511 => (intro w hSw; (try dsimp only at hSw); go_simp; (try with_reducible rfl))
          simp only [Act.put, List.setIfInBounds_toArray, List.set_cons_zero, List.set_cons_succ]
          refine take_at (i := 17) 34 (v := ?v512) rfl rfl (by kernel_rfl) (by kernel_rfl) (by kernel_rfl) (fun _ _ _ h => h) (Or.inl ⟨by rfl, ?y512⟩) (by assumption) ?r512
          case y512 => (intro w hSw; (try dsimp only at hSw); go_simp; (try with_reducible rfl))
          simp only [Act.put, List.setIfInBounds_toArray, List.set_cons_zero, List.set_cons_succ]
          refine wpAnyH_done (by kernel_rfl) ?_ _
          go_wp2
          go_roundw
          case rel =>
            refine ⟨1, by omega, by go_num, bl_trans hb1 hb3, Nat.lt_of_lt_of_le hsz1 hb3.size, hbox2, fun j hj => ?_⟩
            obtain rfl : j = 0 := by omega
            exact HB.out
          case measure => simp [intOf]; omega
        · obtain ⟨m, hm⟩ : ∃ m, k = m + 1 := ⟨k - 1, by omega⟩
          have hkm : (k : Int) - 1 = (m : Int) := by omega
          have hmn : (m : Int) < (n : Int) := by omega
          have hm0 : (0 : Int) ≤ (m : Int) := by omega
          have hkp : (0 : Int) < (k : Int) := by omega
          have hkk : k - 1 = m := by omega
          have hwm : IntKind.i64.wrap (m : Int) = (m : Int) := by rw [IntKind.wrap_i64]; omega
          have hwk : IntKind.i64.wrap ((k : Int) - 1) = (m : Int) := by rw [IntKind.wrap_i64]; omega
          have hz0 := ((HC.out m (by omega)).of_block (hb.block b hlt)).of_block ((bl_a (.cells (cells12 (T k) (U k) (V k)) 41)).block b (Nat.lt_of_lt_of_le hlt hb.size))
          have ok' := stepOk_first (HH.out m (by omega))
          have Cm := fun (w' : World) (hq : Below w.heap.size w w') => compareTriples_any (T m) (U m) (V m) (T k) (U k) (V k) (bt m) (bu m) (bv m) (bt k) (bu k) (bv k) w' (HF.out m (by omega)).1 (HF.out m (by omega)).2.1 (HF.out m (by omega)).2.2 (HF.out k hlk).1 (HF.out k hlk).2.1 (HF.out k hlk).2.2 ok' ok ((H1.out m (by omega)).below hq) ((H2.out m (by omega)).below hq) ((H3.out m (by omega)).below hq) ((H1.out k hlk).below hq) ((H2.out k hlk).below hq) ((H3.out k hlk).below hq)
          have HS : Hid (stepOk T U V bt bu bv k = decide (tcmp3 (T m) (U m) (V m) (T k) (U k) (V k) (bt m) (bu m) (bv m) (bt k) (bu k) (bv k) < 0)) := by
            show _ = _
            simp [stepOk, ok, hkk, show ¬ k = 0 by omega]
          generalize tcmp3 (T m) (U m) (V m) (T k) (U k) (V k) (bt m) (bu m) (bv m) (bt k) (bu k) (bv k) = c at *
          have hx := hx0
          obtain ⟨⟨x0, x1, x2, x3⟩, ⟨x4, x5, x6, x7⟩, ⟨x8, x9, xa, xb⟩⟩ := hx
          clear ok ok' hm hkk
          by_cases hc : c < 0
          · have hcd : decide (0 ≤ c) = false := by simp; omega
            have HS : Hid (stepOk T U V bt bu bv k = true) := by
              show _ = _
              rw [HS.out]
              simpa using hc
            go_wp2_with fail
            change Code.wp _ _ _ _ (wr.alloc (.cells (cells12 (T k) (U k) (V k)) 41))
            have hZ := (Own12.at wr wr.heap.size (T k) (U k) (V k) 41 rfl).1
            have hb1 := bl_alloc hb (.cells (cells12 (T k) (U k) (V k)) 41)
            have hbox1 : (wr.alloc (.cells (cells12 (T k) (U k) (V k)) 41)).cell? ⟨w.heap.size, 0, none⟩ = some (.slice (some ⟨b, off, none⟩) n cap) := ((bl_a _).cell (p := ⟨w.heap.size, 0, none⟩) hsz).trans hbox
            have hsz1 : w.heap.size < (wr.alloc (.cells (cells12 (T k) (U k) (V k)) 41)).heap.size := Nat.lt_of_lt_of_le hsz (bl_a _).size
            generalize (wr.alloc (.cells (cells12 (T k) (U k) (V k)) 41)) = w1 at *
            clear x0 x1 x2 x3 x4 x5 x6 x7 x8 x9 xa xb
            obtain ⟨_, ⟨x0, x1, x2, x3⟩, ⟨x4, x5, x6, x7⟩, ⟨x8, x9, xa, xb⟩⟩ := id hZ
            have hz := hz0
            obtain ⟨⟨z0, z1, z2, z3⟩, ⟨z4, z5, z6, z7⟩, ⟨z8, z9, za, zb⟩⟩ := hz
            go_region_held3 (fun w' => w'.cell? ⟨w.heap.size, 0, none⟩ = some (.slice (some ⟨b, off, none⟩) n cap) ∧ w'.cell? ⟨wr.heap.size, 0, none⟩ = some (.int .i64 (T k).k) ∧ w'.cell? ⟨wr.heap.size, 1, none⟩ = some (.slice (T k).a (T k).len (T k).cap) ∧ w'.cell? ⟨wr.heap.size, 2, none⟩ = some (.int .i64 (T k).n) ∧ w'.cell? ⟨wr.heap.size, 3, none⟩ = some (.int .i64 (T k).s) ∧ w'.cell? ⟨wr.heap.size, 4, none⟩ = some (.int .i64 (U k).k) ∧ w'.cell? ⟨wr.heap.size, 5, none⟩ = some (.slice (U k).a (U k).len (U k).cap) ∧ w'.cell? ⟨wr.heap.size, 6, none⟩ = some (.int .i64 (U k).n) ∧ w'.cell? ⟨wr.heap.size, 7, none⟩ = some (.int .i64 (U k).s) ∧ w'.cell? ⟨wr.heap.size, 8, none⟩ = some (.int .i64 (V k).k) ∧ w'.cell? ⟨wr.heap.size, 9, none⟩ = some (.slice (V k).a (V k).len (V k).cap) ∧ w'.cell? ⟨wr.heap.size, 10, none⟩ = some (.int .i64 (V k).n) ∧ w'.cell? ⟨wr.heap.size, 11, none⟩ = some (.int .i64 (V k).s) ∧ w'.cell? ⟨b, off + m * 12, none⟩ = some (.int .i64 (T m).k) ∧ w'.cell? ⟨b, off + m * 12 + 1, none⟩ = some (.slice (T m).a (T m).len (T m).cap) ∧ w'.cell? ⟨b, off + m * 12 + 2, none⟩ = some (.int .i64 (T m).n) ∧ w'.cell? ⟨b, off + m * 12 + 3, none⟩ = some (.int .i64 (T m).s) ∧ w'.cell? ⟨b, off + m * 12 + 4, none⟩ = some (.int .i64 (U m).k) ∧ w'.cell? ⟨b, off + m * 12 + 5, none⟩ = some (.slice (U m).a (U m).len (U m).cap) ∧ w'.cell? ⟨b, off + m * 12 + 6, none⟩ = some (.int .i64 (U m).n) ∧ w'.cell? ⟨b, off + m * 12 + 7, none⟩ = some (.int .i64 (U m).s) ∧ w'.cell? ⟨b, off + m * 12 + 8, none⟩ = some (.int .i64 (V m).k) ∧ w'.cell? ⟨b, off + m * 12 + 9, none⟩ = some (.slice (V m).a (V m).len (V m).cap) ∧ w'.cell? ⟨b, off + m * 12 + 10, none⟩ = some (.int .i64 (V m).n) ∧ w'.cell? ⟨b, off + m * 12 + 11, none⟩ = some (.int .i64 (V m).s)) (simp [*, go_sem])
              (first
                | (go_at_call 39; refine (O _ (bl_trans hb1 bl_drew0)).mono ?_; rintro e w2 ⟨rfl, hb2⟩; have hb3 := bl_trans bl_drew0 hb2; have hbox2 := (hb3.cell (p := ⟨w.heap.size, 0, none⟩) hsz1).trans hbox1; have hZ2 := hZ.below hb3; obtain ⟨_, ⟨x0, x1, x2, x3⟩, ⟨x4, x5, x6, x7⟩, ⟨x8, x9, xa, xb⟩⟩ := id hZ2; obtain ⟨⟨z0, z1, z2, z3⟩, ⟨z4, z5, z6, z7⟩, ⟨z8, z9, za, zb⟩⟩ := hz0.of_block (hb3.block b (Nat.lt_of_lt_of_le hlt hb1.size)))
                | (go_at_call 40; refine (Cm _ (bl_trans hb1 hb3)).mono ?_; rintro e w4 ⟨rfl, hb4⟩; have hb5 := bl_trans hb3 hb4; have hbox4 := (hb5.cell (p := ⟨w.heap.size, 0, none⟩) hsz1).trans hbox1; have hZ4 := hZ.below hb5; obtain ⟨_, ⟨x0, x1, x2, x3⟩, ⟨x4, x5, x6, x7⟩, ⟨x8, x9, xa, xb⟩⟩ := id hZ4; obtain ⟨⟨z0, z1, z2, z3⟩, ⟨z4, z5, z6, z7⟩, ⟨z8, z9, za, zb⟩⟩ := hz0.of_block (hb5.block b (Nat.lt_of_lt_of_le hlt hb1.size))))
            go_wp2
            go_roundw
            case rel =>
              refine ⟨k + 1, by omega, by go_num, bl_trans hb1 hb5, Nat.lt_of_lt_of_le hsz1 hb5.size, hbox4, fun j hj => ?_⟩
              by_cases e : j = k
              · subst e; exact HS.out
              · exact HH.out j (by omega)
            case measure => simp [intOf]; omega
          · have hcd : decide (0 ≤ c) = true := by simp; omega
            have HB : Hid (res = false) := by
              show _ = _
              rw [HR.out]
              refine graphOk_bad hlk ?_
              rw [HS.out]
              simpa using hc
            go_wp2_with fail
            change Code.wp _ _ _ _ (wr.alloc (.cells (cells12 (T k) (U k) (V k)) 41))
            have hZ := (Own12.at wr wr.heap.size (T k) (U k) (V k) 41 rfl).1
            have hb1 := bl_alloc hb (.cells (cells12 (T k) (U k) (V k)) 41)
            have hbox1 : (wr.alloc (.cells (cells12 (T k) (U k) (V k)) 41)).cell? ⟨w.heap.size, 0, none⟩ = some (.slice (some ⟨b, off, none⟩) n cap) := ((bl_a _).cell (p := ⟨w.heap.size, 0, none⟩) hsz).trans hbox
            have hsz1 : w.heap.size < (wr.alloc (.cells (cells12 (T k) (U k) (V k)) 41)).heap.size := Nat.lt_of_lt_of_le hsz (bl_a _).size
            generalize (wr.alloc (.cells (cells12 (T k) (U k) (V k)) 41)) = w1 at *
            clear x0 x1 x2 x3 x4 x5 x6 x7 x8 x9 xa xb
            obtain ⟨_, ⟨x0, x1, x2, x3⟩, ⟨x4, x5, x6, x7⟩, ⟨x8, x9, xa, xb⟩⟩ := id hZ
            have hz := hz0
            obtain ⟨⟨z0, z1, z2, z3⟩, ⟨z4, z5, z6, z7⟩, ⟨z8, z9, za, zb⟩⟩ := hz
            go_region_held3 (fun w' => w'.cell? ⟨w.heap.size, 0, none⟩ = some (.slice (some ⟨b, off, none⟩) n cap) ∧ w'.cell? ⟨wr.heap.size, 0, none⟩ = some (.int .i64 (T k).k) ∧ w'.cell? ⟨wr.heap.size, 1, none⟩ = some (.slice (T k).a (T k).len (T k).cap) ∧ w'.cell? ⟨wr.heap.size, 2, none⟩ = some (.int .i64 (T k).n) ∧ w'.cell? ⟨wr.heap.size, 3, none⟩ = some (.int .i64 (T k).s) ∧ w'.cell? ⟨wr.heap.size, 4, none⟩ = some (.int .i64 (U k).k) ∧ w'.cell? ⟨wr.heap.size, 5, none⟩ = some (.slice (U k).a (U k).len (U k).cap) ∧ w'.cell? ⟨wr.heap.size, 6, none⟩ = some (.int .i64 (U k).n) ∧ w'.cell? ⟨wr.heap.size, 7, none⟩ = some (.int .i64 (U k).s) ∧ w'.cell? ⟨wr.heap.size, 8, none⟩ = some (.int .i64 (V k).k) ∧ w'.cell? ⟨wr.heap.size, 9, none⟩ = some (.slice (V k).a (V k).len (V k).cap) ∧ w'.cell? ⟨wr.heap.size, 10, none⟩ = some (.int .i64 (V k).n) ∧ w'.cell? ⟨wr.heap.size, 11, none⟩ = some (.int .i64 (V k).s) ∧ w'.cell? ⟨b, off + m * 12, none⟩ = some (.int .i64 (T m).k) ∧ w'.cell? ⟨b, off + m * 12 + 1, none⟩ = some (.slice (T m).a (T m).len (T m).cap) ∧ w'.cell? ⟨b, off + m * 12 + 2, none⟩ = some (.int .i64 (T m).n) ∧ w'.cell? ⟨b, off + m * 12 + 3, none⟩ = some (.int .i64 (T m).s) ∧ w'.cell? ⟨b, off + m * 12 + 4, none⟩ = some (.int .i64 (U m).k) ∧ w'.cell? ⟨b, off + m * 12 + 5, none⟩ = some (.slice (U m).a (U m).len (U m).cap) ∧ w'.cell? ⟨b, off + m * 12 + 6, none⟩ = some (.int .i64 (U m).n) ∧ w'.cell? ⟨b, off + m * 12 + 7, none⟩ = some (.int .i64 (U m).s) ∧ w'.cell? ⟨b, off + m * 12 + 8, none⟩ = some (.int .i64 (V m).k) ∧ w'.cell? ⟨b, off + m * 12 + 9, none⟩ = some (.slice (V m).a (V m).len (V m).cap) ∧ w'.cell? ⟨b, off + m * 12 + 10, none⟩ = some (.int .i64 (V m).n) ∧ w'.cell? ⟨b, off + m * 12 + 11, none⟩ = some (.int .i64 (V m).s)) (simp [*, go_sem])
              (first
                | (go_at_call 39; refine (O _ (bl_trans hb1 bl_drew0)).mono ?_; rintro e w2 ⟨rfl, hb2⟩; have hb3 := bl_trans bl_drew0 hb2; have hbox2 := (hb3.cell (p := ⟨w.heap.size, 0, none⟩) hsz1).trans hbox1; have hZ2 := hZ.below hb3; obtain ⟨_, ⟨x0, x1, x2, x3⟩, ⟨x4, x5, x6, x7⟩, ⟨x8, x9, xa, xb⟩⟩ := id hZ2; obtain ⟨⟨z0, z1, z2, z3⟩, ⟨z4, z5, z6, z7⟩, ⟨z8, z9, za, zb⟩⟩ := hz0.of_block (hb3.block b (Nat.lt_of_lt_of_le hlt hb1.size)))
                | (go_at_call 40; refine (Cm _ (bl_trans hb1 hb3)).mono ?_; rintro e w4 ⟨rfl, hb4⟩; have hb5 := bl_trans hb3 hb4; have hbox4 := (hb5.cell (p := ⟨w.heap.size, 0, none⟩) hsz1).trans hbox1; have hZ4 := hZ.below hb5; obtain ⟨_, ⟨x0, x1, x2, x3⟩, ⟨x4, x5, x6, x7⟩, ⟨x8, x9, xa, xb⟩⟩ := id hZ4; obtain ⟨⟨z0, z1, z2, z3⟩, ⟨z4, z5, z6, z7⟩, ⟨z8, z9, za, zb⟩⟩ := hz0.of_block (hb5.block b (Nat.lt_of_lt_of_le hlt hb1.size))))
            go_wp2
            go_ret
            exact ⟨by rw [HB.out]; rfl, bl_trans hb1 hb5⟩
    · obtain rfl : k = n := by omega
      have HB : Hid (res = true) := by
        show _ = _
        rw [HR.out]
        exact graphOk_all (by omega) HH.out
      go_wp2
      go_ret
      exact ⟨by rw [HB.out]; rfl, hb⟩
end Go.Proofs.YtobnpfcgcoooeaaGreatDoor
