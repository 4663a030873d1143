/- Texts put together: GraH GtxD GdrH GdrI -/
import Derived.Test.YtoclingolfdfeaaGreatDoorMk09
import Derived.Test.YtoclingolfdfeaaGreatDoorMk08
import Derived.Test.YtoclingolfdfeaaGreatDoorMk15
import Derived.Test.YtoclingolfdfeaaGreatDoorMk18
/- GraH -/
namespace Go.Proofs.YtoclingolfdfeaaGreatDoor
open Go.RowKit Go.Deep

set_option maxRecDepth 20000 in
set_option maxHeartbeats 1000000 in
theorem implGraphOk_any (a : Option Addr) (n cap : Nat) (T U V : Nat → Tm) (bt bu bv : Nat → List Int) (w : World) (hn : n ≤ 1048576) (hf : AllFit n T U V) (hR : Rows w a n T U V) (h1 : Texts w n T bt) (h2 : Texts w n U bu) (h3 : Texts w n V bv) :
    Calls Tryz.prog 16 #[.agg #[.slice a n cap]] w fun e w' => e = .returned (.bool (graphOk n T U V bt bu bv)) ∧ Below w.heap.size w w' := by
  by_cases hbig : 60 < n
  · rw [graphOk_long hbig]
    clear hf hR h1 h2 h3
    go_enter Tryz.func16, Tryz.ntmps16
    go_wp2
    go_ret
    exact ⟨rfl, bl_a _⟩
  by_cases hn0 : n = 0
  · subst hn0
    rw [graphOk_all (by omega) (fun i hi => by omega)]
    clear hf hR h1 h2 h3
    go_enter Tryz.func16, Tryz.ntmps16
    go_wp2
    refine wp_loop_rounds 1 ?_
    rw [rounds_succ]
    go_wp2
    go_ret
    exact ⟨rfl, bl_a _⟩
  obtain ⟨b, off, rfl, hlt, hc⟩ := hR.resolve_left hn0
  have HC : Hid (∀ i, i < n → Row12 w b (off + i * 12) (T i) (U i) (V i)) := hc
  have H1 : Hid (Texts w n T bt) := h1
  have H2 : Hid (Texts w n U bu) := h2
  have H3 : Hid (Texts w n V bv) := h3
  have HF : Hid (AllFit n T U V) := hf
  clear hR hc h1 h2 h3 hf
  obtain ⟨res, HR⟩ : ∃ res, Hid (res = graphOk n T U V bt bu bv) := ⟨_, rfl⟩
  have er : graphOk n T U V bt bu bv = res := HR.out.symm
  rw [er]
  clear er
  go_enter Tryz.func16, Tryz.ntmps16
  go_wp2
  go_loopw [12] (fun i wr => ∃ k : Nat, k ≤ n ∧ i = .int .i64 k ∧ Below w.heap.size w wr ∧ w.heap.size < wr.heap.size ∧ wr.cell? ⟨w.heap.size, 0, none⟩ = some (.slice (some ⟨b, off, none⟩) n cap) ∧ Hid (∀ j, j < k → stepOk T U V bt bu bv j = true))
    (fun i _ => n - (intOf i).toNat)
  case atStart => exact ⟨0, Nat.zero_le _, rfl, bl_a _, by simp, by simp [go_sem], fun j hj => by omega⟩
  case round =>
    obtain ⟨k, hk, rfl, hb, hsz, hbox, HH⟩ := hrel
    by_cases hlk : k < n
    · have hx0 := (HC.out k hlk).of_block (hb.block b hlt)
      have O := fun (w' : World) (hq : Below w.heap.size w w') => implTripleOk_any (T k) (U k) (V k) (bt k) (bu k) (bv k) w' (HF.out k hlk).1 (HF.out k hlk).2.1 (HF.out k hlk).2.2 ((H1.out k hlk).below hq) ((H2.out k hlk).below hq) ((H3.out k hlk).below hq)
      cases ok : tripleOk (T k) (U k) (V k) (bt k) (bu k) (bv k)
      · have HB : Hid (res = false) := by
          show _ = _
          rw [HR.out]
          exact graphOk_bad hlk (by simp [stepOk, ok])
        simp only [ok] at O
        clear ok
        have hx := hx0
        obtain ⟨⟨x0, x1, x2, x3⟩, ⟨x4, x5, x6, x7⟩, ⟨x8, x9, xa, xb⟩⟩ := hx
        go_wp2_with fail
        change Code.wp _ _ _ _ (wr.alloc (.cells (cells12 (T k) (U k) (V k)) 36))
        have hZ := (Own12.at wr wr.heap.size (T k) (U k) (V k) 36 rfl).1
        have hb1 := bl_alloc hb (.cells (cells12 (T k) (U k) (V k)) 36)
        have hbox1 : (wr.alloc (.cells (cells12 (T k) (U k) (V k)) 36)).cell? ⟨w.heap.size, 0, none⟩ = some (.slice (some ⟨b, off, none⟩) n cap) := ((bl_a _).cell (p := ⟨w.heap.size, 0, none⟩) hsz).trans hbox
        have hsz1 : w.heap.size < (wr.alloc (.cells (cells12 (T k) (U k) (V k)) 36)).heap.size := Nat.lt_of_lt_of_le hsz (bl_a _).size
        generalize (wr.alloc (.cells (cells12 (T k) (U k) (V k)) 36)) = w1 at *
        clear x0 x1 x2 x3 x4 x5 x6 x7 x8 x9 xa xb
        obtain ⟨_, ⟨x0, x1, x2, x3⟩, ⟨x4, x5, x6, x7⟩, ⟨x8, x9, xa, xb⟩⟩ := id hZ
        refine wp_region_held_drew (S := (fun w' => w'.cell? ⟨w.heap.size, 0, none⟩ = some (.slice (some ⟨b, off, none⟩) n cap) ∧ w'.cell? ⟨wr.heap.size, 0, none⟩ = some (.int .i64 (T k).k) ∧ w'.cell? ⟨wr.heap.size, 1, none⟩ = some (.slice (T k).a (T k).len (T k).cap) ∧ w'.cell? ⟨wr.heap.size, 2, none⟩ = some (.int .i64 (T k).n) ∧ w'.cell? ⟨wr.heap.size, 3, none⟩ = some (.int .i64 (T k).s) ∧ w'.cell? ⟨wr.heap.size, 4, none⟩ = some (.int .i64 (U k).k) ∧ w'.cell? ⟨wr.heap.size, 5, none⟩ = some (.slice (U k).a (U k).len (U k).cap) ∧ w'.cell? ⟨wr.heap.size, 6, none⟩ = some (.int .i64 (U k).n) ∧ w'.cell? ⟨wr.heap.size, 7, none⟩ = some (.int .i64 (U k).s) ∧ w'.cell? ⟨wr.heap.size, 8, none⟩ = some (.int .i64 (V k).k) ∧ w'.cell? ⟨wr.heap.size, 9, none⟩ = some (.slice (V k).a (V k).len (V k).cap) ∧ w'.cell? ⟨wr.heap.size, 10, none⟩ = some (.int .i64 (V k).n) ∧ w'.cell? ⟨wr.heap.size, 11, none⟩ = some (.int .i64 (V k).s))) (by kernel_rfl) ?_ (fun hHeld => ?_)
        · simp [*, go_sem]
        refine take_at (i := 0) 17 (v := ?v501) rfl rfl (by kernel_rfl) (by kernel_rfl) (by kernel_rfl) (fun _ _ _ h => h) (Or.inl ⟨by rfl, ?y501⟩) (by assumption) ?r501
        case y501 => (intro w hSw; (try dsimp only at hSw); go_simp; (try with_reducible rfl))
        simp only [Act.put, List.setIfInBounds_toArray, List.set_cons_zero, List.set_cons_succ]
        refine wpAnyH_ready (rs := [1]) (by kernel_rfl) (by simp) ?_
        refine AllReadyH.cons rfl (fun K hK => ?_) AllReadyH.nil
        go_simp
        refine (O _ (bl_trans hb1 bl_drew0)).mono ?_
        rintro e w2 ⟨rfl, hb2⟩
        have hb3 := bl_trans bl_drew0 hb2
        have hbox2 := (hb3.cell (p := ⟨w.heap.size, 0, none⟩) hsz1).trans hbox1
        have hZ2 := hZ.below hb3
        obtain ⟨_, ⟨x0, x1, x2, x3⟩, ⟨x4, x5, x6, x7⟩, ⟨x8, x9, xa, xb⟩⟩ := id hZ2
        go_wp2_with fail
        refine hK.out _ _ ?_ (fun hHeld => ?_)
        · simp [*, go_sem]
        clear hK K
        refine take_at (i := 2) 19 (v := ?v502) rfl rfl (by kernel_rfl) (by kernel_rfl) (by kernel_rfl) (fun _ _ _ h => h) (Or.inl ⟨by rfl, ?y502⟩) (by assumption) ?r502
        case y502 => (intro w hSw; (try dsimp only at hSw); go_simp; (try with_reducible rfl))
        simp only [Act.put, List.setIfInBounds_toArray, List.set_cons_zero, List.set_cons_succ]
        refine take_at (i := 3) 20 (v := ?v503) rfl rfl (by kernel_rfl) (by kernel_rfl) (by kernel_rfl) (fun _ _ _ h => h) (Or.inl ⟨by rfl, ?y503⟩) (by assumption) ?r503
        case y503 => (intro w hSw; (try dsimp only at hSw); go_simp; (try with_reducible rfl))
        simp only [Act.put, List.setIfInBounds_toArray, List.set_cons_zero, List.set_cons_succ]
        refine take_at (i := 4) 21 (v := undef) rfl rfl (by kernel_rfl) (by kernel_rfl) (by kernel_rfl) (fun _ _ _ h => h) (Or.inr ⟨by rfl, rfl⟩) (by assumption) ?_
        simp only [Act.put, List.setIfInBounds_toArray, List.set_cons_zero, List.set_cons_succ]
        refine take_at (i := 5) 22 (v := undef) rfl rfl (by kernel_rfl) (by kernel_rfl) (by kernel_rfl) (fun _ _ _ h => h) (Or.inr ⟨by rfl, rfl⟩) (by assumption) ?_
        simp only [Act.put, List.setIfInBounds_toArray, List.set_cons_zero, List.set_cons_succ]
        refine take_at (i := 6) 23 (v := undef) rfl rfl (by kernel_rfl) (by kernel_rfl) (by kernel_rfl) (fun _ _ _ h => h) (Or.inr ⟨by rfl, rfl⟩) (by assumption) ?_
        simp only [Act.put, List.setIfInBounds_toArray, List.set_cons_zero, List.set_cons_succ]
        refine take_at (i := 7) 24 (v := undef) rfl rfl (by kernel_rfl) (by kernel_rfl) (by kernel_rfl) (fun _ _ _ h => h) (Or.inr ⟨by rfl, rfl⟩) (by assumption) ?_
        simp only [Act.put, List.setIfInBounds_toArray, List.set_cons_zero, List.set_cons_succ]
        refine take_at (i := 8) 25 (v := undef) rfl rfl (by kernel_rfl) (by kernel_rfl) (by kernel_rfl) (fun _ _ _ h => h) (Or.inr ⟨by rfl, rfl⟩) (by assumption) ?_
        simp only [Act.put, List.setIfInBounds_toArray, List.set_cons_zero, List.set_cons_succ]
        refine take_at (i := 9) 26 (v := undef) rfl rfl (by kernel_rfl) (by kernel_rfl) (by kernel_rfl) (fun _ _ _ h => h) (Or.inr ⟨by rfl, rfl⟩) (by assumption) ?_
        simp only [Act.put, List.setIfInBounds_toArray, List.set_cons_zero, List.set_cons_succ]
        refine take_at (i := 10) 27 (v := undef) rfl rfl (by kernel_rfl) (by kernel_rfl) (by kernel_rfl) (fun _ _ _ h => h) (Or.inr ⟨by rfl, rfl⟩) (by assumption) ?_
        simp only [Act.put, List.setIfInBounds_toArray, List.set_cons_zero, List.set_cons_succ]
        refine take_at (i := 11) 28 (v := undef) rfl rfl (by kernel_rfl) (by kernel_rfl) (by kernel_rfl) (fun _ _ _ h => h) (Or.inr ⟨by rfl, rfl⟩) (by assumption) ?_
        simp only [Act.put, List.setIfInBounds_toArray, List.set_cons_zero, List.set_cons_succ]
        refine take_at (i := 12) 29 (v := undef) rfl rfl (by kernel_rfl) (by kernel_rfl) (by kernel_rfl) (fun _ _ _ h => h) (Or.inr ⟨by rfl, rfl⟩) (by assumption) ?_
        simp only [Act.put, List.setIfInBounds_toArray, List.set_cons_zero, List.set_cons_succ]
        refine take_at (i := 13) 30 (v := undef) rfl rfl (by kernel_rfl) (by kernel_rfl) (by kernel_rfl) (fun _ _ _ h => h) (Or.inr ⟨by rfl, rfl⟩) (by assumption) ?_
        simp only [Act.put, List.setIfInBounds_toArray, List.set_cons_zero, List.set_cons_succ]
        refine take_at (i := 14) 31 (v := undef) rfl rfl (by kernel_rfl) (by kernel_rfl) (by kernel_rfl) (fun _ _ _ h => h) (Or.inr ⟨by rfl, rfl⟩) (by assumption) ?_
        simp only [Act.put, List.setIfInBounds_toArray, List.set_cons_zero, List.set_cons_succ]
        refine take_at (i := 15) 32 (v := undef) rfl rfl (by kernel_rfl) (by kernel_rfl) (by kernel_rfl) (fun _ _ _ h => h) (Or.inr ⟨by rfl, rfl⟩) (by assumption) ?_
        simp only [Act.put, List.setIfInBounds_toArray, List.set_cons_zero, List.set_cons_succ]
        refine take_at (i := 16) 33 (v := undef) rfl rfl (by kernel_rfl) (by kernel_rfl) (by kernel_rfl) (fun _ _ _ h => h) (Or.inr ⟨by rfl, rfl⟩) (by assumption) ?_
        simp only [Act.put, List.setIfInBounds_toArray, List.set_cons_zero, List.set_cons_succ]
        refine take_at (i := 17) 34 (v := ?v504) rfl rfl (by kernel_rfl) (by kernel_rfl) (by kernel_rfl) (fun _ _ _ h => h) (Or.inl ⟨by rfl, ?y504⟩) (by assumption) ?r504
        case y504 => (intro w hSw; (try dsimp only at hSw); go_simp; (try with_reducible rfl))
        simp only [Act.put, List.setIfInBounds_toArray, List.set_cons_zero, List.set_cons_succ]
        refine wpAnyH_done (by kernel_rfl) ?_ _
        go_wp2
        go_ret
        exact ⟨by rw [HB.out]; rfl, bl_trans hb1 hb3⟩
      · simp only [ok] at O
        rcases Nat.eq_zero_or_pos k with hk0 | hk0
        · subst hk0
          have HB : Hid (stepOk T U V bt bu bv 0 = true) := by
            show _ = _
            simp [stepOk, ok]
          have hx0 : Row12 wr b off (T 0) (U 0) (V 0) := by simpa using hx0
          have hx := hx0
          obtain ⟨⟨x0, x1, x2, x3⟩, ⟨x4, x5, x6, x7⟩, ⟨x8, x9, xa, xb⟩⟩ := hx
          go_wp2_with fail
          change Code.wp _ _ _ _ (wr.alloc (.cells (cells12 (T 0) (U 0) (V 0)) 36))
          have hZ := (Own12.at wr wr.heap.size (T 0) (U 0) (V 0) 36 rfl).1
          have hb1 := bl_alloc hb (.cells (cells12 (T 0) (U 0) (V 0)) 36)
          have hbox1 : (wr.alloc (.cells (cells12 (T 0) (U 0) (V 0)) 36)).cell? ⟨w.heap.size, 0, none⟩ = some (.slice (some ⟨b, off, none⟩) n cap) := ((bl_a _).cell (p := ⟨w.heap.size, 0, none⟩) hsz).trans hbox
          have hsz1 : w.heap.size < (wr.alloc (.cells (cells12 (T 0) (U 0) (V 0)) 36)).heap.size := Nat.lt_of_lt_of_le hsz (bl_a _).size
          generalize (wr.alloc (.cells (cells12 (T 0) (U 0) (V 0)) 36)) = w1 at *
          clear x0 x1 x2 x3 x4 x5 x6 x7 x8 x9 xa xb
          obtain ⟨_, ⟨x0, x1, x2, x3⟩, ⟨x4, x5, x6, x7⟩, ⟨x8, x9, xa, xb⟩⟩ := id hZ
          refine wp_region_held_drew (S := (fun w' => w'.cell? ⟨w.heap.size, 0, none⟩ = some (.slice (some ⟨b, off, none⟩) n cap) ∧ w'.cell? ⟨wr.heap.size, 0, none⟩ = some (.int .i64 (T 0).k) ∧ w'.cell? ⟨wr.heap.size, 1, none⟩ = some (.slice (T 0).a (T 0).len (T 0).cap) ∧ w'.cell? ⟨wr.heap.size, 2, none⟩ = some (.int .i64 (T 0).n) ∧ w'.cell? ⟨wr.heap.size, 3, none⟩ = some (.int .i64 (T 0).s) ∧ w'.cell? ⟨wr.heap.size, 4, none⟩ = some (.int .i64 (U 0).k) ∧ w'.cell? ⟨wr.heap.size, 5, none⟩ = some (.slice (U 0).a (U 0).len (U 0).cap) ∧ w'.cell? ⟨wr.heap.size, 6, none⟩ = some (.int .i64 (U 0).n) ∧ w'.cell? ⟨wr.heap.size, 7, none⟩ = some (.int .i64 (U 0).s) ∧ w'.cell? ⟨wr.heap.size, 8, none⟩ = some (.int .i64 (V 0).k) ∧ w'.cell? ⟨wr.heap.size, 9, none⟩ = some (.slice (V 0).a (V 0).len (V 0).cap) ∧ w'.cell? ⟨wr.heap.size, 10, none⟩ = some (.int .i64 (V 0).n) ∧ w'.cell? ⟨wr.heap.size, 11, none⟩ = some (.int .i64 (V 0).s))) (by kernel_rfl) ?_ (fun hHeld => ?_)
          · simp [*, go_sem]
          refine take_at (i := 0) 17 (v := ?v505) rfl rfl (by kernel_rfl) (by kernel_rfl) (by kernel_rfl) (fun _ _ _ h => h) (Or.inl ⟨by rfl, ?y505⟩) (by assumption) ?r505
          case y505 => (intro w hSw; (try dsimp only at hSw); go_simp; (try with_reducible rfl))
          simp only [Act.put, List.setIfInBounds_toArray, List.set_cons_zero, List.set_cons_succ]
          refine wpAnyH_ready (rs := [1]) (by kernel_rfl) (by simp) ?_
          refine AllReadyH.cons rfl (fun K hK => ?_) AllReadyH.nil
          go_simp
          refine (O _ (bl_trans hb1 bl_drew0)).mono ?_
          rintro e w2 ⟨rfl, hb2⟩
          have hb3 := bl_trans bl_drew0 hb2
          have hbox2 := (hb3.cell (p := ⟨w.heap.size, 0, none⟩) hsz1).trans hbox1
          have hZ2 := hZ.below hb3
          obtain ⟨_, ⟨x0, x1, x2, x3⟩, ⟨x4, x5, x6, x7⟩, ⟨x8, x9, xa, xb⟩⟩ := id hZ2
          go_wp2_with fail
          refine hK.out _ _ ?_ (fun hHeld => ?_)
          · simp [*, go_sem]
          clear hK K
          refine take_at (i := 2) 19 (v := ?v506) rfl rfl (by kernel_rfl) (by kernel_rfl) (by kernel_rfl) (fun _ _ _ h => h) (Or.inl ⟨by rfl, ?y506⟩) (by assumption) ?r506
          case y506 => (intro w hSw; (try dsimp only at hSw); go_simp; (try with_reducible rfl))
          simp only [Act.put, List.setIfInBounds_toArray, List.set_cons_zero, List.set_cons_succ]
          refine take_at (i := 3) 20 (v := ?v507) rfl rfl (by kernel_rfl) (by kernel_rfl) (by kernel_rfl) (fun _ _ _ h => h) (Or.inl ⟨by rfl, ?y507⟩) (by assumption) ?r507
          case y507 => (intro w hSw; (try dsimp only at hSw); go_simp; (try with_reducible rfl))
          simp only [Act.put, List.setIfInBounds_toArray, List.set_cons_zero, List.set_cons_succ]
          refine take_at (i := 4) 21 (v := ?v508) rfl rfl (by kernel_rfl) (by kernel_rfl) (by kernel_rfl) (fun _ _ _ h => h) (Or.inl ⟨by rfl, ?y508⟩) (by assumption) ?r508
          case y508 => (intro w hSw; (try dsimp only at hSw); go_simp; (try with_reducible rfl))
          simp only [Act.put, List.setIfInBounds_toArray, List.set_cons_zero, List.set_cons_succ]
          refine take_at (i := 5) 22 (v := ?v509) rfl rfl (by kernel_rfl) (by kernel_rfl) (by kernel_rfl) (fun _ _ _ h => h) (Or.inl ⟨by rfl, ?y509⟩) (by assumption) ?r509
          case y509 => (intro w hSw; (try dsimp only at hSw); go_simp; (try with_reducible rfl))
          simp only [Act.put, List.setIfInBounds_toArray, List.set_cons_zero, List.set_cons_succ]
          refine take_at (i := 6) 23 (v := ?v510) rfl rfl (by kernel_rfl) (by kernel_rfl) (by kernel_rfl) (fun _ _ _ h => h) (Or.inl ⟨by rfl, ?y510⟩) (by assumption) ?r510
          case y510 => (intro w hSw; (try dsimp only at hSw); go_simp; (try with_reducible rfl))
          simp only [Act.put, List.setIfInBounds_toArray, List.set_cons_zero, List.set_cons_succ]
          refine take_at (i := 7) 24 (v := undef) rfl rfl (by kernel_rfl) (by kernel_rfl) (by kernel_rfl) (fun _ _ _ h => h) (Or.inr ⟨by rfl, rfl⟩) (by assumption) ?_
          simp only [Act.put, List.setIfInBounds_toArray, List.set_cons_zero, List.set_cons_succ]
          refine take_at (i := 8) 25 (v := undef) rfl rfl (by kernel_rfl) (by kernel_rfl) (by kernel_rfl) (fun _ _ _ h => h) (Or.inr ⟨by rfl, rfl⟩) (by assumption) ?_
          simp only [Act.put, List.setIfInBounds_toArray, List.set_cons_zero, List.set_cons_succ]
          refine take_at (i := 9) 26 (v := undef) rfl rfl (by kernel_rfl) (by kernel_rfl) (by kernel_rfl) (fun _ _ _ h => h) (Or.inr ⟨by rfl, rfl⟩) (by assumption) ?_
          simp only [Act.put, List.setIfInBounds_toArray, List.set_cons_zero, List.set_cons_succ]
          refine take_at (i := 10) 27 (v := undef) rfl rfl (by kernel_rfl) (by kernel_rfl) (by kernel_rfl) (fun _ _ _ h => h) (Or.inr ⟨by rfl, rfl⟩) (by assumption) ?_
          simp only [Act.put, List.setIfInBounds_toArray, List.set_cons_zero, List.set_cons_succ]
          refine take_at (i := 11) 28 (v := undef) rfl rfl (by kernel_rfl) (by kernel_rfl) (by kernel_rfl) (fun _ _ _ h => h) (Or.inr ⟨by rfl, rfl⟩) (by assumption) ?_
          simp only [Act.put, List.setIfInBounds_toArray, List.set_cons_zero, List.set_cons_succ]
          refine take_at (i := 12) 29 (v := undef) rfl rfl (by kernel_rfl) (by kernel_rfl) (by kernel_rfl) (fun _ _ _ h => h) (Or.inr ⟨by rfl, rfl⟩) (by assumption) ?_
          simp only [Act.put, List.setIfInBounds_toArray, List.set_cons_zero, List.set_cons_succ]
          refine take_at (i := 13) 30 (v := undef) rfl rfl (by kernel_rfl) (by kernel_rfl) (by kernel_rfl) (fun _ _ _ h => h) (Or.inr ⟨by rfl, rfl⟩) (by assumption) ?_
          simp only [Act.put, List.setIfInBounds_toArray, List.set_cons_zero, List.set_cons_succ]
          refine take_at (i := 14) 31 (v := undef) rfl rfl (by kernel_rfl) (by kernel_rfl) (by kernel_rfl) (fun _ _ _ h => h) (Or.inr ⟨by rfl, rfl⟩) (by assumption) ?_
          simp only [Act.put, List.setIfInBounds_toArray, List.set_cons_zero, List.set_cons_succ]
          refine take_at (i := 15) 32 (v := undef) rfl rfl (by kernel_rfl) (by kernel_rfl) (by kernel_rfl) (fun _ _ _ h => h) (Or.inr ⟨by rfl, rfl⟩) (by assumption) ?_
          simp only [Act.put, List.setIfInBounds_toArray, List.set_cons_zero, List.set_cons_succ]
          refine take_at (i := 16) 33 (v := ?v511) rfl rfl (by kernel_rfl) (by kernel_rfl) (by kernel_rfl) (fun _ _ _ h => h) (Or.inl ⟨by rfl, ?y511⟩) (by assumption) ?r511
          case y511 => (intro w hSw; (try dsimp only at hSw); go_simp; (try with_reducible rfl))
          simp only [Act.put, List.setIfInBounds_toArray, List.set_cons_zero, List.set_cons_succ]
          refine take_at (i := 17) 34 (v := ?v512) rfl rfl (by kernel_rfl) (by kernel_rfl) (by kernel_rfl) (fun _ _ _ h => h) (Or.inl ⟨by rfl, ?y512⟩) (by assumption) ?r512
          case y512 => (intro w hSw; (try dsimp only at hSw); go_simp; (try with_reducible rfl))
          simp only [Act.put, List.setIfInBounds_toArray, List.set_cons_zero, List.set_cons_succ]
          refine wpAnyH_done (by kernel_rfl) ?_ _
          go_wp2
          go_roundw
          case rel =>
            refine ⟨1, by omega, by go_num, bl_trans hb1 hb3, Nat.lt_of_lt_of_le hsz1 hb3.size, hbox2, fun j hj => ?_⟩
            obtain rfl : j = 0 := by omega
            exact HB.out
          case measure => simp [intOf]; omega
        · obtain ⟨m, hm⟩ : ∃ m, k = m + 1 := ⟨k - 1, by omega⟩
          have hkm : (k : Int) - 1 = (m : Int) := by omega
          have hmn : (m : Int) < (n : Int) := by omega
          have hm0 : (0 : Int) ≤ (m : Int) := by omega
          have hkp : (0 : Int) < (k : Int) := by omega
          have hkk : k - 1 = m := by omega
          have hwm : IntKind.i64.wrap (m : Int) = (m : Int) := by rw [IntKind.wrap_i64]; omega
          have hwk : IntKind.i64.wrap ((k : Int) - 1) = (m : Int) := by rw [IntKind.wrap_i64]; omega
          have hz0 := ((HC.out m (by omega)).of_block (hb.block b hlt)).of_block ((bl_a (.cells (cells12 (T k) (U k) (V k)) 36)).block b (Nat.lt_of_lt_of_le hlt hb.size))
          have ok' := stepOk_first (HH.out m (by omega))
          have Cm := fun (w' : World) (hq : Below w.heap.size w w') => compareTriples_any (T m) (U m) (V m) (T k) (U k) (V k) (bt m) (bu m) (bv m) (bt k) (bu k) (bv k) w' (HF.out m (by omega)).1 (HF.out m (by omega)).2.1 (HF.out m (by omega)).2.2 (HF.out k hlk).1 (HF.out k hlk).2.1 (HF.out k hlk).2.2 ok' ok ((H1.out m (by omega)).below hq) ((H2.out m (by omega)).below hq) ((H3.out m (by omega)).below hq) ((H1.out k hlk).below hq) ((H2.out k hlk).below hq) ((H3.out k hlk).below hq)
          have HS : Hid (stepOk T U V bt bu bv k = decide (tcmp3 (T m) (U m) (V m) (T k) (U k) (V k) (bt m) (bu m) (bv m) (bt k) (bu k) (bv k) < 0)) := by
            show _ = _
            simp [stepOk, ok, hkk, show ¬ k = 0 by omega]
          generalize tcmp3 (T m) (U m) (V m) (T k) (U k) (V k) (bt m) (bu m) (bv m) (bt k) (bu k) (bv k) = c at *
          have hx := hx0
          obtain ⟨⟨x0, x1, x2, x3⟩, ⟨x4, x5, x6, x7⟩, ⟨x8, x9, xa, xb⟩⟩ := hx
          clear ok ok' hm hkk
          by_cases hc : c < 0
          · have hcd : decide (0 ≤ c) = false := by simp; omega
            have HS : Hid (stepOk T U V bt bu bv k = true) := by
              show _ = _
              rw [HS.out]
              simpa using hc
            go_wp2_with fail
            change Code.wp _ _ _ _ (wr.alloc (.cells (cells12 (T k) (U k) (V k)) 36))
            have hZ := (Own12.at wr wr.heap.size (T k) (U k) (V k) 36 rfl).1
            have hb1 := bl_alloc hb (.cells (cells12 (T k) (U k) (V k)) 36)
            have hbox1 : (wr.alloc (.cells (cells12 (T k) (U k) (V k)) 36)).cell? ⟨w.heap.size, 0, none⟩ = some (.slice (some ⟨b, off, none⟩) n cap) := ((bl_a _).cell (p := ⟨w.heap.size, 0, none⟩) hsz).trans hbox
            have hsz1 : w.heap.size < (wr.alloc (.cells (cells12 (T k) (U k) (V k)) 36)).heap.size := Nat.lt_of_lt_of_le hsz (bl_a _).size
            generalize (wr.alloc (.cells (cells12 (T k) (U k) (V k)) 36)) = w1 at *
            clear x0 x1 x2 x3 x4 x5 x6 x7 x8 x9 xa xb
            obtain ⟨_, ⟨x0, x1, x2, x3⟩, ⟨x4, x5, x6, x7⟩, ⟨x8, x9, xa, xb⟩⟩ := id hZ
            have hz := hz0
            obtain ⟨⟨z0, z1, z2, z3⟩, ⟨z4, z5, z6, z7⟩, ⟨z8, z9, za, zb⟩⟩ := hz
            go_region_held3 (fun w' => w'.cell? ⟨w.heap.size, 0, none⟩ = some (.slice (some ⟨b, off, none⟩) n cap) ∧ w'.cell? ⟨wr.heap.size, 0, none⟩ = some (.int .i64 (T k).k) ∧ w'.cell? ⟨wr.heap.size, 1, none⟩ = some (.slice (T k).a (T k).len (T k).cap) ∧ w'.cell? ⟨wr.heap.size, 2, none⟩ = some (.int .i64 (T k).n) ∧ w'.cell? ⟨wr.heap.size, 3, none⟩ = some (.int .i64 (T k).s) ∧ w'.cell? ⟨wr.heap.size, 4, none⟩ = some (.int .i64 (U k).k) ∧ w'.cell? ⟨wr.heap.size, 5, none⟩ = some (.slice (U k).a (U k).len (U k).cap) ∧ w'.cell? ⟨wr.heap.size, 6, none⟩ = some (.int .i64 (U k).n) ∧ w'.cell? ⟨wr.heap.size, 7, none⟩ = some (.int .i64 (U k).s) ∧ w'.cell? ⟨wr.heap.size, 8, none⟩ = some (.int .i64 (V k).k) ∧ w'.cell? ⟨wr.heap.size, 9, none⟩ = some (.slice (V k).a (V k).len (V k).cap) ∧ w'.cell? ⟨wr.heap.size, 10, none⟩ = some (.int .i64 (V k).n) ∧ w'.cell? ⟨wr.heap.size, 11, none⟩ = some (.int .i64 (V k).s) ∧ w'.cell? ⟨b, off + m * 12, none⟩ = some (.int .i64 (T m).k) ∧ w'.cell? ⟨b, off + m * 12 + 1, none⟩ = some (.slice (T m).a (T m).len (T m).cap) ∧ w'.cell? ⟨b, off + m * 12 + 2, none⟩ = some (.int .i64 (T m).n) ∧ w'.cell? ⟨b, off + m * 12 + 3, none⟩ = some (.int .i64 (T m).s) ∧ w'.cell? ⟨b, off + m * 12 + 4, none⟩ = some (.int .i64 (U m).k) ∧ w'.cell? ⟨b, off + m * 12 + 5, none⟩ = some (.slice (U m).a (U m).len (U m).cap) ∧ w'.cell? ⟨b, off + m * 12 + 6, none⟩ = some (.int .i64 (U m).n) ∧ w'.cell? ⟨b, off + m * 12 + 7, none⟩ = some (.int .i64 (U m).s) ∧ w'.cell? ⟨b, off + m * 12 + 8, none⟩ = some (.int .i64 (V m).k) ∧ w'.cell? ⟨b, off + m * 12 + 9, none⟩ = some (.slice (V m).a (V m).len (V m).cap) ∧ w'.cell? ⟨b, off + m * 12 + 10, none⟩ = some (.int .i64 (V m).n) ∧ w'.cell? ⟨b, off + m * 12 + 11, none⟩ = some (.int .i64 (V m).s)) (simp [*, go_sem])
              (first
                | (go_at_call 48; refine (O _ (bl_trans hb1 bl_drew0)).mono ?_; rintro e w2 ⟨rfl, hb2⟩; have hb3 := bl_trans bl_drew0 hb2; have hbox2 := (hb3.cell (p := ⟨w.heap.size, 0, none⟩) hsz1).trans hbox1; have hZ2 := hZ.below hb3; obtain ⟨_, ⟨x0, x1, x2, x3⟩, ⟨x4, x5, x6, x7⟩, ⟨x8, x9, xa, xb⟩⟩ := id hZ2; obtain ⟨⟨z0, z1, z2, z3⟩, ⟨z4, z5, z6, z7⟩, ⟨z8, z9, za, zb⟩⟩ := hz0.of_block (hb3.block b (Nat.lt_of_lt_of_le hlt hb1.size)))
                | (go_at_call 42; refine (Cm _ (bl_trans hb1 hb3)).mono ?_; rintro e w4 ⟨rfl, hb4⟩; have hb5 := bl_trans hb3 hb4; have hbox4 := (hb5.cell (p := ⟨w.heap.size, 0, none⟩) hsz1).trans hbox1; have hZ4 := hZ.below hb5; obtain ⟨_, ⟨x0, x1, x2, x3⟩, ⟨x4, x5, x6, x7⟩, ⟨x8, x9, xa, xb⟩⟩ := id hZ4; obtain ⟨⟨z0, z1, z2, z3⟩, ⟨z4, z5, z6, z7⟩, ⟨z8, z9, za, zb⟩⟩ := hz0.of_block (hb5.block b (Nat.lt_of_lt_of_le hlt hb1.size))))
            go_wp2
            go_roundw
            case rel =>
              refine ⟨k + 1, by omega, by go_num, bl_trans hb1 hb5, Nat.lt_of_lt_of_le hsz1 hb5.size, hbox4, fun j hj => ?_⟩
              by_cases e : j = k
              · subst e; exact HS.out
              · exact HH.out j (by omega)
            case measure => simp [intOf]; omega
          · have hcd : decide (0 ≤ c) = true := by simp; omega
            have HB : Hid (res = false) := by
              show _ = _
              rw [HR.out]
              refine graphOk_bad hlk ?_
              rw [HS.out]
              simpa using hc
            go_wp2_with fail
            change Code.wp _ _ _ _ (wr.alloc (.cells (cells12 (T k) (U k) (V k)) 36))
            have hZ := (Own12.at wr wr.heap.size (T k) (U k) (V k) 36 rfl).1
            have hb1 := bl_alloc hb (.cells (cells12 (T k) (U k) (V k)) 36)
            have hbox1 : (wr.alloc (.cells (cells12 (T k) (U k) (V k)) 36)).cell? ⟨w.heap.size, 0, none⟩ = some (.slice (some ⟨b, off, none⟩) n cap) := ((bl_a _).cell (p := ⟨w.heap.size, 0, none⟩) hsz).trans hbox
            have hsz1 : w.heap.size < (wr.alloc (.cells (cells12 (T k) (U k) (V k)) 36)).heap.size := Nat.lt_of_lt_of_le hsz (bl_a _).size
            generalize (wr.alloc (.cells (cells12 (T k) (U k) (V k)) 36)) = w1 at *
            clear x0 x1 x2 x3 x4 x5 x6 x7 x8 x9 xa xb
            obtain ⟨_, ⟨x0, x1, x2, x3⟩, ⟨x4, x5, x6, x7⟩, ⟨x8, x9, xa, xb⟩⟩ := id hZ
            have hz := hz0
            obtain ⟨⟨z0, z1, z2, z3⟩, ⟨z4, z5, z6, z7⟩, ⟨z8, z9, za, zb⟩⟩ := hz
            go_region_held3 (fun w' => w'.cell? ⟨w.heap.size, 0, none⟩ = some (.slice (some ⟨b, off, none⟩) n cap) ∧ w'.cell? ⟨wr.heap.size, 0, none⟩ = some (.int .i64 (T k).k) ∧ w'.cell? ⟨wr.heap.size, 1, none⟩ = some (.slice (T k).a (T k).len (T k).cap) ∧ w'.cell? ⟨wr.heap.size, 2, none⟩ = some (.int .i64 (T k).n) ∧ w'.cell? ⟨wr.heap.size, 3, none⟩ = some (.int .i64 (T k).s) ∧ w'.cell? ⟨wr.heap.size, 4, none⟩ = some (.int .i64 (U k).k) ∧ w'.cell? ⟨wr.heap.size, 5, none⟩ = some (.slice (U k).a (U k).len (U k).cap) ∧ w'.cell? ⟨wr.heap.size, 6, none⟩ = some (.int .i64 (U k).n) ∧ w'.cell? ⟨wr.heap.size, 7, none⟩ = some (.int .i64 (U k).s) ∧ w'.cell? ⟨wr.heap.size, 8, none⟩ = some (.int .i64 (V k).k) ∧ w'.cell? ⟨wr.heap.size, 9, none⟩ = some (.slice (V k).a (V k).len (V k).cap) ∧ w'.cell? ⟨wr.heap.size, 10, none⟩ = some (.int .i64 (V k).n) ∧ w'.cell? ⟨wr.heap.size, 11, none⟩ = some (.int .i64 (V k).s) ∧ w'.cell? ⟨b, off + m * 12, none⟩ = some (.int .i64 (T m).k) ∧ w'.cell? ⟨b, off + m * 12 + 1, none⟩ = some (.slice (T m).a (T m).len (T m).cap) ∧ w'.cell? ⟨b, off + m * 12 + 2, none⟩ = some (.int .i64 (T m).n) ∧ w'.cell? ⟨b, off + m * 12 + 3, none⟩ = some (.int .i64 (T m).s) ∧ w'.cell? ⟨b, off + m * 12 + 4, none⟩ = some (.int .i64 (U m).k) ∧ w'.cell? ⟨b, off + m * 12 + 5, none⟩ = some (.slice (U m).a (U m).len (U m).cap) ∧ w'.cell? ⟨b, off + m * 12 + 6, none⟩ = some (.int .i64 (U m).n) ∧ w'.cell? ⟨b, off + m * 12 + 7, none⟩ = some (.int .i64 (U m).s) ∧ w'.cell? ⟨b, off + m * 12 + 8, none⟩ = some (.int .i64 (V m).k) ∧ w'.cell? ⟨b, off + m * 12 + 9, none⟩ = some (.slice (V m).a (V m).len (V m).cap) ∧ w'.cell? ⟨b, off + m * 12 + 10, none⟩ = some (.int .i64 (V m).n) ∧ w'.cell? ⟨b, off + m * 12 + 11, none⟩ = some (.int .i64 (V m).s)) (simp [*, go_sem])
              (first
                | (go_at_call 48; refine (O _ (bl_trans hb1 bl_drew0)).mono ?_; rintro e w2 ⟨rfl, hb2⟩; have hb3 := bl_trans bl_drew0 hb2; have hbox2 := (hb3.cell (p := ⟨w.heap.size, 0, none⟩) hsz1).trans hbox1; have hZ2 := hZ.below hb3; obtain ⟨_, ⟨x0, x1, x2, x3⟩, ⟨x4, x5, x6, x7⟩, ⟨x8, x9, xa, xb⟩⟩ := id hZ2; obtain ⟨⟨z0, z1, z2, z3⟩, ⟨z4, z5, z6, z7⟩, ⟨z8, z9, za, zb⟩⟩ := hz0.of_block (hb3.block b (Nat.lt_of_lt_of_le hlt hb1.size)))
                | (go_at_call 42; refine (Cm _ (bl_trans hb1 hb3)).mono ?_; rintro e w4 ⟨rfl, hb4⟩; have hb5 := bl_trans hb3 hb4; have hbox4 := (hb5.cell (p := ⟨w.heap.size, 0, none⟩) hsz1).trans hbox1; have hZ4 := hZ.below hb5; obtain ⟨_, ⟨x0, x1, x2, x3⟩, ⟨x4, x5, x6, x7⟩, ⟨x8, x9, xa, xb⟩⟩ := id hZ4; obtain ⟨⟨z0, z1, z2, z3⟩, ⟨z4, z5, z6, z7⟩, ⟨z8, z9, za, zb⟩⟩ := hz0.of_block (hb5.block b (Nat.lt_of_lt_of_le hlt hb1.size))))
            go_wp2
            go_ret
            exact ⟨by rw [HB.out]; rfl, bl_trans hb1 hb5⟩
    · obtain rfl : k = n := by omega
      have HB : Hid (res = true) := by
        show _ = _
        rw [HR.out]
        exact graphOk_all (by omega) HH.out
      go_wp2
      go_ret
      exact ⟨by rw [HB.out]; rfl, hb⟩
end Go.Proofs.YtoclingolfdfeaaGreatDoor

/- GtxD -/
namespace Go.Proofs.YtoclingolfdfeaaGreatDoor
open Go.RowKit Go.Deep
set_option maxRecDepth 100000

/-- There lies a byte. -/
def U8 (w : World) (b j : Nat) : Prop := ∃ v, w.cell? ⟨b, j, none⟩ = some (.int .u8 v)
/-- Bytes stay bytes, and what may be written may be. -/
structure U8K (w w' : World) : Prop where
  u : ∀ b j, U8 w b j → U8 w' b j
  f : ∀ p, w'.frozen? p = w.frozen? p
theorem U8K.refl (w : World) : U8K w w := ⟨fun _ _ h => h, fun _ => rfl⟩
theorem U8K.trans {w w' w'' : World} (h : U8K w w') (k : U8K w' w'') : U8K w w'' := ⟨fun b j q => k.u b j (h.u b j q), fun p => (k.f p).trans (h.f p)⟩
theorem cell_set_other {w : World} {g i b j : Nat} {v : Value} (h : b ≠ g ∨ j ≠ i) : (w.setCell ⟨g, i, none⟩ v).cell? ⟨b, j, none⟩ = w.cell? ⟨b, j, none⟩ := by
  by_cases hb : b = g
  · subst hb
    exact set_other (h.resolve_left (fun k => k rfl))
  · exact World.cell?_of_block (Below.heap_setCell _ _ _ _ (by exact hb))

/-- What lies below B or from C on is as it was. -/
structure Mid (B C : Nat) (w w' : World) : Prop where
  os : w'.os = w.os
  tape : w'.tape = w.tape
  output : w'.output = w.output
  size : w'.heap.size = w.heap.size
  block : ∀ b, b < B ∨ C ≤ b → w'.heap[b]? = w.heap[b]?
theorem Mid.refl (B C : Nat) (w : World) : Mid B C w w := ⟨rfl, rfl, rfl, rfl, fun _ _ => rfl⟩
theorem Mid.but {B C g : Nat} {w w1 w2 : World} (h : Mid B C w w1) (k : But g w1 w2) (hB : B ≤ g) (hC : g < C) : Mid B C w w2 :=
  ⟨k.os.trans h.os, k.tape.trans h.tape, k.output.trans h.output, k.size.trans h.size, fun b hb => (k.block b (by omega)).trans (h.block b hb)⟩
theorem Mid.below {B C : Nat} {w w' : World} (h : Mid B C w w') : Below B w w' := ⟨h.os, h.tape, h.output, by rw [h.size]; exact Nat.le_refl _, fun b hb => h.block b (.inl hb)⟩

/-- A row of triples that may be marked. -/
structure Mk (w : World) (B C g n : Nat) (A1 A2 A3 l1 l2 l3 : Nat → Nat) : Prop where
  ex : Ex w g (n * 12)
  wr : Wr w g (n * 12)
  s1 : ∀ i, i < n → w.cell? ⟨g, i * 12 + 1, none⟩ = some (.slice (some ⟨A1 i, 0, none⟩) (l1 i) (l1 i))
  s2 : ∀ i, i < n → w.cell? ⟨g, i * 12 + 5, none⟩ = some (.slice (some ⟨A2 i, 0, none⟩) (l2 i) (l2 i))
  s3 : ∀ i, i < n → w.cell? ⟨g, i * 12 + 9, none⟩ = some (.slice (some ⟨A3 i, 0, none⟩) (l3 i) (l3 i))
  t1 : ∀ i, i < n → ∀ j, j < l1 i → U8 w (A1 i) j ∧ w.frozen? ⟨A1 i, j, none⟩ = false
  t2 : ∀ i, i < n → ∀ j, j < l2 i → U8 w (A2 i) j ∧ w.frozen? ⟨A2 i, j, none⟩ = false
  t3 : ∀ i, i < n → ∀ j, j < l3 i → U8 w (A3 i) j ∧ w.frozen? ⟨A3 i, j, none⟩ = false
  b1 : ∀ i, i < n → g < A1 i ∧ A1 i < C ∧ l1 i ≤ 1048576
  b2 : ∀ i, i < n → g < A2 i ∧ A2 i < C ∧ l2 i ≤ 1048576
  b3 : ∀ i, i < n → g < A3 i ∧ A3 i < C ∧ l3 i ≤ 1048576
  bg : B ≤ g ∧ g < C
theorem Mk.set {w : World} {B C g n i : Nat} {A1 A2 A3 l1 l2 l3 : Nat → Nat} (h : Mk w B C g n A1 A2 A3 l1 l2 l3) (v : Value) (hi : i % 4 ≠ 1) : Mk (w.setCell ⟨g, i, none⟩ v) B C g n A1 A2 A3 l1 l2 l3 := by
  refine ⟨h.ex.set, fun j hj => by rw [World.frozen?_setCell]; exact h.wr j hj, fun j hj => ?_, fun j hj => ?_, fun j hj => ?_, fun j hj q hq => ?_, fun j hj q hq => ?_, fun j hj q hq => ?_, h.b1, h.b2, h.b3, h.bg⟩
  · rw [cell_set_other (by omega)]; exact h.s1 j hj
  · rw [cell_set_other (by omega)]; exact h.s2 j hj
  · rw [cell_set_other (by omega)]; exact h.s3 j hj
  · unfold U8; rw [cell_set_other (by have := h.b1 j hj; omega), World.frozen?_setCell]; exact h.t1 j hj q hq
  · unfold U8; rw [cell_set_other (by have := h.b2 j hj; omega), World.frozen?_setCell]; exact h.t2 j hj q hq
  · unfold U8; rw [cell_set_other (by have := h.b3 j hj; omega), World.frozen?_setCell]; exact h.t3 j hj q hq
theorem Mid.set {B C g i : Nat} {w w1 : World} {v : Value} (h : Mid B C w w1) (hB : B ≤ g) (hC : g < C) : Mid B C w (w1.setCell ⟨g, i, none⟩ v) := h.but ((But.refl g w1).set i v) hB hC

end Go.Proofs.YtoclingolfdfeaaGreatDoor

/- GdrH -/
namespace Go.Proofs.YtoclingolfdfeaaGreatDoor
open Go.RowKit Go.Deep Go.Sort Go.Lib
set_option maxRecDepth 100000

theorem flatG_cons (x : G1) (r : List G1) : flatG (x :: r) = e12 x.t x.u x.v ++ flatG r := rfl
/-- The first triple's subject laid anew. -/
theorem ownG_setS {W : World} {B g n cap : Nat} {x : G1} {r : List G1} (h : OwnG W B (.slice (some ⟨g, 0, none⟩) n cap) (x :: r)) (t : Tm) (b : List Int) :
    OwnG ((((W.setCell ⟨g, 0, none⟩ (.int .i64 t.k)).setCell ⟨g, 1, none⟩ (.slice t.a t.len t.cap)).setCell ⟨g, 2, none⟩ (.int .i64 t.n)).setCell ⟨g, 3, none⟩ (.int .i64 t.s)) B (.slice (some ⟨g, 0, none⟩) n cap) (⟨t, x.u, x.v, b, x.bu, x.bv⟩ :: r) := by
  obtain ⟨cur, hh, hle, hmx, hcs, htk, hn, hB, hgl⟩ := ownG_cells h
  refine ownG_mk (heap_setG (heap_setG (heap_setG (heap_setG hh)))) hle hmx (by simpa using hcs) ?_ (by simpa using hn) hB (by simpa using hgl)
  simp only [Array.toList_setIfInBounds, List.take_set, htk, flatG_cons]
  rfl
/-- The first triple's property laid anew. -/
theorem ownG_setP {W : World} {B g n cap : Nat} {x : G1} {r : List G1} (h : OwnG W B (.slice (some ⟨g, 0, none⟩) n cap) (x :: r)) (t : Tm) (b : List Int) :
    OwnG ((((W.setCell ⟨g, 4, none⟩ (.int .i64 t.k)).setCell ⟨g, 5, none⟩ (.slice t.a t.len t.cap)).setCell ⟨g, 6, none⟩ (.int .i64 t.n)).setCell ⟨g, 7, none⟩ (.int .i64 t.s)) B (.slice (some ⟨g, 0, none⟩) n cap) (⟨x.t, t, x.v, x.bt, b, x.bv⟩ :: r) := by
  obtain ⟨cur, hh, hle, hmx, hcs, htk, hn, hB, hgl⟩ := ownG_cells h
  refine ownG_mk (heap_setG (heap_setG (heap_setG (heap_setG hh)))) hle hmx (by simpa using hcs) ?_ (by simpa using hn) hB (by simpa using hgl)
  simp only [Array.toList_setIfInBounds, List.take_set, htk, flatG_cons]
  rfl
end Go.Proofs.YtoclingolfdfeaaGreatDoor

/- GdrI -/
namespace Go.Proofs.YtoclingolfdfeaaGreatDoor
open Go.RowKit Go.Deep
set_option maxRecDepth 100000

/-- A triple, drawn or bent, whose texts lie from B on. -/
structure GY (w : World) (B : Nat) (y : G1) : Prop where
  t : DT w B w.heap.size y.t y.bt
  u : DT w B w.heap.size y.u y.bu
  v : DT w B w.heap.size y.v y.bv
theorem GX.y {w : World} {B : Nat} {y : G1} (h : GX w B y) : GY w B y := ⟨h.t, h.u, h.v⟩
theorem GY.past {w w' : World} {B c : Nat} {y : G1} (h : GY w B y) (hp : Past c w w') (hc : c < B) : GY w' B y :=
  ⟨(h.t.past hp (.inl hc)).mono (Nat.le_refl _) hp.size (Nat.le_refl _), (h.u.past hp (.inl hc)).mono (Nat.le_refl _) hp.size (Nat.le_refl _), (h.v.past hp (.inl hc)).mono (Nat.le_refl _) hp.size (Nat.le_refl _)⟩
theorem GY.below {w w' : World} {B : Nat} {y : G1} (h : GY w B y) (hb : Below w.heap.size w w') : GY w' B y :=
  ⟨(h.t.below hb).mono (Nat.le_refl _) hb.size (Nat.le_refl _), (h.u.below hb).mono (Nat.le_refl _) hb.size (Nat.le_refl _), (h.v.below hb).mono (Nat.le_refl _) hb.size (Nat.le_refl _)⟩
theorem GY.mono {w : World} {B B' : Nat} {y : G1} (h : GY w B y) (hB : B' ≤ B) : GY w B' y :=
  ⟨h.t.mono hB (Nat.le_refl _) (Nat.le_refl _), h.u.mono hB (Nat.le_refl _) (Nat.le_refl _), h.v.mono hB (Nat.le_refl _) (Nat.le_refl _)⟩
/-- What a draw of a bent graph answers. -/
def BentG (g : Nat) (a : Option Addr) (len cap : Nat) (w : World) (e : Ending) (w' : World) : Prop :=
  ∃ v l, e = .returned (.agg #[v]) ∧ OwnG w' w.heap.size v l ∧ l.length ≤ 61 ∧ (∀ y ∈ l, GY w' w.heap.size y) ∧ Past g w w' ∧ Cur w' g a len cap
theorem dt_pastNe {w w' : World} {B C c : Nat} {t : Tm} {b : List Int} (h : DT w B C t b) (hp : Past c w w') {x : Value} (hx : w.cell? ⟨c, 0, none⟩ = some x) (hne : ∀ n, x ≠ .int .u8 n) : DT w' B C t b := by
  obtain ⟨b1, b2, b3, b4⟩ := h.bs
  refine ⟨h.fit, h.len, ⟨b1, b2, b3, ?_⟩, h.at_, Nat.le_trans h.le hp.size⟩
  by_cases h0 : t.len = 0
  · exact .inl h0
  · obtain ⟨d, off, e, hl, hc⟩ := b4.resolve_left h0
    obtain ⟨g, ea, hB, hC⟩ := h.at_.resolve_left h0
    rw [ea] at e
    simp only [Option.some.injEq, Addr.mk.injEq] at e
    obtain ⟨e1, e2, _⟩ := e
    subst e1 e2
    have hgc : g ≠ c := by
      intro e
      subst e
      have h1 := hc 0 (by omega)
      rw [Nat.add_zero] at h1
      rw [hx] at h1
      exact hne _ (Option.some.inj h1)
    exact .inr ⟨g, 0, ea, Nat.lt_of_lt_of_le hl hp.size, fun i hi => (hp.cell (p := ⟨g, 0 + i, none⟩) hl hgc).trans (hc i hi)⟩
theorem GY.pastNe {w w' : World} {B c : Nat} {y : G1} (h : GY w B y) (hp : Past c w w') {x : Value} (hx : w.cell? ⟨c, 0, none⟩ = some x) (hne : ∀ n, x ≠ .int .u8 n) : GY w' B y :=
  ⟨(dt_pastNe h.t hp hx hne).mono (Nat.le_refl _) hp.size (Nat.le_refl _), (dt_pastNe h.u hp hx hne).mono (Nat.le_refl _) hp.size (Nat.le_refl _), (dt_pastNe h.v hp hx hne).mono (Nat.le_refl _) hp.size (Nat.le_refl _)⟩
theorem OwnG.pastNe {w w' : World} {B c : Nat} {v : Value} {l : List G1} (h : OwnG w B v l) (hp : Past c w w') (hne : v.ownBlock ≠ some c) : OwnG w' B v l := by
  obtain ⟨⟨h1, h2⟩, hl⟩ := h
  refine ⟨⟨h1, ?_⟩, fun c hc => ⟨(hl c hc).1, Nat.lt_of_lt_of_le (hl c hc).2 hp.size⟩⟩
  rcases h2 with h2 | ⟨g', cap', cur, hv, hB, hh, r⟩
  · exact .inl h2
  · refine .inr ⟨g', cap', cur, hv, hB, ?_, r⟩
    rw [hp.block g' (hl g' (by rw [hv]; rfl)).2 (fun e => hne (by rw [hv, ← e]; rfl))]
    exact hh
/-- A row that holds a triple lies in another block than a box of a slice. -/
theorem OwnG.ne_box {w : World} {B p : Nat} {v : Value} {x : G1} {r : List G1} (h : OwnG w B v (x :: r)) {b : Option Addr} {n c : Nat} (hp : w.cell? ⟨p, 0, none⟩ = some (.slice b n c)) : v.ownBlock ≠ some p := by
  intro e
  rcases h.form with ⟨_, h2⟩ | ⟨g, cap, hv, _, _, _, h3⟩
  · cases h2
  · have : g = p := by rw [hv] at e; simpa [Value.ownBlock] using e
    subst this
    have h1 := h3 0 (.int .i64 x.t.k) rfl
    rw [hp] at h1
    cases h1
/-- append of triples to a row of the call's own, within a region that draws its order. -/
theorem stepG {ops : Array Oper} {o : Oper} {a : Act} {K : Act → World → Prop} {Q : Exit → Act → World → Prop} {E : Prop} {w : World} (hgd : o.guard = none) (s x : Operand)
    (ho : o.op = .call { callee := .builtin .append, args := #[s, x], argTypes := #[28, 28] })
    (B : Nat) (v : Value) (us : List G1) (hs : a.eval s = v) (HO : Hid (OwnG w B v us))
    (ad : Addr) (m c : Nat) (bs : List G1) (hx : a.eval x = .slice (some ad) m c) (hl : bs.length = m) (HN : Hid (∀ j u, (flatG bs)[j]? = some u → w.cell? (ad.add j) = some u))
    (hm : 0 < m) (N : Nat) (hN : us.length + m = N) (zs : List G1) (hz : us ++ bs = zs) (hle : N ≤ 1000000000) (hB : B ≤ w.heap.size)
    (h : ∀ g cap w', Hid (OwnG w' B (.slice (some ⟨g, 0, none⟩) N cap) zs) → Hid (w.grownBy w' v.ownBlock) → K (a.put o.dst (.slice (some ⟨g, 0, none⟩) N cap)) w') :
    if Region.wanted o (yielded ops a.tmps) = true then Oper.wp Tryz.prog o a w K Q else E := by
  obtain ⟨i0, hi0, hzz⟩ := Option.map_eq_some_iff.1 Tryz.infoG36
  simp only [Prod.mk.injEq] at hzz
  obtain ⟨hi2, hi1, hi3⟩ := hzz
  subst hN hz
  refine step_append_lies _ hgd s x 28 ho B 36 i0 _ 12 144 Tryz.underlying28 hi0 hi2 hi1 hi3 rfl (by omega) v us.length (flatG us) hs HO.out.1 ad m c (flatG bs) hx (by rw [flatG_len, hl]) HN.out (flatG_one bs) hm (by unfold maxLen; omega) (by omega) hB _ rfl ?_
  intro g cap w' hown hgr hat hlt
  have hown' : w'.ownsRow B 36 12 (.slice (some ⟨g, 0, none⟩) (us.length + m) cap) (us ++ bs).length (flatG (us ++ bs)) := by
    rw [flatG_append, List.length_append, hl]
    exact hown
  refine h g cap w' ⟨hown', fun g' hg' => ?_⟩ hgr
  have : g = g' := by simpa [Value.ownBlock] using hg'
  subst this
  rcases hown.2 with ⟨hv, _⟩ | ⟨g0, c0, cur, hv, hb, _⟩
  · cases hv
  · cases hv; exact ⟨hb, hlt⟩
end Go.Proofs.YtoclingolfdfeaaGreatDoor
