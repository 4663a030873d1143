/- Texts put together: GraG DrwD GdrA -/
import Derived.Test.YtiodiooaaojbhaaGreatDoorNk07
import Derived.Test.YtiodiooaaojbhaaGreatDoorNk04
import Derived.Deep.RegionWith
import Derived.Test.YtiodiooaaojbhaaGreatDoorNk03
import Derived.Deep.RegionLaw
import Derived.Deep.RegionLawGrows
import Derived.Deep.RegionHeld3
/- GraG -/
namespace Go.Proofs.YtiodiooaaojbhaaGreatDoor
open Go.RowKit Go.Deep

/-- What is asked of the triple at place i. -/
def stepOk (T U V : Nat → Tm) (bt bu bv : Nat → List Int) (i : Nat) : Bool :=
  tripleOk (T i) (U i) (V i) (bt i) (bu i) (bv i) && (i == 0 || decide (tcmp3 (T (i - 1)) (U (i - 1)) (V (i - 1)) (T i) (U i) (V i) (bt (i - 1)) (bu (i - 1)) (bv (i - 1)) (bt i) (bu i) (bv i) < 0))
/-- A graph that may be. -/
def graphOk (n : Nat) (T U V : Nat → Tm) (bt bu bv : Nat → List Int) : Bool := decide (n ≤ 60) && (List.range n).all (stepOk T U V bt bu bv)
theorem graphOk_long {n : Nat} {T U V : Nat → Tm} {bt bu bv : Nat → List Int} (h : 60 < n) : graphOk n T U V bt bu bv = false := by
  have : ¬ n ≤ 60 := by omega
  simp [graphOk, this]
theorem graphOk_bad {n k : Nat} {T U V : Nat → Tm} {bt bu bv : Nat → List Int} (hk : k < n) (h : stepOk T U V bt bu bv k = false) : graphOk n T U V bt bu bv = false := by
  unfold graphOk
  rw [Bool.and_eq_false_iff]
  right
  rw [List.all_eq_false]
  exact ⟨k, List.mem_range.2 hk, by simp [h]⟩
theorem graphOk_all {n : Nat} {T U V : Nat → Tm} {bt bu bv : Nat → List Int} (hn : n ≤ 60) (h : ∀ i, i < n → stepOk T U V bt bu bv i = true) : graphOk n T U V bt bu bv = true := by
  unfold graphOk
  rw [Bool.and_eq_true, List.all_eq_true]
  exact ⟨by simpa using hn, fun i hi => h i (List.mem_range.1 hi)⟩
theorem stepOk_first {T U V : Nat → Tm} {bt bu bv : Nat → List Int} {i : Nat} (h : stepOk T U V bt bu bv i = true) : tripleOk (T i) (U i) (V i) (bt i) (bu i) (bv i) = true := by
  unfold stepOk at h
  rw [Bool.and_eq_true] at h
  exact h.1
/-- All are of 64 bits. -/
def AllFit (n : Nat) (T U V : Nat → Tm) : Prop := ∀ i, i < n → (T i).fits ∧ (U i).fits ∧ (V i).fits

set_option maxRecDepth 20000 in
set_option maxHeartbeats 1000000 in
theorem specGraphOk_any (a : Option Addr) (n cap : Nat) (T U V : Nat → Tm) (bt bu bv : Nat → List Int) (w : World) (hn : n ≤ 1048576) (hf : AllFit n T U V) (hR : Rows w a n T U V) (h1 : Texts w n T bt) (h2 : Texts w n U bu) (h3 : Texts w n V bv) :
    Calls Tryz.prog 20 #[.agg #[.slice a n cap]] w fun e w' => e = .returned (.bool (graphOk n T U V bt bu bv)) ∧ Below w.heap.size w w' := by
  by_cases hbig : 60 < n
  · rw [graphOk_long hbig]
    clear hf hR h1 h2 h3
    go_enter Tryz.func20, Tryz.ntmps20
    go_wp2
    go_ret
    exact ⟨rfl, bl_a _⟩
  by_cases hn0 : n = 0
  · subst hn0
    rw [graphOk_all (by omega) (fun i hi => by omega)]
    clear hf hR h1 h2 h3
    go_enter Tryz.func20, Tryz.ntmps20
    go_wp2
    refine wp_loop_rounds 1 ?_
    rw [rounds_succ]
    go_wp2
    go_ret
    exact ⟨rfl, bl_a _⟩
  obtain ⟨b, off, rfl, hlt, hc⟩ := hR.resolve_left hn0
  have HC : Hid (∀ i, i < n → Row12 w b (off + i * 12) (T i) (U i) (V i)) := hc
  have H1 : Hid (Texts w n T bt) := h1
  have H2 : Hid (Texts w n U bu) := h2
  have H3 : Hid (Texts w n V bv) := h3
  have HF : Hid (AllFit n T U V) := hf
  clear hR hc h1 h2 h3 hf
  obtain ⟨res, HR⟩ : ∃ res, Hid (res = graphOk n T U V bt bu bv) := ⟨_, rfl⟩
  have er : graphOk n T U V bt bu bv = res := HR.out.symm
  rw [er]
  clear er
  go_enter Tryz.func20, Tryz.ntmps20
  go_wp2
  go_loopw [3] (fun i wr => ∃ k : Nat, k ≤ n ∧ i = .int .i64 k ∧ Below w.heap.size w wr ∧ w.heap.size < wr.heap.size ∧ wr.cell? ⟨w.heap.size, 0, none⟩ = some (.slice (some ⟨b, off, none⟩) n cap) ∧ Hid (∀ j, j < k → stepOk T U V bt bu bv j = true))
    (fun i _ => n - (intOf i).toNat)
  case atStart => exact ⟨0, Nat.zero_le _, rfl, bl_a _, by simp, by simp [go_sem], fun j hj => by omega⟩
  case round =>
    obtain ⟨k, hk, rfl, hb, hsz, hbox, HH⟩ := hrel
    by_cases hlk : k < n
    · have hx0 := (HC.out k hlk).of_block (hb.block b hlt)
      have O := fun (w' : World) (hq : Below w.heap.size w w') => specTripleOk_any (T k) (U k) (V k) (bt k) (bu k) (bv k) w' (HF.out k hlk).1 (HF.out k hlk).2.1 (HF.out k hlk).2.2 ((H1.out k hlk).below hq) ((H2.out k hlk).below hq) ((H3.out k hlk).below hq)
      cases ok : tripleOk (T k) (U k) (V k) (bt k) (bu k) (bv k)
      · have HB : Hid (res = false) := by
          show _ = _
          rw [HR.out]
          exact graphOk_bad hlk (by simp [stepOk, ok])
        simp only [ok] at O
        clear ok
        have hx := hx0
        obtain ⟨⟨x0, x1, x2, x3⟩, ⟨x4, x5, x6, x7⟩, ⟨x8, x9, xa, xb⟩⟩ := hx
        go_wp2_with fail
        refine wp_region_held_drew (S := (fun w' => w'.cell? ⟨w.heap.size, 0, none⟩ = some (.slice (some ⟨b, off, none⟩) n cap) ∧ w'.cell? ⟨b, off + k * 12, none⟩ = some (.int .i64 (T k).k) ∧ w'.cell? ⟨b, off + k * 12 + 1, none⟩ = some (.slice (T k).a (T k).len (T k).cap) ∧ w'.cell? ⟨b, off + k * 12 + 2, none⟩ = some (.int .i64 (T k).n) ∧ w'.cell? ⟨b, off + k * 12 + 3, none⟩ = some (.int .i64 (T k).s) ∧ w'.cell? ⟨b, off + k * 12 + 4, none⟩ = some (.int .i64 (U k).k) ∧ w'.cell? ⟨b, off + k * 12 + 5, none⟩ = some (.slice (U k).a (U k).len (U k).cap) ∧ w'.cell? ⟨b, off + k * 12 + 6, none⟩ = some (.int .i64 (U k).n) ∧ w'.cell? ⟨b, off + k * 12 + 7, none⟩ = some (.int .i64 (U k).s) ∧ w'.cell? ⟨b, off + k * 12 + 8, none⟩ = some (.int .i64 (V k).k) ∧ w'.cell? ⟨b, off + k * 12 + 9, none⟩ = some (.slice (V k).a (V k).len (V k).cap) ∧ w'.cell? ⟨b, off + k * 12 + 10, none⟩ = some (.int .i64 (V k).n) ∧ w'.cell? ⟨b, off + k * 12 + 11, none⟩ = some (.int .i64 (V k).s))) (by kernel_rfl) ?_ (fun hHeld => ?_)
        · simp [*, go_sem]
        refine take_at (i := 0) 15 (v := ?v1) rfl rfl (by kernel_rfl) (by kernel_rfl) (by kernel_rfl) (fun _ _ _ h => h) (Or.inl ⟨by rfl, ?y1⟩) (by assumption) ?r1
        case y1 => (intro w hSw; (try dsimp only at hSw); go_simp; (try with_reducible rfl))
        simp only [Act.put, List.setIfInBounds_toArray, List.set_cons_zero, List.set_cons_succ]
        refine take_at (i := 1) 16 (v := ?v2) rfl rfl (by kernel_rfl) (by kernel_rfl) (by kernel_rfl) (fun _ _ _ h => h) (Or.inl ⟨by rfl, ?y2⟩) (by assumption) ?r2
        case y2 => (intro w hSw; (try dsimp only at hSw); go_simp; (try with_reducible rfl))
        simp only [Act.put, List.setIfInBounds_toArray, List.set_cons_zero, List.set_cons_succ]
        refine take_at (i := 2) 17 (v := ?v3) rfl rfl (by kernel_rfl) (by kernel_rfl) (by kernel_rfl) (fun _ _ _ h => h) (Or.inl ⟨by rfl, ?y3⟩) (by assumption) ?r3
        case y3 => (intro w hSw; (try dsimp only at hSw); go_simp; (try with_reducible rfl))
        simp only [Act.put, List.setIfInBounds_toArray, List.set_cons_zero, List.set_cons_succ]
        refine take_at (i := 3) 18 (v := ?v4) rfl rfl (by kernel_rfl) (by kernel_rfl) (by kernel_rfl) (fun _ _ _ h => h) (Or.inl ⟨by rfl, ?y4⟩) (by assumption) ?r4
        case y4 => (intro w hSw; (try dsimp only at hSw); go_simp; (try with_reducible rfl))
        simp only [Act.put, List.setIfInBounds_toArray, List.set_cons_zero, List.set_cons_succ]
        refine take_at (i := 4) 19 (v := ?v5) rfl rfl (by kernel_rfl) (by kernel_rfl) (by kernel_rfl) (fun _ _ _ h => h) (Or.inl ⟨by rfl, ?y5⟩) (by assumption) ?r5
        case y5 => (intro w hSw; (try dsimp only at hSw); go_simp; (try with_reducible rfl))
        simp only [Act.put, List.setIfInBounds_toArray, List.set_cons_zero, List.set_cons_succ]
        refine wpAnyH_ready (rs := [5]) (by kernel_rfl) (by simp) ?_
        refine AllReadyH.cons rfl (fun K hK => ?_) AllReadyH.nil
        go_simp
        refine (O _ (bl_trans hb bl_drew0)).mono ?_
        rintro e w2 ⟨rfl, hb2⟩
        have hb3 := bl_trans bl_drew0 hb2
        have hbox2 := (hb3.cell (p := ⟨w.heap.size, 0, none⟩) hsz).trans hbox
        obtain ⟨⟨x0, x1, x2, x3⟩, ⟨x4, x5, x6, x7⟩, ⟨x8, x9, xa, xb⟩⟩ := hx0.of_block (hb3.block b (Nat.lt_of_lt_of_le hlt hb.size))
        go_wp2_with fail
        refine hK.out _ _ ?_ (fun hHeld => ?_)
        · simp [*, go_sem]
        clear hK K
        refine take_at (i := 6) 21 (v := ?v6) rfl rfl (by kernel_rfl) (by kernel_rfl) (by kernel_rfl) (fun _ _ _ h => h) (Or.inl ⟨by rfl, ?y6⟩) (by assumption) ?r6
        case y6 => (intro w hSw; (try dsimp only at hSw); go_simp; (try with_reducible rfl))
        simp only [Act.put, List.setIfInBounds_toArray, List.set_cons_zero, List.set_cons_succ]
        refine take_at (i := 7) 22 (v := ?v7) rfl rfl (by kernel_rfl) (by kernel_rfl) (by kernel_rfl) (fun _ _ _ h => h) (Or.inl ⟨by rfl, ?y7⟩) (by assumption) ?r7
        case y7 => (intro w hSw; (try dsimp only at hSw); go_simp; (try with_reducible rfl))
        simp only [Act.put, List.setIfInBounds_toArray, List.set_cons_zero, List.set_cons_succ]
        refine take_at (i := 8) 23 (v := undef) rfl rfl (by kernel_rfl) (by kernel_rfl) (by kernel_rfl) (fun _ _ _ h => h) (Or.inr ⟨by rfl, rfl⟩) (by assumption) ?_
        simp only [Act.put, List.setIfInBounds_toArray, List.set_cons_zero, List.set_cons_succ]
        refine take_at (i := 9) 24 (v := undef) rfl rfl (by kernel_rfl) (by kernel_rfl) (by kernel_rfl) (fun _ _ _ h => h) (Or.inr ⟨by rfl, rfl⟩) (by assumption) ?_
        simp only [Act.put, List.setIfInBounds_toArray, List.set_cons_zero, List.set_cons_succ]
        refine take_at (i := 10) 25 (v := undef) rfl rfl (by kernel_rfl) (by kernel_rfl) (by kernel_rfl) (fun _ _ _ h => h) (Or.inr ⟨by rfl, rfl⟩) (by assumption) ?_
        simp only [Act.put, List.setIfInBounds_toArray, List.set_cons_zero, List.set_cons_succ]
        refine take_at (i := 11) 26 (v := undef) rfl rfl (by kernel_rfl) (by kernel_rfl) (by kernel_rfl) (fun _ _ _ h => h) (Or.inr ⟨by rfl, rfl⟩) (by assumption) ?_
        simp only [Act.put, List.setIfInBounds_toArray, List.set_cons_zero, List.set_cons_succ]
        refine take_at (i := 12) 27 (v := undef) rfl rfl (by kernel_rfl) (by kernel_rfl) (by kernel_rfl) (fun _ _ _ h => h) (Or.inr ⟨by rfl, rfl⟩) (by assumption) ?_
        simp only [Act.put, List.setIfInBounds_toArray, List.set_cons_zero, List.set_cons_succ]
        refine take_at (i := 13) 28 (v := undef) rfl rfl (by kernel_rfl) (by kernel_rfl) (by kernel_rfl) (fun _ _ _ h => h) (Or.inr ⟨by rfl, rfl⟩) (by assumption) ?_
        simp only [Act.put, List.setIfInBounds_toArray, List.set_cons_zero, List.set_cons_succ]
        refine take_at (i := 14) 29 (v := undef) rfl rfl (by kernel_rfl) (by kernel_rfl) (by kernel_rfl) (fun _ _ _ h => h) (Or.inr ⟨by rfl, rfl⟩) (by assumption) ?_
        simp only [Act.put, List.setIfInBounds_toArray, List.set_cons_zero, List.set_cons_succ]
        refine take_at (i := 15) 30 (v := undef) rfl rfl (by kernel_rfl) (by kernel_rfl) (by kernel_rfl) (fun _ _ _ h => h) (Or.inr ⟨by rfl, rfl⟩) (by assumption) ?_
        simp only [Act.put, List.setIfInBounds_toArray, List.set_cons_zero, List.set_cons_succ]
        refine take_at (i := 16) 31 (v := undef) rfl rfl (by kernel_rfl) (by kernel_rfl) (by kernel_rfl) (fun _ _ _ h => h) (Or.inr ⟨by rfl, rfl⟩) (by assumption) ?_
        simp only [Act.put, List.setIfInBounds_toArray, List.set_cons_zero, List.set_cons_succ]
        refine take_at (i := 17) 32 (v := undef) rfl rfl (by kernel_rfl) (by kernel_rfl) (by kernel_rfl) (fun _ _ _ h => h) (Or.inr ⟨by rfl, rfl⟩) (by assumption) ?_
        simp only [Act.put, List.setIfInBounds_toArray, List.set_cons_zero, List.set_cons_succ]
        refine take_at (i := 18) 33 (v := undef) rfl rfl (by kernel_rfl) (by kernel_rfl) (by kernel_rfl) (fun _ _ _ h => h) (Or.inr ⟨by rfl, rfl⟩) (by assumption) ?_
        simp only [Act.put, List.setIfInBounds_toArray, List.set_cons_zero, List.set_cons_succ]
        refine take_at (i := 19) 34 (v := undef) rfl rfl (by kernel_rfl) (by kernel_rfl) (by kernel_rfl) (fun _ _ _ h => h) (Or.inr ⟨by rfl, rfl⟩) (by assumption) ?_
        simp only [Act.put, List.setIfInBounds_toArray, List.set_cons_zero, List.set_cons_succ]
        refine take_at (i := 20) 35 (v := undef) rfl rfl (by kernel_rfl) (by kernel_rfl) (by kernel_rfl) (fun _ _ _ h => h) (Or.inr ⟨by rfl, rfl⟩) (by assumption) ?_
        simp only [Act.put, List.setIfInBounds_toArray, List.set_cons_zero, List.set_cons_succ]
        refine take_at (i := 21) 36 (v := undef) rfl rfl (by kernel_rfl) (by kernel_rfl) (by kernel_rfl) (fun _ _ _ h => h) (Or.inr ⟨by rfl, rfl⟩) (by assumption) ?_
        simp only [Act.put, List.setIfInBounds_toArray, List.set_cons_zero, List.set_cons_succ]
        refine take_at (i := 22) 37 (v := undef) rfl rfl (by kernel_rfl) (by kernel_rfl) (by kernel_rfl) (fun _ _ _ h => h) (Or.inr ⟨by rfl, rfl⟩) (by assumption) ?_
        simp only [Act.put, List.setIfInBounds_toArray, List.set_cons_zero, List.set_cons_succ]
        refine take_at (i := 23) 38 (v := undef) rfl rfl (by kernel_rfl) (by kernel_rfl) (by kernel_rfl) (fun _ _ _ h => h) (Or.inr ⟨by rfl, rfl⟩) (by assumption) ?_
        simp only [Act.put, List.setIfInBounds_toArray, List.set_cons_zero, List.set_cons_succ]
        refine take_at (i := 24) 39 (v := undef) rfl rfl (by kernel_rfl) (by kernel_rfl) (by kernel_rfl) (fun _ _ _ h => h) (Or.inr ⟨by rfl, rfl⟩) (by assumption) ?_
        simp only [Act.put, List.setIfInBounds_toArray, List.set_cons_zero, List.set_cons_succ]
        refine take_at (i := 25) 40 (v := ?v8) rfl rfl (by kernel_rfl) (by kernel_rfl) (by kernel_rfl) (fun _ _ _ h => h) (Or.inl ⟨by rfl, ?y8⟩) (by assumption) ?r8
        case y8 => (intro w hSw; (try dsimp only at hSw); go_simp; (try with_reducible rfl))
        simp only [Act.put, List.setIfInBounds_toArray, List.set_cons_zero, List.set_cons_succ]
        refine wpAnyH_done (by kernel_rfl) ?_ _
        go_wp2
        go_ret
        exact ⟨by rw [HB.out]; rfl, bl_trans hb hb3⟩
      · simp only [ok] at O
        rcases Nat.eq_zero_or_pos k with hk0 | hk0
        · subst hk0
          have HB : Hid (stepOk T U V bt bu bv 0 = true) := by
            show _ = _
            simp [stepOk, ok]
          have hx0 : Row12 wr b off (T 0) (U 0) (V 0) := by simpa using hx0
          have hx := hx0
          obtain ⟨⟨x0, x1, x2, x3⟩, ⟨x4, x5, x6, x7⟩, ⟨x8, x9, xa, xb⟩⟩ := hx
          go_wp2_with fail
          refine wp_region_held_drew (S := (fun w' => w'.cell? ⟨w.heap.size, 0, none⟩ = some (.slice (some ⟨b, off, none⟩) n cap) ∧ w'.cell? ⟨b, off, none⟩ = some (.int .i64 (T 0).k) ∧ w'.cell? ⟨b, off + 1, none⟩ = some (.slice (T 0).a (T 0).len (T 0).cap) ∧ w'.cell? ⟨b, off + 2, none⟩ = some (.int .i64 (T 0).n) ∧ w'.cell? ⟨b, off + 3, none⟩ = some (.int .i64 (T 0).s) ∧ w'.cell? ⟨b, off + 4, none⟩ = some (.int .i64 (U 0).k) ∧ w'.cell? ⟨b, off + 5, none⟩ = some (.slice (U 0).a (U 0).len (U 0).cap) ∧ w'.cell? ⟨b, off + 6, none⟩ = some (.int .i64 (U 0).n) ∧ w'.cell? ⟨b, off + 7, none⟩ = some (.int .i64 (U 0).s) ∧ w'.cell? ⟨b, off + 8, none⟩ = some (.int .i64 (V 0).k) ∧ w'.cell? ⟨b, off + 9, none⟩ = some (.slice (V 0).a (V 0).len (V 0).cap) ∧ w'.cell? ⟨b, off + 10, none⟩ = some (.int .i64 (V 0).n) ∧ w'.cell? ⟨b, off + 11, none⟩ = some (.int .i64 (V 0).s))) (by kernel_rfl) ?_ (fun hHeld => ?_)
          · simp [*, go_sem]
          refine take_at (i := 0) 15 (v := ?v9) rfl rfl (by kernel_rfl) (by kernel_rfl) (by kernel_rfl) (fun _ _ _ h => h) (Or.inl ⟨by rfl, ?y9⟩) (by assumption) ?r9
          case y9 => (intro w hSw; (try dsimp only at hSw); go_simp; (try with_reducible rfl))
          simp only [Act.put, List.setIfInBounds_toArray, List.set_cons_zero, List.set_cons_succ]
          refine take_at (i := 1) 16 (v := ?v10) rfl rfl (by kernel_rfl) (by kernel_rfl) (by kernel_rfl) (fun _ _ _ h => h) (Or.inl ⟨by rfl, ?y10⟩) (by assumption) ?r10
          case y10 => (intro w hSw; (try dsimp only at hSw); go_simp; (try with_reducible rfl))
          simp only [Act.put, List.setIfInBounds_toArray, List.set_cons_zero, List.set_cons_succ]
          refine take_at (i := 2) 17 (v := ?v11) rfl rfl (by kernel_rfl) (by kernel_rfl) (by kernel_rfl) (fun _ _ _ h => h) (Or.inl ⟨by rfl, ?y11⟩) (by assumption) ?r11
          case y11 => (intro w hSw; (try dsimp only at hSw); go_simp; (try with_reducible rfl))
          simp only [Act.put, List.setIfInBounds_toArray, List.set_cons_zero, List.set_cons_succ]
          refine take_at (i := 3) 18 (v := ?v12) rfl rfl (by kernel_rfl) (by kernel_rfl) (by kernel_rfl) (fun _ _ _ h => h) (Or.inl ⟨by rfl, ?y12⟩) (by assumption) ?r12
          case y12 => (intro w hSw; (try dsimp only at hSw); go_simp; (try with_reducible rfl))
          simp only [Act.put, List.setIfInBounds_toArray, List.set_cons_zero, List.set_cons_succ]
          refine take_at (i := 4) 19 (v := ?v13) rfl rfl (by kernel_rfl) (by kernel_rfl) (by kernel_rfl) (fun _ _ _ h => h) (Or.inl ⟨by rfl, ?y13⟩) (by assumption) ?r13
          case y13 => (intro w hSw; (try dsimp only at hSw); go_simp; (try with_reducible rfl))
          simp only [Act.put, List.setIfInBounds_toArray, List.set_cons_zero, List.set_cons_succ]
          refine wpAnyH_ready (rs := [5]) (by kernel_rfl) (by simp) ?_
          refine AllReadyH.cons rfl (fun K hK => ?_) AllReadyH.nil
          go_simp
          refine (O _ (bl_trans hb bl_drew0)).mono ?_
          rintro e w2 ⟨rfl, hb2⟩
          have hb3 := bl_trans bl_drew0 hb2
          have hbox2 := (hb3.cell (p := ⟨w.heap.size, 0, none⟩) hsz).trans hbox
          obtain ⟨⟨x0, x1, x2, x3⟩, ⟨x4, x5, x6, x7⟩, ⟨x8, x9, xa, xb⟩⟩ := hx0.of_block (hb3.block b (Nat.lt_of_lt_of_le hlt hb.size))
          go_wp2_with fail
          refine hK.out _ _ ?_ (fun hHeld => ?_)
          · simp [*, go_sem]
          clear hK K
          refine take_at (i := 6) 21 (v := ?v14) rfl rfl (by kernel_rfl) (by kernel_rfl) (by kernel_rfl) (fun _ _ _ h => h) (Or.inl ⟨by rfl, ?y14⟩) (by assumption) ?r14
          case y14 => (intro w hSw; (try dsimp only at hSw); go_simp; (try with_reducible rfl))
          simp only [Act.put, List.setIfInBounds_toArray, List.set_cons_zero, List.set_cons_succ]
          refine take_at (i := 7) 22 (v := ?v15) rfl rfl (by kernel_rfl) (by kernel_rfl) (by kernel_rfl) (fun _ _ _ h => h) (Or.inl ⟨by rfl, ?y15⟩) (by assumption) ?r15
          case y15 => (intro w hSw; (try dsimp only at hSw); go_simp; (try with_reducible rfl))
          simp only [Act.put, List.setIfInBounds_toArray, List.set_cons_zero, List.set_cons_succ]
          refine take_at (i := 8) 23 (v := ?v16) rfl rfl (by kernel_rfl) (by kernel_rfl) (by kernel_rfl) (fun _ _ _ h => h) (Or.inl ⟨by rfl, ?y16⟩) (by assumption) ?r16
          case y16 => (intro w hSw; (try dsimp only at hSw); go_simp; (try with_reducible rfl))
          simp only [Act.put, List.setIfInBounds_toArray, List.set_cons_zero, List.set_cons_succ]
          refine take_at (i := 9) 24 (v := ?v17) rfl rfl (by kernel_rfl) (by kernel_rfl) (by kernel_rfl) (fun _ _ _ h => h) (Or.inl ⟨by rfl, ?y17⟩) (by assumption) ?r17
          case y17 => (intro w hSw; (try dsimp only at hSw); go_simp; (try with_reducible rfl))
          simp only [Act.put, List.setIfInBounds_toArray, List.set_cons_zero, List.set_cons_succ]
          refine take_at (i := 10) 25 (v := ?v18) rfl rfl (by kernel_rfl) (by kernel_rfl) (by kernel_rfl) (fun _ _ _ h => h) (Or.inl ⟨by rfl, ?y18⟩) (by assumption) ?r18
          case y18 => (intro w hSw; (try dsimp only at hSw); go_simp; (try with_reducible rfl))
          simp only [Act.put, List.setIfInBounds_toArray, List.set_cons_zero, List.set_cons_succ]
          refine take_at (i := 11) 26 (v := undef) rfl rfl (by kernel_rfl) (by kernel_rfl) (by kernel_rfl) (fun _ _ _ h => h) (Or.inr ⟨by rfl, rfl⟩) (by assumption) ?_
          simp only [Act.put, List.setIfInBounds_toArray, List.set_cons_zero, List.set_cons_succ]
          refine take_at (i := 12) 27 (v := undef) rfl rfl (by kernel_rfl) (by kernel_rfl) (by kernel_rfl) (fun _ _ _ h => h) (Or.inr ⟨by rfl, rfl⟩) (by assumption) ?_
          simp only [Act.put, List.setIfInBounds_toArray, List.set_cons_zero, List.set_cons_succ]
          refine take_at (i := 13) 28 (v := undef) rfl rfl (by kernel_rfl) (by kernel_rfl) (by kernel_rfl) (fun _ _ _ h => h) (Or.inr ⟨by rfl, rfl⟩) (by assumption) ?_
          simp only [Act.put, List.setIfInBounds_toArray, List.set_cons_zero, List.set_cons_succ]
          refine take_at (i := 14) 29 (v := undef) rfl rfl (by kernel_rfl) (by kernel_rfl) (by kernel_rfl) (fun _ _ _ h => h) (Or.inr ⟨by rfl, rfl⟩) (by assumption) ?_
          simp only [Act.put, List.setIfInBounds_toArray, List.set_cons_zero, List.set_cons_succ]
          refine take_at (i := 15) 30 (v := undef) rfl rfl (by kernel_rfl) (by kernel_rfl) (by kernel_rfl) (fun _ _ _ h => h) (Or.inr ⟨by rfl, rfl⟩) (by assumption) ?_
          simp only [Act.put, List.setIfInBounds_toArray, List.set_cons_zero, List.set_cons_succ]
          refine take_at (i := 16) 31 (v := undef) rfl rfl (by kernel_rfl) (by kernel_rfl) (by kernel_rfl) (fun _ _ _ h => h) (Or.inr ⟨by rfl, rfl⟩) (by assumption) ?_
          simp only [Act.put, List.setIfInBounds_toArray, List.set_cons_zero, List.set_cons_succ]
          refine take_at (i := 17) 32 (v := undef) rfl rfl (by kernel_rfl) (by kernel_rfl) (by kernel_rfl) (fun _ _ _ h => h) (Or.inr ⟨by rfl, rfl⟩) (by assumption) ?_
          simp only [Act.put, List.setIfInBounds_toArray, List.set_cons_zero, List.set_cons_succ]
          refine take_at (i := 18) 33 (v := undef) rfl rfl (by kernel_rfl) (by kernel_rfl) (by kernel_rfl) (fun _ _ _ h => h) (Or.inr ⟨by rfl, rfl⟩) (by assumption) ?_
          simp only [Act.put, List.setIfInBounds_toArray, List.set_cons_zero, List.set_cons_succ]
          refine take_at (i := 19) 34 (v := undef) rfl rfl (by kernel_rfl) (by kernel_rfl) (by kernel_rfl) (fun _ _ _ h => h) (Or.inr ⟨by rfl, rfl⟩) (by assumption) ?_
          simp only [Act.put, List.setIfInBounds_toArray, List.set_cons_zero, List.set_cons_succ]
          refine take_at (i := 20) 35 (v := undef) rfl rfl (by kernel_rfl) (by kernel_rfl) (by kernel_rfl) (fun _ _ _ h => h) (Or.inr ⟨by rfl, rfl⟩) (by assumption) ?_
          simp only [Act.put, List.setIfInBounds_toArray, List.set_cons_zero, List.set_cons_succ]
          refine take_at (i := 21) 36 (v := undef) rfl rfl (by kernel_rfl) (by kernel_rfl) (by kernel_rfl) (fun _ _ _ h => h) (Or.inr ⟨by rfl, rfl⟩) (by assumption) ?_
          simp only [Act.put, List.setIfInBounds_toArray, List.set_cons_zero, List.set_cons_succ]
          refine take_at (i := 22) 37 (v := undef) rfl rfl (by kernel_rfl) (by kernel_rfl) (by kernel_rfl) (fun _ _ _ h => h) (Or.inr ⟨by rfl, rfl⟩) (by assumption) ?_
          simp only [Act.put, List.setIfInBounds_toArray, List.set_cons_zero, List.set_cons_succ]
          refine take_at (i := 23) 38 (v := undef) rfl rfl (by kernel_rfl) (by kernel_rfl) (by kernel_rfl) (fun _ _ _ h => h) (Or.inr ⟨by rfl, rfl⟩) (by assumption) ?_
          simp only [Act.put, List.setIfInBounds_toArray, List.set_cons_zero, List.set_cons_succ]
          refine take_at (i := 24) 39 (v := ?v19) rfl rfl (by kernel_rfl) (by kernel_rfl) (by kernel_rfl) (fun _ _ _ h => h) (Or.inl ⟨by rfl, ?y19⟩) (by assumption) ?r19
          case y19 => (intro w hSw; (try dsimp only at hSw); go_simp; (try with_reducible rfl))
          simp only [Act.put, List.setIfInBounds_toArray, List.set_cons_zero, List.set_cons_succ]
          refine take_at (i := 25) 40 (v := ?v20) rfl rfl (by kernel_rfl) (by kernel_rfl) (by kernel_rfl) (fun _ _ _ h => h) (Or.inl ⟨by rfl, ?y20⟩) (by assumption) ?r20
          case y20 => (intro w hSw; (try dsimp only at hSw); go_simp; (try with_reducible rfl))
          simp only [Act.put, List.setIfInBounds_toArray, List.set_cons_zero, List.set_cons_succ]
          refine wpAnyH_done (by kernel_rfl) ?_ _
          go_wp2
          go_roundw
          case rel =>
            refine ⟨1, by omega, by go_num, bl_trans hb hb3, Nat.lt_of_lt_of_le hsz hb3.size, hbox2, fun j hj => ?_⟩
            obtain rfl : j = 0 := by omega
            exact HB.out
          case measure => simp [intOf]; omega
        · obtain ⟨m, hm⟩ : ∃ m, k = m + 1 := ⟨k - 1, by omega⟩
          have hkm : (k : Int) - 1 = (m : Int) := by omega
          have hmn : (m : Int) < (n : Int) := by omega
          have hm0 : (0 : Int) ≤ (m : Int) := by omega
          have hkp : (0 : Int) < (k : Int) := by omega
          have hkk : k - 1 = m := by omega
          have hwm : IntKind.i64.wrap (m : Int) = (m : Int) := by rw [IntKind.wrap_i64]; omega
          have hwk : IntKind.i64.wrap ((k : Int) - 1) = (m : Int) := by rw [IntKind.wrap_i64]; omega
          have hz0 := (HC.out m (by omega)).of_block (hb.block b hlt)
          have ok' := stepOk_first (HH.out m (by omega))
          have Cm := fun (w' : World) (hq : Below w.heap.size w w') => l2compare_any (T m) (U m) (V m) (T k) (U k) (V k) (bt m) (bu m) (bv m) (bt k) (bu k) (bv k) w' (HF.out m (by omega)).1 (HF.out m (by omega)).2.1 (HF.out m (by omega)).2.2 (HF.out k hlk).1 (HF.out k hlk).2.1 (HF.out k hlk).2.2 ok' ok ((H1.out m (by omega)).below hq) ((H2.out m (by omega)).below hq) ((H3.out m (by omega)).below hq) ((H1.out k hlk).below hq) ((H2.out k hlk).below hq) ((H3.out k hlk).below hq)
          have HS : Hid (stepOk T U V bt bu bv k = decide (tcmp3 (T m) (U m) (V m) (T k) (U k) (V k) (bt m) (bu m) (bv m) (bt k) (bu k) (bv k) < 0)) := by
            show _ = _
            simp [stepOk, ok, hkk, show ¬ k = 0 by omega]
          generalize tcmp3 (T m) (U m) (V m) (T k) (U k) (V k) (bt m) (bu m) (bv m) (bt k) (bu k) (bv k) = c at *
          have hx := hx0
          have hz := hz0
          obtain ⟨⟨x0, x1, x2, x3⟩, ⟨x4, x5, x6, x7⟩, ⟨x8, x9, xa, xb⟩⟩ := hx
          obtain ⟨⟨z0, z1, z2, z3⟩, ⟨z4, z5, z6, z7⟩, ⟨z8, z9, za, zb⟩⟩ := hz
          clear ok ok' hm hkk
          by_cases hc : c < 0
          · have hcd : decide (0 ≤ c) = false := by simp; omega
            have HS : Hid (stepOk T U V bt bu bv k = true) := by
              show _ = _
              rw [HS.out]
              simpa using hc
            go_wp2_with fail
            go_region_held3 (fun w' => w'.cell? ⟨w.heap.size, 0, none⟩ = some (.slice (some ⟨b, off, none⟩) n cap) ∧ w'.cell? ⟨b, off + k * 12, none⟩ = some (.int .i64 (T k).k) ∧ w'.cell? ⟨b, off + k * 12 + 1, none⟩ = some (.slice (T k).a (T k).len (T k).cap) ∧ w'.cell? ⟨b, off + k * 12 + 2, none⟩ = some (.int .i64 (T k).n) ∧ w'.cell? ⟨b, off + k * 12 + 3, none⟩ = some (.int .i64 (T k).s) ∧ w'.cell? ⟨b, off + k * 12 + 4, none⟩ = some (.int .i64 (U k).k) ∧ w'.cell? ⟨b, off + k * 12 + 5, none⟩ = some (.slice (U k).a (U k).len (U k).cap) ∧ w'.cell? ⟨b, off + k * 12 + 6, none⟩ = some (.int .i64 (U k).n) ∧ w'.cell? ⟨b, off + k * 12 + 7, none⟩ = some (.int .i64 (U k).s) ∧ w'.cell? ⟨b, off + k * 12 + 8, none⟩ = some (.int .i64 (V k).k) ∧ w'.cell? ⟨b, off + k * 12 + 9, none⟩ = some (.slice (V k).a (V k).len (V k).cap) ∧ w'.cell? ⟨b, off + k * 12 + 10, none⟩ = some (.int .i64 (V k).n) ∧ w'.cell? ⟨b, off + k * 12 + 11, none⟩ = some (.int .i64 (V k).s) ∧ w'.cell? ⟨b, off + m * 12, none⟩ = some (.int .i64 (T m).k) ∧ w'.cell? ⟨b, off + m * 12 + 1, none⟩ = some (.slice (T m).a (T m).len (T m).cap) ∧ w'.cell? ⟨b, off + m * 12 + 2, none⟩ = some (.int .i64 (T m).n) ∧ w'.cell? ⟨b, off + m * 12 + 3, none⟩ = some (.int .i64 (T m).s) ∧ w'.cell? ⟨b, off + m * 12 + 4, none⟩ = some (.int .i64 (U m).k) ∧ w'.cell? ⟨b, off + m * 12 + 5, none⟩ = some (.slice (U m).a (U m).len (U m).cap) ∧ w'.cell? ⟨b, off + m * 12 + 6, none⟩ = some (.int .i64 (U m).n) ∧ w'.cell? ⟨b, off + m * 12 + 7, none⟩ = some (.int .i64 (U m).s) ∧ w'.cell? ⟨b, off + m * 12 + 8, none⟩ = some (.int .i64 (V m).k) ∧ w'.cell? ⟨b, off + m * 12 + 9, none⟩ = some (.slice (V m).a (V m).len (V m).cap) ∧ w'.cell? ⟨b, off + m * 12 + 10, none⟩ = some (.int .i64 (V m).n) ∧ w'.cell? ⟨b, off + m * 12 + 11, none⟩ = some (.int .i64 (V m).s)) (simp [*, go_sem])
              (first
                | (go_at_call 32; refine (O _ (bl_trans hb bl_drew0)).mono ?_; rintro e w2 ⟨rfl, hb2⟩; have hb3 := bl_trans bl_drew0 hb2; have hbox2 := (hb3.cell (p := ⟨w.heap.size, 0, none⟩) hsz).trans hbox; obtain ⟨⟨x0, x1, x2, x3⟩, ⟨x4, x5, x6, x7⟩, ⟨x8, x9, xa, xb⟩⟩ := hx0.of_block (hb3.block b (Nat.lt_of_lt_of_le hlt hb.size)); obtain ⟨⟨z0, z1, z2, z3⟩, ⟨z4, z5, z6, z7⟩, ⟨z8, z9, za, zb⟩⟩ := hz0.of_block (hb3.block b (Nat.lt_of_lt_of_le hlt hb.size)))
                | (go_at_call 33; refine (Cm _ (bl_trans hb hb3)).mono ?_; rintro e w4 ⟨rfl, hb4⟩; have hb5 := bl_trans hb3 hb4; have hbox4 := (hb5.cell (p := ⟨w.heap.size, 0, none⟩) hsz).trans hbox; obtain ⟨⟨x0, x1, x2, x3⟩, ⟨x4, x5, x6, x7⟩, ⟨x8, x9, xa, xb⟩⟩ := hx0.of_block (hb5.block b (Nat.lt_of_lt_of_le hlt hb.size)); obtain ⟨⟨z0, z1, z2, z3⟩, ⟨z4, z5, z6, z7⟩, ⟨z8, z9, za, zb⟩⟩ := hz0.of_block (hb5.block b (Nat.lt_of_lt_of_le hlt hb.size))))
            go_wp2
            go_roundw
            case rel =>
              refine ⟨k + 1, by omega, by go_num, bl_trans hb hb5, Nat.lt_of_lt_of_le hsz hb5.size, hbox4, fun j hj => ?_⟩
              by_cases e : j = k
              · subst e; exact HS.out
              · exact HH.out j (by omega)
            case measure => simp [intOf]; omega
          · have hcd : decide (0 ≤ c) = true := by simp; omega
            have HB : Hid (res = false) := by
              show _ = _
              rw [HR.out]
              refine graphOk_bad hlk ?_
              rw [HS.out]
              simpa using hc
            go_wp2_with fail
            go_region_held3 (fun w' => w'.cell? ⟨w.heap.size, 0, none⟩ = some (.slice (some ⟨b, off, none⟩) n cap) ∧ w'.cell? ⟨b, off + k * 12, none⟩ = some (.int .i64 (T k).k) ∧ w'.cell? ⟨b, off + k * 12 + 1, none⟩ = some (.slice (T k).a (T k).len (T k).cap) ∧ w'.cell? ⟨b, off + k * 12 + 2, none⟩ = some (.int .i64 (T k).n) ∧ w'.cell? ⟨b, off + k * 12 + 3, none⟩ = some (.int .i64 (T k).s) ∧ w'.cell? ⟨b, off + k * 12 + 4, none⟩ = some (.int .i64 (U k).k) ∧ w'.cell? ⟨b, off + k * 12 + 5, none⟩ = some (.slice (U k).a (U k).len (U k).cap) ∧ w'.cell? ⟨b, off + k * 12 + 6, none⟩ = some (.int .i64 (U k).n) ∧ w'.cell? ⟨b, off + k * 12 + 7, none⟩ = some (.int .i64 (U k).s) ∧ w'.cell? ⟨b, off + k * 12 + 8, none⟩ = some (.int .i64 (V k).k) ∧ w'.cell? ⟨b, off + k * 12 + 9, none⟩ = some (.slice (V k).a (V k).len (V k).cap) ∧ w'.cell? ⟨b, off + k * 12 + 10, none⟩ = some (.int .i64 (V k).n) ∧ w'.cell? ⟨b, off + k * 12 + 11, none⟩ = some (.int .i64 (V k).s) ∧ w'.cell? ⟨b, off + m * 12, none⟩ = some (.int .i64 (T m).k) ∧ w'.cell? ⟨b, off + m * 12 + 1, none⟩ = some (.slice (T m).a (T m).len (T m).cap) ∧ w'.cell? ⟨b, off + m * 12 + 2, none⟩ = some (.int .i64 (T m).n) ∧ w'.cell? ⟨b, off + m * 12 + 3, none⟩ = some (.int .i64 (T m).s) ∧ w'.cell? ⟨b, off + m * 12 + 4, none⟩ = some (.int .i64 (U m).k) ∧ w'.cell? ⟨b, off + m * 12 + 5, none⟩ = some (.slice (U m).a (U m).len (U m).cap) ∧ w'.cell? ⟨b, off + m * 12 + 6, none⟩ = some (.int .i64 (U m).n) ∧ w'.cell? ⟨b, off + m * 12 + 7, none⟩ = some (.int .i64 (U m).s) ∧ w'.cell? ⟨b, off + m * 12 + 8, none⟩ = some (.int .i64 (V m).k) ∧ w'.cell? ⟨b, off + m * 12 + 9, none⟩ = some (.slice (V m).a (V m).len (V m).cap) ∧ w'.cell? ⟨b, off + m * 12 + 10, none⟩ = some (.int .i64 (V m).n) ∧ w'.cell? ⟨b, off + m * 12 + 11, none⟩ = some (.int .i64 (V m).s)) (simp [*, go_sem])
              (first
                | (go_at_call 32; refine (O _ (bl_trans hb bl_drew0)).mono ?_; rintro e w2 ⟨rfl, hb2⟩; have hb3 := bl_trans bl_drew0 hb2; have hbox2 := (hb3.cell (p := ⟨w.heap.size, 0, none⟩) hsz).trans hbox; obtain ⟨⟨x0, x1, x2, x3⟩, ⟨x4, x5, x6, x7⟩, ⟨x8, x9, xa, xb⟩⟩ := hx0.of_block (hb3.block b (Nat.lt_of_lt_of_le hlt hb.size)); obtain ⟨⟨z0, z1, z2, z3⟩, ⟨z4, z5, z6, z7⟩, ⟨z8, z9, za, zb⟩⟩ := hz0.of_block (hb3.block b (Nat.lt_of_lt_of_le hlt hb.size)))
                | (go_at_call 33; refine (Cm _ (bl_trans hb hb3)).mono ?_; rintro e w4 ⟨rfl, hb4⟩; have hb5 := bl_trans hb3 hb4; have hbox4 := (hb5.cell (p := ⟨w.heap.size, 0, none⟩) hsz).trans hbox; obtain ⟨⟨x0, x1, x2, x3⟩, ⟨x4, x5, x6, x7⟩, ⟨x8, x9, xa, xb⟩⟩ := hx0.of_block (hb5.block b (Nat.lt_of_lt_of_le hlt hb.size)); obtain ⟨⟨z0, z1, z2, z3⟩, ⟨z4, z5, z6, z7⟩, ⟨z8, z9, za, zb⟩⟩ := hz0.of_block (hb5.block b (Nat.lt_of_lt_of_le hlt hb.size))))
            go_wp2
            go_ret
            exact ⟨by rw [HB.out]; rfl, bl_trans hb hb5⟩
    · obtain rfl : k = n := by omega
      have HB : Hid (res = true) := by
        show _ = _
        rw [HR.out]
        exact graphOk_all (by omega) HH.out
      go_wp2
      go_ret
      exact ⟨by rw [HB.out]; rfl, hb⟩
end Go.Proofs.YtiodiooaaojbhaaGreatDoor

/- DrwD -/
namespace Go.Proofs.YtiodiooaaojbhaaGreatDoor
open Go.RowKit Go.Deep

/-- A text that is none, or lies in a block of its own from B on. -/
def BTx (w : World) (B : Nat) (a : Option Addr) (len : Nat) (bs : List Int) : Prop := Bs w a len bs ∧ (len = 0 ∨ ∃ g, a = some ⟨g, 0, none⟩ ∧ B ≤ g ∧ g < w.heap.size)
theorem Tx.b {w : World} {B : Nat} {a : Option Addr} {len cap : Nat} {bs : List Int} (h : Tx w B a len cap bs) : BTx w B a len bs := by
  refine ⟨h.1, ?_⟩
  rcases h.2 with ⟨_, h2, _⟩ | ⟨g, ha, hB, hg, _⟩
  · exact .inl h2
  · exact .inr ⟨g, ha, hB, hg⟩
theorem BTx.below {w w' : World} {B : Nat} {a : Option Addr} {len : Nat} {bs : List Int} (h : BTx w B a len bs) (hb : Below w.heap.size w w') : BTx w' B a len bs := by
  refine ⟨h.1.below hb, ?_⟩
  rcases h.2 with h2 | ⟨g, ha, hB, hg⟩
  · exact .inl h2
  · exact .inr ⟨g, ha, hB, Nat.lt_of_lt_of_le hg hb.size⟩
theorem BTx.past' {w w' : World} {B c : Nat} {a : Option Addr} {len : Nat} {bs : List Int} (h : BTx w B a len bs) (hb : Past c w w') (hn : ∀ g, a = some ⟨g, 0, none⟩ → len ≠ 0 → g ≠ c) : BTx w' B a len bs := by
  obtain ⟨⟨l1, l2, l3, l4⟩, h2⟩ := h
  by_cases h0 : len = 0
  · exact ⟨⟨l1, l2, l3, .inl h0⟩, .inl h0⟩
  · obtain ⟨g, rfl, hB, hg⟩ := h2.resolve_left h0
    obtain ⟨b, off, ha, hlt, hcc⟩ := l4.resolve_left h0
    cases ha
    have hne := hn g rfl h0
    exact ⟨⟨l1, l2, l3, .inr ⟨g, 0, rfl, Nat.lt_of_lt_of_le hg hb.size, fun i hi => (hb.cell (p := ⟨g, 0 + i, none⟩) hg hne).trans (hcc i hi)⟩⟩, .inr ⟨g, rfl, hB, Nat.lt_of_lt_of_le hg hb.size⟩⟩
theorem BTx.past {w w' : World} {B c : Nat} {a : Option Addr} {len : Nat} {bs : List Int} (h : BTx w B a len bs) (hb : Past c w w') (hc : c < B) : BTx w' B a len bs := by
  refine h.past' hb fun g ha h0 => ?_
  obtain ⟨g', ha', hB, _⟩ := h.2.resolve_left h0
  rw [ha] at ha'
  cases ha'
  omega
theorem BTx.mono {w : World} {B B' : Nat} {a : Option Addr} {len : Nat} {bs : List Int} (h : BTx w B a len bs) (hB : B' ≤ B) : BTx w B' a len bs := by
  refine ⟨h.1, ?_⟩
  rcases h.2 with h2 | ⟨g, ha, hg, hr⟩
  · exact .inl h2
  · exact .inr ⟨g, ha, Nat.le_trans hB hg, hr⟩

/-- A row of n bytes that may be written. -/
def Ok8 (w : World) (b n : Nat) : Prop := ∀ j, j < n → (∃ v, w.cell? ⟨b, j, none⟩ = some (.int .u8 v)) ∧ w.frozen? ⟨b, j, none⟩ = false
theorem Ok8.past {w w' : World} {b n c : Nat} (h : Ok8 w b n) (hb : Past c w w') (hn : c ≠ b) : Ok8 w' b n := fun j hj => by
  obtain ⟨⟨v, hv⟩, hf⟩ := h j hj
  have hl : b < w.heap.size := by
    apply Classical.byContradiction
    intro hn
    have e : w.heap[b]? = none := by simp; omega
    simp [World.cell?, e] at hv
  exact ⟨⟨v, (hb.cell (p := ⟨b, j, none⟩) hl (Ne.symm hn)).trans hv⟩, (hb.frozen (p := ⟨b, j, none⟩) hl (Ne.symm hn)).trans hf⟩
theorem Ok8.set {w : World} {b n : Nat} (h : Ok8 w b n) (i : Nat) (x : Int) : Ok8 (w.setCell ⟨b, i, none⟩ (.int .u8 x)) b n := fun j hj => by
  obtain ⟨⟨v, hv⟩, hf⟩ := h j hj
  refine ⟨?_, by rw [World.frozen?_setCell]; exact hf⟩
  by_cases e : j = i
  · subst e; exact ⟨x, set_same hv⟩
  · exact ⟨v, by rw [set_other e]; exact hv⟩
theorem past_other {g c : Nat} {w w5 w6 : World} (h : Past g w w5) (hq : Past c w5 w6) (hc : w.heap.size ≤ c) : Past g w w6 :=
  ⟨hq.os.trans h.os, hq.tape.trans h.tape, hq.output.trans h.output, Nat.le_trans h.size hq.size, fun b hb hn => (hq.block b (Nat.lt_of_lt_of_le hb h.size) (by omega)).trans (h.block b hb hn)⟩
end Go.Proofs.YtiodiooaaojbhaaGreatDoor

/- GdrA -/
namespace Go.Proofs.YtiodiooaaojbhaaGreatDoor
open Go.RowKit Go.Deep
set_option maxRecDepth 100000

/-- The cells of a triple. -/
def e12 (t u v : Tm) : List Value := [.int .i64 t.k, .slice t.a t.len t.cap, .int .i64 t.n, .int .i64 t.s, .int .i64 u.k, .slice u.a u.len u.cap, .int .i64 u.n, .int .i64 u.s, .int .i64 v.k, .slice v.a v.len v.cap, .int .i64 v.n, .int .i64 v.s]
/-- A triple in a block of its own, which may be written. -/
structure B12 (w : World) (b : Nat) (t u v : Tm) : Prop where
  lt : b < w.heap.size
  c : ∀ j x, (e12 t u v)[j]? = some x → w.cell? ⟨b, j, none⟩ = some x
  f : ∀ j, j < 12 → w.frozen? ⟨b, j, none⟩ = false
theorem B12.cells {w : World} {b : Nat} {t u v : Tm} (h : B12 w b t u v) :
    (w.cell? ⟨b, 0, none⟩ = some (.int .i64 t.k) ∧ w.cell? ⟨b, 1, none⟩ = some (.slice t.a t.len t.cap) ∧ w.cell? ⟨b, 2, none⟩ = some (.int .i64 t.n) ∧ w.cell? ⟨b, 3, none⟩ = some (.int .i64 t.s)) ∧
    (w.cell? ⟨b, 4, none⟩ = some (.int .i64 u.k) ∧ w.cell? ⟨b, 5, none⟩ = some (.slice u.a u.len u.cap) ∧ w.cell? ⟨b, 6, none⟩ = some (.int .i64 u.n) ∧ w.cell? ⟨b, 7, none⟩ = some (.int .i64 u.s)) ∧
    (w.cell? ⟨b, 8, none⟩ = some (.int .i64 v.k) ∧ w.cell? ⟨b, 9, none⟩ = some (.slice v.a v.len v.cap) ∧ w.cell? ⟨b, 10, none⟩ = some (.int .i64 v.n) ∧ w.cell? ⟨b, 11, none⟩ = some (.int .i64 v.s)) :=
  ⟨⟨h.c 0 _ rfl, h.c 1 _ rfl, h.c 2 _ rfl, h.c 3 _ rfl⟩, ⟨h.c 4 _ rfl, h.c 5 _ rfl, h.c 6 _ rfl, h.c 7 _ rfl⟩, ⟨h.c 8 _ rfl, h.c 9 _ rfl, h.c 10 _ rfl, h.c 11 _ rfl⟩⟩
theorem B12.past {w w' : World} {g b : Nat} {t u v : Tm} (h : B12 w b t u v) (hb : Past g w w') (hn : b ≠ g) : B12 w' b t u v :=
  ⟨Nat.lt_of_lt_of_le h.lt hb.size, fun j x hx => (hb.cell (p := ⟨b, j, none⟩) h.lt hn).trans (h.c j x hx), fun j hj => (hb.frozen (p := ⟨b, j, none⟩) h.lt hn).trans (h.f j hj)⟩
theorem B12.below {w w' : World} {b : Nat} {t u v : Tm} (h : B12 w b t u v) (hb : Below w.heap.size w w') : B12 w' b t u v :=
  ⟨Nat.lt_of_lt_of_le h.lt hb.size, fun j x hx => (hb.cell (p := ⟨b, j, none⟩) h.lt).trans (h.c j x hx), fun j hj => (hb.frozen (p := ⟨b, j, none⟩) h.lt).trans (h.f j hj)⟩
theorem B12.new (w : World) (t u v : Tm) (T : TypeId) : B12 (w.alloc (.cells #[.int .i64 t.k, .slice t.a t.len t.cap, .int .i64 t.n, .int .i64 t.s, .int .i64 u.k, .slice u.a u.len u.cap, .int .i64 u.n, .int .i64 u.s, .int .i64 v.k, .slice v.a v.len v.cap, .int .i64 v.n, .int .i64 v.s] T)) w.heap.size t u v := by
  refine ⟨by simp, fun j x hx => ?_, fun j _ => by simp [go_sem]⟩
  have : (w.alloc (.cells (e12 t u v).toArray T)).cell? ⟨w.heap.size, j, none⟩ = (e12 t u v)[j]? := by simp [go_sem]
  exact this.trans hx
/-- Four cells of it are written. -/
theorem B12.setS {w : World} {b : Nat} {t u v : Tm} (h : B12 w b t u v) (x : Tm) : B12 ((((w.setCell ⟨b, 0, none⟩ (.int .i64 x.k)).setCell ⟨b, 1, none⟩ (.slice x.a x.len x.cap)).setCell ⟨b, 2, none⟩ (.int .i64 x.n)).setCell ⟨b, 3, none⟩ (.int .i64 x.s)) b x u v := by
  obtain ⟨⟨h0, h1, h2, h3⟩, ⟨h4, h5, h6, h7⟩, ⟨h8, h9, ha, hb⟩⟩ := h.cells
  refine ⟨by simpa using h.lt, fun j y hy => ?_, fun j hj => by simp [go_sem, h.f j hj]⟩
  have hj : j < 12 := (List.getElem?_eq_some_iff.1 hy).1
  rcases (by omega : j = 0 ∨ j = 1 ∨ j = 2 ∨ j = 3 ∨ j = 4 ∨ j = 5 ∨ j = 6 ∨ j = 7 ∨ j = 8 ∨ j = 9 ∨ j = 10 ∨ j = 11) with rfl | rfl | rfl | rfl | rfl | rfl | rfl | rfl | rfl | rfl | rfl | rfl <;> simp [e12] at hy <;> subst hy <;> simp [go_sem, *]
theorem B12.setP {w : World} {b : Nat} {t u v : Tm} (h : B12 w b t u v) (x : Tm) : B12 ((((w.setCell ⟨b, 4, none⟩ (.int .i64 x.k)).setCell ⟨b, 5, none⟩ (.slice x.a x.len x.cap)).setCell ⟨b, 6, none⟩ (.int .i64 x.n)).setCell ⟨b, 7, none⟩ (.int .i64 x.s)) b t x v := by
  obtain ⟨⟨h0, h1, h2, h3⟩, ⟨h4, h5, h6, h7⟩, ⟨h8, h9, ha, hb⟩⟩ := h.cells
  refine ⟨by simpa using h.lt, fun j y hy => ?_, fun j hj => by simp [go_sem, h.f j hj]⟩
  have hj : j < 12 := (List.getElem?_eq_some_iff.1 hy).1
  rcases (by omega : j = 0 ∨ j = 1 ∨ j = 2 ∨ j = 3 ∨ j = 4 ∨ j = 5 ∨ j = 6 ∨ j = 7 ∨ j = 8 ∨ j = 9 ∨ j = 10 ∨ j = 11) with rfl | rfl | rfl | rfl | rfl | rfl | rfl | rfl | rfl | rfl | rfl | rfl <;> simp [e12] at hy <;> subst hy <;> simp [go_sem, *]
theorem B12.setO {w : World} {b : Nat} {t u v : Tm} (h : B12 w b t u v) (x : Tm) : B12 ((((w.setCell ⟨b, 8, none⟩ (.int .i64 x.k)).setCell ⟨b, 9, none⟩ (.slice x.a x.len x.cap)).setCell ⟨b, 10, none⟩ (.int .i64 x.n)).setCell ⟨b, 11, none⟩ (.int .i64 x.s)) b t u x := by
  obtain ⟨⟨h0, h1, h2, h3⟩, ⟨h4, h5, h6, h7⟩, ⟨h8, h9, ha, hb⟩⟩ := h.cells
  refine ⟨by simpa using h.lt, fun j y hy => ?_, fun j hj => by simp [go_sem, h.f j hj]⟩
  have hj : j < 12 := (List.getElem?_eq_some_iff.1 hy).1
  rcases (by omega : j = 0 ∨ j = 1 ∨ j = 2 ∨ j = 3 ∨ j = 4 ∨ j = 5 ∨ j = 6 ∨ j = 7 ∨ j = 8 ∨ j = 9 ∨ j = 10 ∨ j = 11) with rfl | rfl | rfl | rfl | rfl | rfl | rfl | rfl | rfl | rfl | rfl | rfl <;> simp [e12] at hy <;> subst hy <;> simp [go_sem, *]

/-- A term that was drawn: its numbers are of 64 bits, its text lies from B on and below C. -/
structure DT (w : World) (B C : Nat) (t : Tm) (b : List Int) : Prop where
  fit : t.fits
  len : t.len ≤ 200
  bs : Bs w t.a t.len b
  at_ : t.len = 0 ∨ ∃ g, t.a = some ⟨g, 0, none⟩ ∧ B ≤ g ∧ g < C
  le : C ≤ w.heap.size
theorem DT.keep {w w' : World} {B C : Nat} {t : Tm} {b : List Int} (h : DT w B C t b) (hs : w.heap.size ≤ w'.heap.size) (hu : ∀ c, B ≤ c → c < C → w'.heap[c]? = w.heap[c]?) : DT w' B C t b := by
  obtain ⟨b1, b2, b3, b4⟩ := h.bs
  refine ⟨h.fit, h.len, ⟨b1, b2, b3, ?_⟩, h.at_, Nat.le_trans h.le hs⟩
  rcases b4 with b4 | ⟨c, off, e, hl, hc⟩
  · exact .inl b4
  · rcases h.at_ with h0 | ⟨g, ea, hB, hC⟩
    · exact .inl h0
    · rw [ea] at e
      simp only [Option.some.injEq, Addr.mk.injEq] at e
      obtain ⟨e1, e2, _⟩ := e
      subst e1 e2
      exact .inr ⟨g, 0, ea, Nat.lt_of_lt_of_le hl hs, fun i hi => (World.cell?_of_block (w := w) (a := ⟨g, 0 + i, none⟩) (hu g hB hC)).trans (hc i hi)⟩
theorem DT.past {w w' : World} {B C c : Nat} {t : Tm} {b : List Int} (h : DT w B C t b) (hp : Past c w w') (hc : c < B ∨ C ≤ c) : DT w' B C t b := h.keep hp.size (fun d h1 h2 => hp.block d (Nat.lt_of_lt_of_le h2 h.le) (by omega))
theorem DT.below {w w' : World} {B C : Nat} {t : Tm} {b : List Int} (h : DT w B C t b) (hb : Below w.heap.size w w') : DT w' B C t b := h.keep hb.size (fun d _ h2 => hb.block d (Nat.lt_of_lt_of_le h2 h.le))
theorem DT.mono {w : World} {B B' C C' : Nat} {t : Tm} {b : List Int} (h : DT w B C t b) (hB : B' ≤ B) (hC : C ≤ C') (hw : C' ≤ w.heap.size) : DT w B' C' t b :=
  ⟨h.fit, h.len, h.bs, by
    rcases h.at_ with h0 | ⟨g, ea, h1, h2⟩
    · exact .inl h0
    · exact .inr ⟨g, ea, by omega, by omega⟩, hw⟩
theorem TermRes.dt {B : Nat} {e : Ending} {w : World} (h : TermRes B e w) : ∃ (t : Tm) (b : List Int), e = .returned (.agg #[.int .i64 t.k, .slice t.a t.len t.cap, .int .i64 t.n, .int .i64 t.s]) ∧ DT w B w.heap.size t b ∧ 0 ≤ t.s ∧ t.s ≤ 6 := by
  obtain ⟨k, n, s, a, len, cap, bs, rfl, hn, hs, hl, hT⟩ := h
  exact ⟨⟨k, a, len, cap, n, s⟩, bs, rfl, ⟨⟨hn.1, hn.2, by show _ ≤ s; omega, by show s ≤ _; omega⟩, by show len ≤ 200; omega, hT.b.1, hT.b.2, Nat.le_refl _⟩, hs⟩
theorem DT.none (w : World) (B : Nat) (k n : Int) (hn : -9223372036854775808 ≤ n ∧ n ≤ 9223372036854775807) : DT w B w.heap.size ⟨k, none, 0, 0, n, 0⟩ [] :=
  ⟨⟨hn.1, hn.2, by show (_ : Int) ≤ 0; omega, by show (0 : Int) ≤ _; omega⟩, by show 0 ≤ 200; omega, ⟨rfl, by show 0 ≤ _; omega, by simp, .inl rfl⟩, .inl rfl, Nat.le_refl _⟩
end Go.Proofs.YtiodiooaaojbhaaGreatDoor
