/- Texts put together: GdrF KepA GdrG -/
import Derived.Test.YtiodiooaaojbhaaGreatDoorNk10
import Derived.Lib.QuietBelow
import Derived.Test.YtiodiooaaojbhaaGreatDoorNk09
/- GdrF -/
namespace Go.Proofs.YtiodiooaaojbhaaGreatDoor
open Go.RowKit Go.Deep
set_option maxRecDepth 100000

theorem bl_regrownG {w : World} (d : Nat) (os : Array Obj) : Below w.heap.size w (Go.Sort.grow (redrawn w d) os) := below_regrown w d os
/-- What is known of a drawn triple. -/
structure GT (w : World) (x : G1) : Prop where
  f1 : x.t.fits
  f2 : x.u.fits
  f3 : x.v.fits
  s : S3 x.t x.u x.v
  b1 : Bs w x.t.a x.t.len x.bt
  b2 : Bs w x.u.a x.u.len x.bu
  b3 : Bs w x.v.a x.v.len x.bv
theorem GT.below {w w' : World} {x : G1} (h : GT w x) (hb : Below w.heap.size w w') : GT w' x := ⟨h.f1, h.f2, h.f3, h.s, h.b1.below hb, h.b2.below hb, h.b3.below hb⟩
/-- What l2put answers. -/
def PutG (w : World) (B : Nat) (l : List G1) (x : G1) (e : Ending) (w' : World) : Prop :=
  ∃ v' l', e = .returned v' ∧ OwnG w' B v' l' ∧ l'.length ≤ l.length + 1 ∧ (∀ y ∈ l', y ∈ l ∨ y = x) ∧ Below w.heap.size w w'

theorem OwnG.cap_le {w : World} {B : Nat} {ad : Addr} {n c : Nat} {l : List G1} (h : OwnG w B (.slice (some ad) n c) l) : n ≤ c := by
  rcases h.1.2 with ⟨hv, _⟩ | ⟨g, c', cur, hv, _, _, hle, _⟩
  · cases hv
  · simp only [Value.slice.injEq] at hv
    omega
theorem addr_addG (b off j : Nat) : (⟨b, off, none⟩ : Addr).add j = ⟨b, off + j, none⟩ := by
  by_cases h0 : j = 0 <;> simp [Addr.add, h0]
set_option maxHeartbeats 8000000 in
theorem l2put_any (a : Option Addr) (cap : Nat) (l : List G1) (x : G1) (w : World) (B : Nat) (hl : l.length ≤ 1000) (HO0 : OwnG w B (.slice a l.length cap) l) (hB : B ≤ w.heap.size) (hD : ∀ y ∈ l, GT w y) (hx : GT w x) :
    Calls Tryz.prog 59 #[.slice a l.length cap, .agg (e12 x.t x.u x.v).toArray] w (PutG w B l x) := by
  have HOW : Hid (OwnG w B (.slice a l.length cap) l) := HO0
  have HCMP : Hid (∀ W y, y ∈ l → Below w.heap.size w W → Calls Tryz.prog 33 #[.agg (e12 y.t y.u y.v).toArray, .agg (e12 x.t x.u x.v).toArray] W fun e w' => e = .returned (.int .i64 (w3 y.t y.u y.v x.t x.u x.v y.bt y.bu y.bv x.bt x.bu x.bv)) ∧ Below W.heap.size W w') := fun W y hy hW => by
    have h1 := (hD y hy).below hW
    have h2 := hx.below hW
    exact l2compare_w y.t y.u y.v x.t x.u x.v y.bt y.bu y.bv x.bt x.bu x.bv W h1.f1 h1.f2 h1.f3 h2.f1 h2.f2 h2.f3 h1.s h2.s h1.b1 h1.b2 h1.b3 h2.b1 h2.b2 h2.b3
  have HFM : Hid (l = [] ∨ ∃ gb, a = some ⟨gb, 0, none⟩ ∧ gb < w.heap.size ∧ l.length ≤ cap ∧ ∀ j u, (flatG l)[j]? = some u → w.cell? ⟨gb, j, none⟩ = some u) := by
    show _ ∨ _
    rcases HO0.form with ⟨_, h⟩ | ⟨g, c, hv, _, h1, h2, h3⟩
    · exact .inl h
    · simp only [Value.slice.injEq] at hv
      obtain ⟨rfl, _, rfl⟩ := hv
      exact .inr ⟨g, rfl, h1, h2, h3⟩
  simp only [e12] at HCMP ⊢
  obtain ⟨n, hn⟩ : ∃ n, n = l.length := ⟨_, rfl⟩
  have HN : Hid (n = l.length) := hn
  rw [← hn] at hl HOW ⊢
  have HX0 := B12.new w x.t x.u x.v 45
  have HX0' : Hid (B12 (w.alloc (.cells #[.int .i64 x.t.k, .slice x.t.a x.t.len x.t.cap, .int .i64 x.t.n, .int .i64 x.t.s, .int .i64 x.u.k, .slice x.u.a x.u.len x.u.cap, .int .i64 x.u.n, .int .i64 x.u.s, .int .i64 x.v.k, .slice x.v.a x.v.len x.v.cap, .int .i64 x.v.n, .int .i64 x.v.s] 45)) w.heap.size x.t x.u x.v) := HX0
  clear HX0 HO0 hD hx hn
  go_enter Tryz.func59, Tryz.ntmps59
  go_wp2_with fail
  go_loopw [5] (fun i wr => ∃ j : Nat, j ≤ n ∧ i = .int .i64 j ∧ Hid (Below w.heap.size w wr) ∧ Hid (B12 wr w.heap.size x.t x.u x.v)) (fun i _ => n - (intOf i).toNat)
  case atStart => exact ⟨0, Nat.zero_le _, rfl, bl_a _, HX0'⟩
  case round =>
    obtain ⟨j, hj, rfl, HB, HX⟩ := hrel
    clear HX0'
    by_cases hlt : j < n
    · have hltz : (j : Int) < (n : Int) := by omega
      obtain ⟨y, hy⟩ : ∃ y, l[j]? = some y := ⟨_, List.getElem?_eq_getElem (by rw [← HN.out]; exact hlt)⟩
      have HY : Hid (l[j]? = some y) := hy
      clear hy
      obtain ⟨gb, rfl, hgb, hcap, hcl⟩ := HFM.out.resolve_left (fun e => by have h1 := HN.out; rw [e] at h1; simp at h1; omega)
      have HCL : Hid (∀ j u, (flatG l)[j]? = some u → w.cell? ⟨gb, j, none⟩ = some u) := hcl
      clear hcl
      have hcy := fun d os => flatG_cells (l := l) (w := Go.Sort.grow (redrawn wr d) os) (g := gb) (off := 0) (fun q u hu => by rw [Nat.zero_add]; exact ((bl_trans HB.out (bl_regrownG (w := wr) d os)).cell (p := ⟨gb, q, none⟩) hgb).trans (HCL.out q u hu)) HY.out
      have hcx := fun d os => (HX.out.below (bl_regrownG (w := wr) d os)).c
      have a0 := fun d os => hcy d os 0 _ rfl
      have a1 := fun d os => hcy d os 1 _ rfl
      have a2 := fun d os => hcy d os 2 _ rfl
      have a3 := fun d os => hcy d os 3 _ rfl
      have a4 := fun d os => hcy d os 4 _ rfl
      have a5 := fun d os => hcy d os 5 _ rfl
      have a6 := fun d os => hcy d os 6 _ rfl
      have a7 := fun d os => hcy d os 7 _ rfl
      have a8 := fun d os => hcy d os 8 _ rfl
      have a9 := fun d os => hcy d os 9 _ rfl
      have a10 := fun d os => hcy d os 10 _ rfl
      have a11 := fun d os => hcy d os 11 _ rfl
      have b0 := fun d os => hcx d os 0 _ rfl
      have b1 := fun d os => hcx d os 1 _ rfl
      have b2 := fun d os => hcx d os 2 _ rfl
      have b3 := fun d os => hcx d os 3 _ rfl
      have b4 := fun d os => hcx d os 4 _ rfl
      have b5 := fun d os => hcx d os 5 _ rfl
      have b6 := fun d os => hcx d os 6 _ rfl
      have b7 := fun d os => hcx d os 7 _ rfl
      have b8 := fun d os => hcx d os 8 _ rfl
      have b9 := fun d os => hcx d os 9 _ rfl
      have b10 := fun d os => hcx d os 10 _ rfl
      have b11 := fun d os => hcx d os 11 _ rfl
      simp only [Nat.zero_add, Nat.add_zero] at a0 a1 a2 a3 a4 a5 a6 a7 a8 a9 a10 a11
      have C := fun d os => Calls.regrown_of (HCMP.out (Go.Sort.grow (redrawn wr d) os) y (List.mem_of_getElem? HY.out) (bl_trans HB.out (bl_regrownG (w := wr) d os)))
      clear hcy hcx
      obtain ⟨r, hr⟩ : ∃ r, r = w3 y.t y.u y.v x.t x.u x.v y.bt y.bu y.bv x.bt x.bu x.bv := ⟨_, rfl⟩
      have HRR : Hid (r = w3 y.t y.u y.v x.t x.u x.v y.bt y.bu y.bv x.bt x.bu x.bv) := hr
      rw [← hr] at C
      clear hr
      go_wp2_with fail
      refine wp_region_quiet_below (by kernel_rfl) (by kernel_rfl) ?_
      quiet_step (fail)
      quiet_step (fail)
      quiet_step (fail)
      quiet_step (fail)
      quiet_step (fail)
      quiet_step (fail)
      quiet_step (fail)
      quiet_step (fail)
      quiet_step (fail)
      quiet_step (fail)
      quiet_step (exact C _ _)
      quiet_step (fail)
      quiet_step (fail)
      refine wpQuiet_nil ?_
      intro _ hw'
      obtain ⟨⟨dq, osq⟩, hw''⟩ := hw'
      subst hw''
      have HBwz : Hid (Below w.heap.size w (Go.Sort.grow (redrawn wr dq) osq)) := bl_trans HB.out (bl_regrownG (w := wr) dq osq)
      have HXwz : Hid (B12 (Go.Sort.grow (redrawn wr dq) osq) w.heap.size x.t x.u x.v) := HX.out.below (bl_regrownG (w := wr) dq osq)
      dsimp only
      generalize Go.Sort.grow (redrawn wr dq) osq = wz at *
      clear C a0 b0 a1 b1 a2 b2 a3 b3 a4 b4 a5 b5 a6 b6 a7 b7 a8 b8 a9 b9 a10 b10 a11 b11 HB HX
      by_cases hr0 : r < 0
      · go_wp2_with fail
        go_roundw
        case rel => exact ⟨j + 1, by omega, by go_num, HBwz, HXwz⟩
        case measure => simp [intOf]; omega
      · have HB : Hid _ := HBwz
        have HX : Hid _ := HXwz
        clear HBwz HXwz
        have hcy := fun d os => flatG_cells (l := l) (w := Go.Sort.grow (redrawn wz d) os) (g := gb) (off := 0) (fun q u hu => by rw [Nat.zero_add]; exact ((bl_trans HB.out (bl_regrownG (w := wz) d os)).cell (p := ⟨gb, q, none⟩) hgb).trans (HCL.out q u hu)) HY.out
        have hcx := fun d os => (HX.out.below (bl_regrownG (w := wz) d os)).c
        have a0 := fun d os => hcy d os 0 _ rfl
        have a1 := fun d os => hcy d os 1 _ rfl
        have a2 := fun d os => hcy d os 2 _ rfl
        have a3 := fun d os => hcy d os 3 _ rfl
        have a4 := fun d os => hcy d os 4 _ rfl
        have a5 := fun d os => hcy d os 5 _ rfl
        have a6 := fun d os => hcy d os 6 _ rfl
        have a7 := fun d os => hcy d os 7 _ rfl
        have a8 := fun d os => hcy d os 8 _ rfl
        have a9 := fun d os => hcy d os 9 _ rfl
        have a10 := fun d os => hcy d os 10 _ rfl
        have a11 := fun d os => hcy d os 11 _ rfl
        have b0 := fun d os => hcx d os 0 _ rfl
        have b1 := fun d os => hcx d os 1 _ rfl
        have b2 := fun d os => hcx d os 2 _ rfl
        have b3 := fun d os => hcx d os 3 _ rfl
        have b4 := fun d os => hcx d os 4 _ rfl
        have b5 := fun d os => hcx d os 5 _ rfl
        have b6 := fun d os => hcx d os 6 _ rfl
        have b7 := fun d os => hcx d os 7 _ rfl
        have b8 := fun d os => hcx d os 8 _ rfl
        have b9 := fun d os => hcx d os 9 _ rfl
        have b10 := fun d os => hcx d os 10 _ rfl
        have b11 := fun d os => hcx d os 11 _ rfl
        simp only [Nat.zero_add, Nat.add_zero] at a0 a1 a2 a3 a4 a5 a6 a7 a8 a9 a10 a11
        have C := fun d os => Calls.regrown_of (HCMP.out (Go.Sort.grow (redrawn wz d) os) y (List.mem_of_getElem? HY.out) (bl_trans HB.out (bl_regrownG (w := wz) d os)))
        clear hcy hcx
        rw [← HRR.out] at C
        go_wp2_with fail
        refine wp_region_quiet_below (by kernel_rfl) (by kernel_rfl) ?_
        quiet_step (fail)
        quiet_step (fail)
        quiet_step (fail)
        quiet_step (fail)
        quiet_step (fail)
        quiet_step (fail)
        quiet_step (fail)
        quiet_step (fail)
        quiet_step (fail)
        quiet_step (fail)
        quiet_step (exact C _ _)
        quiet_step (fail)
        quiet_step (fail)
        refine wpQuiet_nil ?_
        intro _ hw'
        obtain ⟨⟨dq, osq⟩, hw''⟩ := hw'
        subst hw''
        have HBwy : Hid (Below w.heap.size w (Go.Sort.grow (redrawn wz dq) osq)) := bl_trans HB.out (bl_regrownG (w := wz) dq osq)
        have HXwy : Hid (B12 (Go.Sort.grow (redrawn wz dq) osq) w.heap.size x.t x.u x.v) := HX.out.below (bl_regrownG (w := wz) dq osq)
        dsimp only
        generalize Go.Sort.grow (redrawn wz dq) osq = wy at *
        clear C a0 b0 a1 b1 a2 b2 a3 b3 a4 b4 a5 b5 a6 b6 a7 b7 a8 b8 a9 b9 a10 b10 a11 b11 HB HX
        have HB : Hid _ := HBwy
        have HX : Hid _ := HXwy
        clear HBwy HXwy
        by_cases hre : r = 0
        · go_wp2_with fail
          go_ret
          exact ⟨_, l, rfl, HOW.out.below HB.out, by omega, fun y hy => .inl hy, HB.out⟩
        · by_cases hj0 : j = 0
          · subst hj0
            obtain ⟨H, hH⟩ : ∃ H, H = wy.heap.size := ⟨_, rfl⟩
            have hxl : w.heap.size < H := by rw [hH]; exact HX.out.lt
            have HWB : Hid (Below H wy wy) := Below.refl _ _
            have H0 : Hid (OwnG wy H (.slice none 0 0) []) := OwnG.nil _ _
            have hBW : H ≤ wy.heap.size := by rw [hH]; exact Nat.le_refl _
            have hxc := HX.out.c
            have x0 := hxc 0 _ rfl
            have x1 := hxc 1 _ rfl
            have x2 := hxc 2 _ rfl
            have x3 := hxc 3 _ rfl
            have x4 := hxc 4 _ rfl
            have x5 := hxc 5 _ rfl
            have x6 := hxc 6 _ rfl
            have x7 := hxc 7 _ rfl
            have x8 := hxc 8 _ rfl
            have x9 := hxc 9 _ rfl
            have x10 := hxc 10 _ rfl
            have x11 := hxc 11 _ rfl
            clear hxc
            have HO1a : Hid (OwnG (wy.alloc (.cells #[.int .i64 x.t.k, .slice x.t.a x.t.len x.t.cap, .int .i64 x.t.n, .int .i64 x.t.s, .int .i64 x.u.k, .slice x.u.a x.u.len x.u.cap, .int .i64 x.u.n, .int .i64 x.u.s, .int .i64 x.v.k, .slice x.v.a x.v.len x.v.cap, .int .i64 x.v.n, .int .i64 x.v.s] 45)) H (.slice none 0 0) []) := H0.out.below (bl_a _)
            have HNA : Hid (∀ q u, (flatG [x])[q]? = some u → (wy.alloc (.cells #[.int .i64 x.t.k, .slice x.t.a x.t.len x.t.cap, .int .i64 x.t.n, .int .i64 x.t.s, .int .i64 x.u.k, .slice x.u.a x.u.len x.u.cap, .int .i64 x.u.n, .int .i64 x.u.s, .int .i64 x.v.k, .slice x.v.a x.v.len x.v.cap, .int .i64 x.v.n, .int .i64 x.v.s] 45)).cell? ((⟨wy.heap.size, 0, none⟩ : Addr).add q) = some u) := fun q u hu => World.news_of_block (Go.heap_alloc_new _ _) q u (by simpa [flatG, eG, e12] using hu)
            have hBW0 : wy.heap.size ≤ H := by rw [hH]; exact Nat.le_refl _
            have HL3 : Hid (l.length = n) := HN.out.symm
            go_wp2_with (first | (refine appG0 rfl (.tmp 36) (.tmp 39) rfl none 0 0 (Nat.le_refl _) rfl _ _ rfl ?_) | (refine appGs rfl (.tmp 41) (.tmp 43) rfl H (.slice none 0 0) [] rfl HO1a ⟨wy.heap.size, 0, none⟩ 1 1 [x] rfl rfl HNA (by omega) 1 (by simp) [x] rfl (by omega) (by simp; omega) ?_; intro g2 c2 w2 HO2 _ HB2; have HE2 : Hid (Below H wy w2) := (HWB.out.trans (((bl_a _).mono hBW).trans HB2.out)); clear HB2 HNA; have hBW2 : H ≤ w2.heap.size := Nat.le_trans hBW HE2.out.size; have HN3 : Hid (∀ q u, (flatG l)[q]? = some u → w2.cell? ((⟨gb, 0, none⟩ : Addr).add q) = some u) := fun q u hu => by rw [addr_addG, Nat.zero_add]; exact (HE2.out.cell (p := ⟨gb, q, none⟩) (Nat.lt_of_lt_of_le hgb (Nat.le_trans HB.out.size hBW0))).trans ((HB.out.cell (p := ⟨gb, q, none⟩) hgb).trans (HCL.out _ u hu))) | (refine appGs rfl (.tmp 45) (.tmp 48) rfl H (.slice (some ⟨g2, 0, none⟩) 1 c2) [x] rfl HO2 ⟨gb, 0, none⟩ n cap l rfl HL3.out HN3 (by omega) (1 + n) (rfl) ([x] ++ l) rfl (by omega) hBW2 ?_; intro g3 c3 w3 HO3 _ HB3))
            all_goals go_ret
            all_goals exact ⟨_, [x] ++ l, rfl, HO3.out.base (Nat.le_trans hB (Nat.le_of_lt hxl)), by first | (simp; done) | (simp; omega), fun y hy => (List.mem_cons.1 hy).elim .inr .inl, HB.out.trans ((HE2.out.mono (Nat.le_of_lt hxl)).trans (HB3.out.mono (Nat.le_of_lt hxl)))⟩
          · skip
            obtain ⟨H, hH⟩ : ∃ H, H = wy.heap.size := ⟨_, rfl⟩
            have hxl : w.heap.size < H := by rw [hH]; exact HX.out.lt
            have HWB : Hid (Below H wy wy) := Below.refl _ _
            have H0 : Hid (OwnG wy H (.slice none 0 0) []) := OwnG.nil _ _
            have hBW : H ≤ wy.heap.size := by rw [hH]; exact Nat.le_refl _
            have hxc := HX.out.c
            have x0 := hxc 0 _ rfl
            have x1 := hxc 1 _ rfl
            have x2 := hxc 2 _ rfl
            have x3 := hxc 3 _ rfl
            have x4 := hxc 4 _ rfl
            have x5 := hxc 5 _ rfl
            have x6 := hxc 6 _ rfl
            have x7 := hxc 7 _ rfl
            have x8 := hxc 8 _ rfl
            have x9 := hxc 9 _ rfl
            have x10 := hxc 10 _ rfl
            have x11 := hxc 11 _ rfl
            clear hxc
            have hjn : j ≤ cap := by have h1 := HN.out; omega
            have hjz : (j : Int) ≤ (cap : Int) := by omega
            have hjp : 0 < j := by omega
            have hjc : ¬ j = cap := by have h1 := HN.out; omega
            have HL1 : Hid ((l.take j).length = j) := (by rw [List.length_take, ← HN.out]; omega : (l.take j).length = j)
            have HN1 : Hid (∀ q u, (flatG (l.take j))[q]? = some u → wy.cell? ((⟨gb, 0, none⟩ : Addr).add q) = some u) := fun q u hu => by
              rw [addr_addG, Nat.zero_add]
              have h1 := flatG_piece (l := l) (f := 0) (m := j) (j := q) (u := u) (by rw [List.drop_zero]; exact hu)
              rw [Nat.zero_mul, Nat.zero_add] at h1
              exact (HB.out.cell (p := ⟨gb, q, none⟩) hgb).trans (HCL.out q u h1)
            have hBW0 : wy.heap.size ≤ H := by rw [hH]; exact Nat.le_refl _
            have HL3 : Hid ((l.drop j).length = n - j) := (by rw [List.length_drop, ← HN.out] : (l.drop j).length = n - j)
            go_wp2_with (first | (refine appGs rfl (.tmp 36) (.tmp 39) rfl H (.slice none 0 0) [] rfl H0 ⟨gb, 0, none⟩ j cap (l.take j) rfl HL1.out HN1 (by omega) j (by simp) (l.take j) (by simp) (by omega) hBW ?_; intro g1 c1 w1 HO1 _ HB1; have HE1 : Hid (Below H wy w1) := HB1.out; clear HB1 H0 HN1; have x0 := (HE1.out.cell (p := ⟨w.heap.size, 0, none⟩) hxl).trans x0; have x1 := (HE1.out.cell (p := ⟨w.heap.size, 1, none⟩) hxl).trans x1; have x2 := (HE1.out.cell (p := ⟨w.heap.size, 2, none⟩) hxl).trans x2; have x3 := (HE1.out.cell (p := ⟨w.heap.size, 3, none⟩) hxl).trans x3; have x4 := (HE1.out.cell (p := ⟨w.heap.size, 4, none⟩) hxl).trans x4; have x5 := (HE1.out.cell (p := ⟨w.heap.size, 5, none⟩) hxl).trans x5; have x6 := (HE1.out.cell (p := ⟨w.heap.size, 6, none⟩) hxl).trans x6; have x7 := (HE1.out.cell (p := ⟨w.heap.size, 7, none⟩) hxl).trans x7; have x8 := (HE1.out.cell (p := ⟨w.heap.size, 8, none⟩) hxl).trans x8; have x9 := (HE1.out.cell (p := ⟨w.heap.size, 9, none⟩) hxl).trans x9; have x10 := (HE1.out.cell (p := ⟨w.heap.size, 10, none⟩) hxl).trans x10; have x11 := (HE1.out.cell (p := ⟨w.heap.size, 11, none⟩) hxl).trans x11; have hBW1 : H ≤ w1.heap.size := Nat.le_trans hBW HE1.out.size; have HO1a : Hid (OwnG (w1.alloc (.cells #[.int .i64 x.t.k, .slice x.t.a x.t.len x.t.cap, .int .i64 x.t.n, .int .i64 x.t.s, .int .i64 x.u.k, .slice x.u.a x.u.len x.u.cap, .int .i64 x.u.n, .int .i64 x.u.s, .int .i64 x.v.k, .slice x.v.a x.v.len x.v.cap, .int .i64 x.v.n, .int .i64 x.v.s] 45)) H (.slice (some ⟨g1, 0, none⟩) j c1) (l.take j)) := HO1.out.below (bl_a _); have HNA : Hid (∀ q u, (flatG [x])[q]? = some u → (w1.alloc (.cells #[.int .i64 x.t.k, .slice x.t.a x.t.len x.t.cap, .int .i64 x.t.n, .int .i64 x.t.s, .int .i64 x.u.k, .slice x.u.a x.u.len x.u.cap, .int .i64 x.u.n, .int .i64 x.u.s, .int .i64 x.v.k, .slice x.v.a x.v.len x.v.cap, .int .i64 x.v.n, .int .i64 x.v.s] 45)).cell? ((⟨w1.heap.size, 0, none⟩ : Addr).add q) = some u) := fun q u hu => World.news_of_block (Go.heap_alloc_new _ _) q u (by simpa [flatG, eG, e12] using hu)) | (refine appGs rfl (.tmp 41) (.tmp 43) rfl H (.slice (some ⟨g1, 0, none⟩) j c1) (l.take j) rfl HO1a ⟨w1.heap.size, 0, none⟩ 1 1 [x] rfl rfl HNA (by omega) (j + 1) (by rw [HL1.out]) (l.take j ++ [x]) rfl (by omega) (by simp; omega) ?_; intro g2 c2 w2 HO2 _ HB2; have HE2 : Hid (Below H wy w2) := (HE1.out.trans (((bl_a _).mono hBW1).trans HB2.out)); clear HB2 HNA; have hBW2 : H ≤ w2.heap.size := Nat.le_trans hBW HE2.out.size; have HN3 : Hid (∀ q u, (flatG (l.drop j))[q]? = some u → w2.cell? ((⟨gb, j * 12, none⟩ : Addr).add q) = some u) := fun q u hu => by rw [addr_addG]; exact (HE2.out.cell (p := ⟨gb, j * 12 + q, none⟩) (Nat.lt_of_lt_of_le hgb (Nat.le_trans HB.out.size hBW0))).trans ((HB.out.cell (p := ⟨gb, j * 12 + q, none⟩) hgb).trans (HCL.out _ u (flatG_piece (l := l) (f := j) (m := l.length) (by rw [List.take_of_length_le (by rw [List.length_drop]; omega)]; exact hu))))) | (refine appGs rfl (.tmp 45) (.tmp 48) rfl H (.slice (some ⟨g2, 0, none⟩) (j + 1) c2) (l.take j ++ [x]) rfl HO2 ⟨gb, j * 12, none⟩ (n - j) (cap - j) (l.drop j) rfl HL3.out HN3 (by omega) ((j + 1) + (n - j)) ((by rw [List.length_append, HL1.out]; rfl)) ((l.take j ++ [x]) ++ l.drop j) rfl (by omega) hBW2 ?_; intro g3 c3 w3 HO3 _ HB3))
            all_goals go_ret
            all_goals exact ⟨_, l.take j ++ [x] ++ l.drop j, rfl, HO3.out.base (Nat.le_trans hB (Nat.le_of_lt hxl)), by first | (simp; done) | (simp; omega), fun y hy => by
              simp only [List.mem_append, List.mem_cons, List.not_mem_nil, or_false] at hy
              rcases hy with (h | h) | h
              · exact .inl (List.mem_of_mem_take h)
              · exact .inr h
              · exact .inl (List.mem_of_mem_drop h), HB.out.trans ((HE2.out.mono (Nat.le_of_lt hxl)).trans (HB3.out.mono (Nat.le_of_lt hxl)))⟩
    · obtain rfl : j = n := by omega
      have hltz : ¬ (j : Int) < (j : Int) := by omega
      go_wp2_with fail
      refine wp_region_held_drew (S := fun w' => Below wr.heap.size wr w') (by kernel_rfl) ?_ (fun hHeld => ?_)
      · exact Below.drew (Below.refl _ _)
      refine take_at (i := 0) 7 (v := ?v1) rfl rfl (by kernel_rfl) (by kernel_rfl) (by kernel_rfl) (fun _ _ _ h => h) (Or.inl ⟨by rfl, ?y1⟩) hHeld ?r1
      case y1 => (intro w' hSw; skip; go_simp; (try with_reducible rfl))
      try simp only [Act.put, List.setIfInBounds_toArray, List.set_cons_zero, List.set_cons_succ]
      refine take_at (i := 1) 8 (v := ?v2) rfl rfl (by kernel_rfl) (by kernel_rfl) (by kernel_rfl) (fun _ _ _ h => h) (Or.inl ⟨by rfl, ?y2⟩) hHeld ?r2
      case y2 => (intro w' hSw; skip; go_simp; (try with_reducible rfl))
      try simp only [Act.put, List.setIfInBounds_toArray, List.set_cons_zero, List.set_cons_succ]
      refine take_at (i := 2) 9 (v := ?v3) rfl rfl (by kernel_rfl) (by kernel_rfl) (by kernel_rfl) (fun _ _ _ h => h) (Or.inl ⟨by rfl, ?y3⟩) hHeld ?r3
      case y3 => (intro w' hSw; skip; go_simp; (try with_reducible rfl))
      try simp only [Act.put, List.setIfInBounds_toArray, List.set_cons_zero, List.set_cons_succ]
      refine take_at (i := 3) 10 (v := ?v4) rfl rfl (by kernel_rfl) (by kernel_rfl) (by kernel_rfl) (fun _ _ _ h => h) (Or.inl ⟨by rfl, ?y4⟩) hHeld ?r4
      case y4 => (intro w' hSw; skip; go_simp; (try with_reducible rfl))
      try simp only [Act.put, List.setIfInBounds_toArray, List.set_cons_zero, List.set_cons_succ]
      refine take_at (i := 4) 11 (v := ?v5) rfl rfl (by kernel_rfl) (by kernel_rfl) (by kernel_rfl) (fun _ _ _ h => h) (Or.inl ⟨by rfl, ?y5⟩) hHeld ?r5
      case y5 => (intro w' hSw; skip; go_simp; (try with_reducible rfl))
      try simp only [Act.put, List.setIfInBounds_toArray, List.set_cons_zero, List.set_cons_succ]
      refine take_at (i := 5) 12 (v := undef) rfl rfl (by kernel_rfl) (by kernel_rfl) (by kernel_rfl) (fun _ _ _ h => h) (Or.inr ⟨by rfl, rfl⟩) hHeld ?_
      try simp only [Act.put, List.setIfInBounds_toArray, List.set_cons_zero, List.set_cons_succ]
      refine take_at (i := 6) 13 (v := undef) rfl rfl (by kernel_rfl) (by kernel_rfl) (by kernel_rfl) (fun _ _ _ h => h) (Or.inr ⟨by rfl, rfl⟩) hHeld ?_
      try simp only [Act.put, List.setIfInBounds_toArray, List.set_cons_zero, List.set_cons_succ]
      refine take_at (i := 7) 14 (v := undef) rfl rfl (by kernel_rfl) (by kernel_rfl) (by kernel_rfl) (fun _ _ _ h => h) (Or.inr ⟨by rfl, rfl⟩) hHeld ?_
      try simp only [Act.put, List.setIfInBounds_toArray, List.set_cons_zero, List.set_cons_succ]
      refine take_at (i := 8) 15 (v := undef) rfl rfl (by kernel_rfl) (by kernel_rfl) (by kernel_rfl) (fun _ _ _ h => h) (Or.inr ⟨by rfl, rfl⟩) hHeld ?_
      try simp only [Act.put, List.setIfInBounds_toArray, List.set_cons_zero, List.set_cons_succ]
      refine take_at (i := 9) 16 (v := undef) rfl rfl (by kernel_rfl) (by kernel_rfl) (by kernel_rfl) (fun _ _ _ h => h) (Or.inr ⟨by rfl, rfl⟩) hHeld ?_
      try simp only [Act.put, List.setIfInBounds_toArray, List.set_cons_zero, List.set_cons_succ]
      refine take_at (i := 10) 17 (v := undef) rfl rfl (by kernel_rfl) (by kernel_rfl) (by kernel_rfl) (fun _ _ _ h => h) (Or.inr ⟨by rfl, rfl⟩) hHeld ?_
      try simp only [Act.put, List.setIfInBounds_toArray, List.set_cons_zero, List.set_cons_succ]
      refine take_at (i := 11) 18 (v := undef) rfl rfl (by kernel_rfl) (by kernel_rfl) (by kernel_rfl) (fun _ _ _ h => h) (Or.inr ⟨by rfl, rfl⟩) hHeld ?_
      try simp only [Act.put, List.setIfInBounds_toArray, List.set_cons_zero, List.set_cons_succ]
      refine take_at (i := 12) 19 (v := ?v6) rfl rfl (by kernel_rfl) (by kernel_rfl) (by kernel_rfl) (fun _ _ _ h => h) (Or.inl ⟨by rfl, ?y6⟩) hHeld ?r6
      case y6 => (intro w' hSw; skip; go_simp; (try with_reducible rfl))
      try simp only [Act.put, List.setIfInBounds_toArray, List.set_cons_zero, List.set_cons_succ]
      refine wpAnyH_done (by kernel_rfl) ?_ _
      have HBwz : Hid (Below w.heap.size w wr.drew) := Below.drew HB.out
      have HXwz : Hid (B12 wr.drew w.heap.size x.t x.u x.v) := HX.out.below (Below.drew (Below.refl _ _))
      clear hHeld
      generalize wr.drew = wz at *
      have HB : Hid _ := HBwz
      have HX : Hid _ := HXwz
      clear HBwz HXwz
      go_wp2_with fail
      refine wp_region_held_drew (S := fun w' => Below wz.heap.size wz w') (by kernel_rfl) ?_ (fun hHeld => ?_)
      · exact Below.drew (Below.refl _ _)
      refine take_at (i := 0) 22 (v := ?v7) rfl rfl (by kernel_rfl) (by kernel_rfl) (by kernel_rfl) (fun _ _ _ h => h) (Or.inl ⟨by rfl, ?y7⟩) hHeld ?r7
      case y7 => (intro w' hSw; skip; go_simp; (try with_reducible rfl))
      try simp only [Act.put, List.setIfInBounds_toArray, List.set_cons_zero, List.set_cons_succ]
      refine take_at (i := 1) 23 (v := ?v8) rfl rfl (by kernel_rfl) (by kernel_rfl) (by kernel_rfl) (fun _ _ _ h => h) (Or.inl ⟨by rfl, ?y8⟩) hHeld ?r8
      case y8 => (intro w' hSw; skip; go_simp; (try with_reducible rfl))
      try simp only [Act.put, List.setIfInBounds_toArray, List.set_cons_zero, List.set_cons_succ]
      refine take_at (i := 2) 24 (v := ?v9) rfl rfl (by kernel_rfl) (by kernel_rfl) (by kernel_rfl) (fun _ _ _ h => h) (Or.inl ⟨by rfl, ?y9⟩) hHeld ?r9
      case y9 => (intro w' hSw; skip; go_simp; (try with_reducible rfl))
      try simp only [Act.put, List.setIfInBounds_toArray, List.set_cons_zero, List.set_cons_succ]
      refine take_at (i := 3) 25 (v := ?v10) rfl rfl (by kernel_rfl) (by kernel_rfl) (by kernel_rfl) (fun _ _ _ h => h) (Or.inl ⟨by rfl, ?y10⟩) hHeld ?r10
      case y10 => (intro w' hSw; skip; go_simp; (try with_reducible rfl))
      try simp only [Act.put, List.setIfInBounds_toArray, List.set_cons_zero, List.set_cons_succ]
      refine take_at (i := 4) 26 (v := ?v11) rfl rfl (by kernel_rfl) (by kernel_rfl) (by kernel_rfl) (fun _ _ _ h => h) (Or.inl ⟨by rfl, ?y11⟩) hHeld ?r11
      case y11 => (intro w' hSw; skip; go_simp; (try with_reducible rfl))
      try simp only [Act.put, List.setIfInBounds_toArray, List.set_cons_zero, List.set_cons_succ]
      refine take_at (i := 5) 27 (v := undef) rfl rfl (by kernel_rfl) (by kernel_rfl) (by kernel_rfl) (fun _ _ _ h => h) (Or.inr ⟨by rfl, rfl⟩) hHeld ?_
      try simp only [Act.put, List.setIfInBounds_toArray, List.set_cons_zero, List.set_cons_succ]
      refine take_at (i := 6) 28 (v := undef) rfl rfl (by kernel_rfl) (by kernel_rfl) (by kernel_rfl) (fun _ _ _ h => h) (Or.inr ⟨by rfl, rfl⟩) hHeld ?_
      try simp only [Act.put, List.setIfInBounds_toArray, List.set_cons_zero, List.set_cons_succ]
      refine take_at (i := 7) 29 (v := undef) rfl rfl (by kernel_rfl) (by kernel_rfl) (by kernel_rfl) (fun _ _ _ h => h) (Or.inr ⟨by rfl, rfl⟩) hHeld ?_
      try simp only [Act.put, List.setIfInBounds_toArray, List.set_cons_zero, List.set_cons_succ]
      refine take_at (i := 8) 30 (v := undef) rfl rfl (by kernel_rfl) (by kernel_rfl) (by kernel_rfl) (fun _ _ _ h => h) (Or.inr ⟨by rfl, rfl⟩) hHeld ?_
      try simp only [Act.put, List.setIfInBounds_toArray, List.set_cons_zero, List.set_cons_succ]
      refine take_at (i := 9) 31 (v := undef) rfl rfl (by kernel_rfl) (by kernel_rfl) (by kernel_rfl) (fun _ _ _ h => h) (Or.inr ⟨by rfl, rfl⟩) hHeld ?_
      try simp only [Act.put, List.setIfInBounds_toArray, List.set_cons_zero, List.set_cons_succ]
      refine take_at (i := 10) 32 (v := undef) rfl rfl (by kernel_rfl) (by kernel_rfl) (by kernel_rfl) (fun _ _ _ h => h) (Or.inr ⟨by rfl, rfl⟩) hHeld ?_
      try simp only [Act.put, List.setIfInBounds_toArray, List.set_cons_zero, List.set_cons_succ]
      refine take_at (i := 11) 33 (v := undef) rfl rfl (by kernel_rfl) (by kernel_rfl) (by kernel_rfl) (fun _ _ _ h => h) (Or.inr ⟨by rfl, rfl⟩) hHeld ?_
      try simp only [Act.put, List.setIfInBounds_toArray, List.set_cons_zero, List.set_cons_succ]
      refine take_at (i := 12) 34 (v := ?v12) rfl rfl (by kernel_rfl) (by kernel_rfl) (by kernel_rfl) (fun _ _ _ h => h) (Or.inl ⟨by rfl, ?y12⟩) hHeld ?r12
      case y12 => (intro w' hSw; skip; go_simp; (try with_reducible rfl))
      try simp only [Act.put, List.setIfInBounds_toArray, List.set_cons_zero, List.set_cons_succ]
      refine wpAnyH_done (by kernel_rfl) ?_ _
      have HBwy : Hid (Below w.heap.size w wz.drew) := Below.drew HB.out
      have HXwy : Hid (B12 wz.drew w.heap.size x.t x.u x.v) := HX.out.below (Below.drew (Below.refl _ _))
      clear hHeld
      generalize wz.drew = wy at *
      have HB : Hid _ := HBwy
      have HX : Hid _ := HXwy
      clear HBwy HXwy
      by_cases hj0 : j = 0
      · subst hj0
        obtain ⟨H, hH⟩ : ∃ H, H = wy.heap.size := ⟨_, rfl⟩
        have hxl : w.heap.size < H := by rw [hH]; exact HX.out.lt
        have HWB : Hid (Below H wy wy) := Below.refl _ _
        have H0 : Hid (OwnG wy H (.slice none 0 0) []) := OwnG.nil _ _
        have hBW : H ≤ wy.heap.size := by rw [hH]; exact Nat.le_refl _
        have hxc := HX.out.c
        have x0 := hxc 0 _ rfl
        have x1 := hxc 1 _ rfl
        have x2 := hxc 2 _ rfl
        have x3 := hxc 3 _ rfl
        have x4 := hxc 4 _ rfl
        have x5 := hxc 5 _ rfl
        have x6 := hxc 6 _ rfl
        have x7 := hxc 7 _ rfl
        have x8 := hxc 8 _ rfl
        have x9 := hxc 9 _ rfl
        have x10 := hxc 10 _ rfl
        have x11 := hxc 11 _ rfl
        clear hxc
        have HO1a : Hid (OwnG (wy.alloc (.cells #[.int .i64 x.t.k, .slice x.t.a x.t.len x.t.cap, .int .i64 x.t.n, .int .i64 x.t.s, .int .i64 x.u.k, .slice x.u.a x.u.len x.u.cap, .int .i64 x.u.n, .int .i64 x.u.s, .int .i64 x.v.k, .slice x.v.a x.v.len x.v.cap, .int .i64 x.v.n, .int .i64 x.v.s] 45)) H (.slice none 0 0) []) := H0.out.below (bl_a _)
        have HNA : Hid (∀ q u, (flatG [x])[q]? = some u → (wy.alloc (.cells #[.int .i64 x.t.k, .slice x.t.a x.t.len x.t.cap, .int .i64 x.t.n, .int .i64 x.t.s, .int .i64 x.u.k, .slice x.u.a x.u.len x.u.cap, .int .i64 x.u.n, .int .i64 x.u.s, .int .i64 x.v.k, .slice x.v.a x.v.len x.v.cap, .int .i64 x.v.n, .int .i64 x.v.s] 45)).cell? ((⟨wy.heap.size, 0, none⟩ : Addr).add q) = some u) := fun q u hu => World.news_of_block (Go.heap_alloc_new _ _) q u (by simpa [flatG, eG, e12] using hu)
        go_wp2_with (first | (refine appG0 rfl (.tmp 36) (.tmp 39) rfl none 0 0 (Nat.le_refl _) rfl _ _ rfl ?_) | (refine appGs rfl (.tmp 41) (.tmp 43) rfl H (.slice none 0 0) [] rfl HO1a ⟨wy.heap.size, 0, none⟩ 1 1 [x] rfl rfl HNA (by omega) 1 (by simp) [x] rfl (by omega) (by simp; omega) ?_; intro g2 c2 w2 HO2 _ HB2; have HE2 : Hid (Below H wy w2) := (HWB.out.trans (((bl_a _).mono hBW).trans HB2.out)); clear HB2 HNA; have hBW2 : H ≤ w2.heap.size := Nat.le_trans hBW HE2.out.size) | (refine appG0 rfl (.tmp 45) (.tmp 48) rfl (some ⟨g2, 0, none⟩) 1 c2 HO2.out.cap_le rfl _ _ rfl ?_))
        all_goals go_ret
        all_goals exact ⟨_, [x], rfl, HO2.out.base (Nat.le_trans hB (Nat.le_of_lt hxl)), by first | (simp; done) | (simp; omega), fun y hy => .inr (by simpa using hy), HB.out.trans (HE2.out.mono (Nat.le_of_lt hxl))⟩
      · obtain ⟨gb, rfl, hgb, hcap, hcl⟩ := HFM.out.resolve_left (fun e => by have h1 := HN.out; rw [e] at h1; simp at h1; omega)
        have HCL : Hid (∀ j u, (flatG l)[j]? = some u → w.cell? ⟨gb, j, none⟩ = some u) := hcl
        clear hcl
        obtain ⟨H, hH⟩ : ∃ H, H = wy.heap.size := ⟨_, rfl⟩
        have hxl : w.heap.size < H := by rw [hH]; exact HX.out.lt
        have HWB : Hid (Below H wy wy) := Below.refl _ _
        have H0 : Hid (OwnG wy H (.slice none 0 0) []) := OwnG.nil _ _
        have hBW : H ≤ wy.heap.size := by rw [hH]; exact Nat.le_refl _
        have hxc := HX.out.c
        have x0 := hxc 0 _ rfl
        have x1 := hxc 1 _ rfl
        have x2 := hxc 2 _ rfl
        have x3 := hxc 3 _ rfl
        have x4 := hxc 4 _ rfl
        have x5 := hxc 5 _ rfl
        have x6 := hxc 6 _ rfl
        have x7 := hxc 7 _ rfl
        have x8 := hxc 8 _ rfl
        have x9 := hxc 9 _ rfl
        have x10 := hxc 10 _ rfl
        have x11 := hxc 11 _ rfl
        clear hxc
        have hjn : j ≤ cap := by have h1 := HN.out; omega
        have hjz : (j : Int) ≤ (cap : Int) := by omega
        have hjp : 0 < j := by omega
        have HL1 : Hid ((l.take j).length = j) := (by rw [List.length_take, ← HN.out]; omega : (l.take j).length = j)
        have HN1 : Hid (∀ q u, (flatG (l.take j))[q]? = some u → wy.cell? ((⟨gb, 0, none⟩ : Addr).add q) = some u) := fun q u hu => by
          rw [addr_addG, Nat.zero_add]
          have h1 := flatG_piece (l := l) (f := 0) (m := j) (j := q) (u := u) (by rw [List.drop_zero]; exact hu)
          rw [Nat.zero_mul, Nat.zero_add] at h1
          exact (HB.out.cell (p := ⟨gb, q, none⟩) hgb).trans (HCL.out q u h1)
        go_wp2_with (first | (refine appGs rfl (.tmp 36) (.tmp 39) rfl H (.slice none 0 0) [] rfl H0 ⟨gb, 0, none⟩ j cap (l.take j) rfl HL1.out HN1 (by omega) j (by simp) (l.take j) (by simp) (by omega) hBW ?_; intro g1 c1 w1 HO1 _ HB1; have HE1 : Hid (Below H wy w1) := HB1.out; clear HB1 H0 HN1; have x0 := (HE1.out.cell (p := ⟨w.heap.size, 0, none⟩) hxl).trans x0; have x1 := (HE1.out.cell (p := ⟨w.heap.size, 1, none⟩) hxl).trans x1; have x2 := (HE1.out.cell (p := ⟨w.heap.size, 2, none⟩) hxl).trans x2; have x3 := (HE1.out.cell (p := ⟨w.heap.size, 3, none⟩) hxl).trans x3; have x4 := (HE1.out.cell (p := ⟨w.heap.size, 4, none⟩) hxl).trans x4; have x5 := (HE1.out.cell (p := ⟨w.heap.size, 5, none⟩) hxl).trans x5; have x6 := (HE1.out.cell (p := ⟨w.heap.size, 6, none⟩) hxl).trans x6; have x7 := (HE1.out.cell (p := ⟨w.heap.size, 7, none⟩) hxl).trans x7; have x8 := (HE1.out.cell (p := ⟨w.heap.size, 8, none⟩) hxl).trans x8; have x9 := (HE1.out.cell (p := ⟨w.heap.size, 9, none⟩) hxl).trans x9; have x10 := (HE1.out.cell (p := ⟨w.heap.size, 10, none⟩) hxl).trans x10; have x11 := (HE1.out.cell (p := ⟨w.heap.size, 11, none⟩) hxl).trans x11; have hBW1 : H ≤ w1.heap.size := Nat.le_trans hBW HE1.out.size; have HO1a : Hid (OwnG (w1.alloc (.cells #[.int .i64 x.t.k, .slice x.t.a x.t.len x.t.cap, .int .i64 x.t.n, .int .i64 x.t.s, .int .i64 x.u.k, .slice x.u.a x.u.len x.u.cap, .int .i64 x.u.n, .int .i64 x.u.s, .int .i64 x.v.k, .slice x.v.a x.v.len x.v.cap, .int .i64 x.v.n, .int .i64 x.v.s] 45)) H (.slice (some ⟨g1, 0, none⟩) j c1) (l.take j)) := HO1.out.below (bl_a _); have HNA : Hid (∀ q u, (flatG [x])[q]? = some u → (w1.alloc (.cells #[.int .i64 x.t.k, .slice x.t.a x.t.len x.t.cap, .int .i64 x.t.n, .int .i64 x.t.s, .int .i64 x.u.k, .slice x.u.a x.u.len x.u.cap, .int .i64 x.u.n, .int .i64 x.u.s, .int .i64 x.v.k, .slice x.v.a x.v.len x.v.cap, .int .i64 x.v.n, .int .i64 x.v.s] 45)).cell? ((⟨w1.heap.size, 0, none⟩ : Addr).add q) = some u) := fun q u hu => World.news_of_block (Go.heap_alloc_new _ _) q u (by simpa [flatG, eG, e12] using hu)) | (refine appGs rfl (.tmp 41) (.tmp 43) rfl H (.slice (some ⟨g1, 0, none⟩) j c1) (l.take j) rfl HO1a ⟨w1.heap.size, 0, none⟩ 1 1 [x] rfl rfl HNA (by omega) (j + 1) (by rw [HL1.out]) (l.take j ++ [x]) rfl (by omega) (by simp; omega) ?_; intro g2 c2 w2 HO2 _ HB2; have HE2 : Hid (Below H wy w2) := (HE1.out.trans (((bl_a _).mono hBW1).trans HB2.out)); clear HB2 HNA; have hBW2 : H ≤ w2.heap.size := Nat.le_trans hBW HE2.out.size) | (refine appG0 rfl (.tmp 45) (.tmp 48) rfl (some ⟨g2, 0, none⟩) (j + 1) c2 HO2.out.cap_le rfl _ _ rfl ?_))
        all_goals go_ret
        all_goals exact ⟨_, l.take j ++ [x], rfl, HO2.out.base (Nat.le_trans hB (Nat.le_of_lt hxl)), by first | (simp; done) | (simp; omega), fun y hy => by
          simp only [List.mem_append, List.mem_cons, List.not_mem_nil, or_false] at hy
          rcases hy with h | h
          · exact .inl (List.mem_of_mem_take h)
          · exact .inr h, HB.out.trans (HE2.out.mono (Nat.le_of_lt hxl))⟩
end Go.Proofs.YtiodiooaaojbhaaGreatDoor

/- KepA -/
namespace Go.Proofs.YtiodiooaaojbhaaGreatDoor
open Go.RowKit Go.Deep
set_option maxRecDepth 100000

/-- All blocks but p and the row are as they were. -/
structure Kept (p : Nat) (row : Option Nat) (w w' : World) : Prop where
  size : w.heap.size ≤ w'.heap.size
  block : ∀ b, b < w.heap.size → b ≠ p → some b ≠ row → w'.heap[b]? = w.heap[b]?
theorem Kept.drew0 (p : Nat) (row : Option Nat) (w : World) : Kept p row w w.drew := ⟨Nat.le_refl _, fun _ _ _ _ => rfl⟩
theorem Kept.refl (p : Nat) (row : Option Nat) (w : World) : Kept p row w w := ⟨Nat.le_refl _, fun _ _ _ _ => rfl⟩
theorem Kept.below {p : Nat} {row : Option Nat} {w w' w'' : World} (h : Kept p row w w') (hb : Below w'.heap.size w' w'') : Kept p row w w'' :=
  ⟨Nat.le_trans h.size hb.size, fun b h1 h2 h3 => (hb.block b (Nat.lt_of_lt_of_le h1 h.size)).trans (h.block b h1 h2 h3)⟩
theorem Kept.alloc {p : Nat} {row : Option Nat} {w w' : World} (h : Kept p row w w') (o : Obj) : Kept p row w (w'.alloc o) := h.below (bl_a o)
theorem Kept.grown {p : Nat} {row : Option Nat} {w w' w'' : World} (h : Kept p row w w') (hg : w'.grownBy w'' row) : Kept p row w w'' :=
  ⟨Nat.le_trans h.size hg.size, fun b h1 h2 h3 => (hg.block b (Nat.lt_of_lt_of_le h1 h.size) h3).trans (h.block b h1 h2 h3)⟩
theorem Kept.set {p : Nat} {row : Option Nat} {w w' : World} (h : Kept p row w w') (i : Nat) (v : Value) : Kept p row w (w'.setCell ⟨p, i, none⟩ v) :=
  ⟨by simpa [World.setCell] using h.size, fun b h1 h2 h3 => (Below.heap_setCell _ _ _ _ h2).trans (h.block b h1 h2 h3)⟩
theorem Kept.cell {p : Nat} {row : Option Nat} {w w' : World} (h : Kept p row w w') {b o : Nat} (h1 : b < w.heap.size) (h2 : b ≠ p) (h3 : some b ≠ row) : w'.cell? ⟨b, o, none⟩ = w.cell? ⟨b, o, none⟩ := World.cell?_of_block (w := w) (a := ⟨b, o, none⟩) (h.block b h1 h2 h3)

end Go.Proofs.YtiodiooaaojbhaaGreatDoor

/- GdrG -/
namespace Go.Proofs.YtiodiooaaojbhaaGreatDoor
open Go.RowKit Go.Deep
set_option maxRecDepth 100000

/-- A drawn triple whose texts lie from B on. -/
structure GX (w : World) (B : Nat) (y : G1) : Prop where
  t : DT w B w.heap.size y.t y.bt
  u : DT w B w.heap.size y.u y.bu
  v : DT w B w.heap.size y.v y.bv
  s : S3 y.t y.u y.v
theorem GX.past {w w' : World} {B c : Nat} {y : G1} (h : GX w B y) (hp : Past c w w') (hc : c < B) : GX w' B y :=
  ⟨(h.t.past hp (.inl hc)).mono (Nat.le_refl _) hp.size (Nat.le_refl _), (h.u.past hp (.inl hc)).mono (Nat.le_refl _) hp.size (Nat.le_refl _), (h.v.past hp (.inl hc)).mono (Nat.le_refl _) hp.size (Nat.le_refl _), h.s⟩
theorem GX.mono {w : World} {B B' : Nat} {y : G1} (h : GX w B y) (hB : B' ≤ B) : GX w B' y :=
  ⟨h.t.mono hB (Nat.le_refl _) (Nat.le_refl _), h.u.mono hB (Nat.le_refl _) (Nat.le_refl _), h.v.mono hB (Nat.le_refl _) (Nat.le_refl _), h.s⟩
theorem GX.below {w w' : World} {B : Nat} {y : G1} (h : GX w B y) (hb : Below w.heap.size w w') : GX w' B y :=
  ⟨(h.t.below hb).mono (Nat.le_refl _) hb.size (Nat.le_refl _), (h.u.below hb).mono (Nat.le_refl _) hb.size (Nat.le_refl _), (h.v.below hb).mono (Nat.le_refl _) hb.size (Nat.le_refl _), h.s⟩
theorem GX.gt {w : World} {B : Nat} {y : G1} (h : GX w B y) : GT w y := ⟨h.t.fit, h.u.fit, h.v.fit, h.s, h.t.bs, h.u.bs, h.v.bs⟩
theorem OwnG.slice {w : World} {B : Nat} {v : Value} {l : List G1} (h : OwnG w B v l) : ∃ a n c, v = .slice a n c := by
  rcases h.form with ⟨e, _⟩ | ⟨g, c, e, _⟩
  · exact ⟨_, _, _, e⟩
  · exact ⟨_, _, _, e⟩
theorem OwnG.one {w : World} {B : Nat} {v : Value} {l : List G1} (h : OwnG w B v l) : v.oneCell' = true := by
  obtain ⟨a, n, c, rfl⟩ := h.slice
  rfl
theorem OwnG.len {w : World} {B : Nat} {a : Option Addr} {n c : Nat} {l : List G1} (h : OwnG w B (.slice a n c) l) : n = l.length := by
  rcases h.form with ⟨e, rfl⟩ | ⟨g, c', e, _⟩
  · simp only [Value.slice.injEq] at e
    exact e.2.1
  · simp only [Value.slice.injEq] at e
    exact e.2.1
theorem kept_past {g p : Nat} {w w' : World} (h : Past g w.drew w') : Kept p (some g) w w' := ⟨h.size, fun b h1 _ h3 => h.block b h1 (fun e => h3 (by rw [e]))⟩
end Go.Proofs.YtiodiooaaojbhaaGreatDoor
