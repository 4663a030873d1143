/- Texts put together: LxM LxB -/
import Derived.Test.YtoclingolfdfeaaGreatDoorMk04
import Derived.Test.YtoclingolfdfeaaGreatDoorMk16
import Derived.Test.YtoclingolfdfeaaGreatDoorMk07
import Derived.Test.YtoclingolfdfeaaGreatDoorMk10
/- LxM -/
namespace Go.Proofs.YtoclingolfdfeaaGreatDoor
open Go.RowKit Go.Deep
set_option maxRecDepth 100000

/-- Where a triple is put. -/
def PutL (l : List G1) (x : G1) (l' : List G1) : Prop :=
  ∃ j, j ≤ l.length ∧ (∀ q y, q < j → l[q]? = some y → cmpD y.td3 x.td3 < 0) ∧ ((l' = l ∧ ∃ y, l[j]? = some y ∧ cmpD y.td3 x.td3 = 0) ∨ (l' = l.take j ++ x :: l.drop j ∧ ∀ y, l[j]? = some y → 0 < cmpD y.td3 x.td3))
/-- What l2put answers. -/
def PutS (w : World) (B : Nat) (l : List G1) (x : G1) (e : Ending) (w' : World) : Prop :=
  ∃ v' l', e = .returned v' ∧ OwnG w' B v' l' ∧ PutL l x l' ∧ Below w.heap.size w w'
theorem put_next {l : List G1} {x y : G1} {j : Nat} (h : ∀ q y, q < j → l[q]? = some y → cmpD y.td3 x.td3 < 0) (hy : l[j]? = some y) (hr : cmpD y.td3 x.td3 < 0) : ∀ q y, q < j + 1 → l[q]? = some y → cmpD y.td3 x.td3 < 0 := by
  intro q z hq hz
  by_cases e : q = j
  · subst e
    rw [hy] at hz
    cases hz
    exact hr
  · exact h q z (by omega) hz
set_option maxHeartbeats 8000000 in
theorem l2put_good (a : Option Addr) (cap : Nat) (l : List G1) (x : G1) (w : World) (B : Nat) (hl : l.length ≤ 1000) (HO0 : OwnG w B (.slice a l.length cap) l) (hB : B ≤ w.heap.size) (hD : ∀ y ∈ l, y.good ∧ y.lies w) (hx : x.good ∧ x.lies w) :
    Calls Tryz.prog 52 #[.slice a l.length cap, .agg (e12 x.t x.u x.v).toArray] w (PutS w B l x) := by
  have HOW : Hid (OwnG w B (.slice a l.length cap) l) := HO0
  have HCMP : Hid (∀ W y, y ∈ l → Below w.heap.size w W → Calls Tryz.prog 47 #[.agg (e12 y.t y.u y.v).toArray, .agg (e12 x.t x.u x.v).toArray] W fun e w' => e = .returned (.int .i64 (cmpD y.td3 x.td3)) ∧ Below W.heap.size W w') := fun W y hy hW => by
    obtain ⟨g1, l1⟩ := hD y hy
    obtain ⟨g2, l2⟩ := hx
    exact l2compare_any y.t y.u y.v x.t x.u x.v y.bt y.bu y.bv x.bt x.bu x.bv W g1.1 g1.2.1 g1.2.2.1 g2.1 g2.2.1 g2.2.2.1 g1.2.2.2 g2.2.2.2 (l1.1.below hW) (l1.2.1.below hW) (l1.2.2.below hW) (l2.1.below hW) (l2.2.1.below hW) (l2.2.2.below hW)
  have HFM : Hid (l = [] ∨ ∃ gb, a = some ⟨gb, 0, none⟩ ∧ gb < w.heap.size ∧ l.length ≤ cap ∧ ∀ j u, (flatG l)[j]? = some u → w.cell? ⟨gb, j, none⟩ = some u) := by
    show _ ∨ _
    rcases HO0.form with ⟨_, h⟩ | ⟨g, c, hv, _, h1, h2, h3⟩
    · exact .inl h
    · simp only [Value.slice.injEq] at hv
      obtain ⟨rfl, _, rfl⟩ := hv
      exact .inr ⟨g, rfl, h1, h2, h3⟩
  simp only [e12] at HCMP ⊢
  obtain ⟨n, hn⟩ : ∃ n, n = l.length := ⟨_, rfl⟩
  have HN : Hid (n = l.length) := hn
  rw [← hn] at hl HOW ⊢
  have HX0 := B12.new w x.t x.u x.v 36
  have HX0' : Hid (B12 (w.alloc (.cells #[.int .i64 x.t.k, .slice x.t.a x.t.len x.t.cap, .int .i64 x.t.n, .int .i64 x.t.s, .int .i64 x.u.k, .slice x.u.a x.u.len x.u.cap, .int .i64 x.u.n, .int .i64 x.u.s, .int .i64 x.v.k, .slice x.v.a x.v.len x.v.cap, .int .i64 x.v.n, .int .i64 x.v.s] 36)) w.heap.size x.t x.u x.v) := HX0
  clear HX0 HO0 hD hx hn
  go_enter Tryz.func52, Tryz.ntmps52
  go_wp2_with fail
  go_loopw [5] (fun i wr => ∃ j : Nat, j ≤ n ∧ i = .int .i64 j ∧ Hid (Below w.heap.size w wr) ∧ Hid (B12 wr w.heap.size x.t x.u x.v) ∧ Hid (∀ q y, q < j → l[q]? = some y → cmpD y.td3 x.td3 < 0)) (fun i _ => n - (intOf i).toNat)
  case atStart => exact ⟨0, Nat.zero_le _, rfl, bl_a _, HX0', fun q y h => (by omega)⟩
  case round =>
    obtain ⟨j, hj, rfl, HB, HX, HLT⟩ := hrel
    clear HX0'
    by_cases hlt : j < n
    · have hltz : (j : Int) < (n : Int) := by omega
      obtain ⟨y, hy⟩ : ∃ y, l[j]? = some y := ⟨_, List.getElem?_eq_getElem (by rw [← HN.out]; exact hlt)⟩
      have HY : Hid (l[j]? = some y) := hy
      clear hy
      obtain ⟨gb, rfl, hgb, hcap, hcl⟩ := HFM.out.resolve_left (fun e => by have h1 := HN.out; rw [e] at h1; simp at h1; omega)
      have HCL : Hid (∀ j u, (flatG l)[j]? = some u → w.cell? ⟨gb, j, none⟩ = some u) := hcl
      clear hcl
      have hcy := fun d os => flatG_cells (l := l) (w := Go.Sort.grow (redrawn wr d) os) (g := gb) (off := 0) (fun q u hu => by rw [Nat.zero_add]; exact ((bl_trans HB.out (bl_regrownG (w := wr) d os)).cell (p := ⟨gb, q, none⟩) hgb).trans (HCL.out q u hu)) HY.out
      have hcx := fun d os => (HX.out.below (bl_regrownG (w := wr) d os)).c
      have a0 := fun d os => hcy d os 0 _ rfl
      have a1 := fun d os => hcy d os 1 _ rfl
      have a2 := fun d os => hcy d os 2 _ rfl
      have a3 := fun d os => hcy d os 3 _ rfl
      have a4 := fun d os => hcy d os 4 _ rfl
      have a5 := fun d os => hcy d os 5 _ rfl
      have a6 := fun d os => hcy d os 6 _ rfl
      have a7 := fun d os => hcy d os 7 _ rfl
      have a8 := fun d os => hcy d os 8 _ rfl
      have a9 := fun d os => hcy d os 9 _ rfl
      have a10 := fun d os => hcy d os 10 _ rfl
      have a11 := fun d os => hcy d os 11 _ rfl
      have b0 := fun d os => hcx d os 0 _ rfl
      have b1 := fun d os => hcx d os 1 _ rfl
      have b2 := fun d os => hcx d os 2 _ rfl
      have b3 := fun d os => hcx d os 3 _ rfl
      have b4 := fun d os => hcx d os 4 _ rfl
      have b5 := fun d os => hcx d os 5 _ rfl
      have b6 := fun d os => hcx d os 6 _ rfl
      have b7 := fun d os => hcx d os 7 _ rfl
      have b8 := fun d os => hcx d os 8 _ rfl
      have b9 := fun d os => hcx d os 9 _ rfl
      have b10 := fun d os => hcx d os 10 _ rfl
      have b11 := fun d os => hcx d os 11 _ rfl
      simp only [Nat.zero_add, Nat.add_zero] at a0 a1 a2 a3 a4 a5 a6 a7 a8 a9 a10 a11
      have C := fun d os => Calls.regrown_of (HCMP.out (Go.Sort.grow (redrawn wr d) os) y (List.mem_of_getElem? HY.out) (bl_trans HB.out (bl_regrownG (w := wr) d os)))
      clear hcy hcx
      obtain ⟨r, hr⟩ : ∃ r, r = cmpD y.td3 x.td3 := ⟨_, rfl⟩
      have HRR : Hid (r = cmpD y.td3 x.td3) := hr
      rw [← hr] at C
      clear hr
      go_wp2_with fail
      refine wp_region_quiet_below (by kernel_rfl) (by kernel_rfl) ?_
      quiet_step (fail)
      quiet_step (fail)
      quiet_step (fail)
      quiet_step (fail)
      quiet_step (fail)
      quiet_step (fail)
      quiet_step (fail)
      quiet_step (fail)
      quiet_step (fail)
      quiet_step (fail)
      quiet_step (exact C _ _)
      quiet_step (fail)
      quiet_step (fail)
      refine wpQuiet_nil ?_
      intro _ hw'
      obtain ⟨⟨dq, osq⟩, hw''⟩ := hw'
      subst hw''
      have HBwz : Hid (Below w.heap.size w (Go.Sort.grow (redrawn wr dq) osq)) := bl_trans HB.out (bl_regrownG (w := wr) dq osq)
      have HXwz : Hid (B12 (Go.Sort.grow (redrawn wr dq) osq) w.heap.size x.t x.u x.v) := HX.out.below (bl_regrownG (w := wr) dq osq)
      dsimp only
      generalize Go.Sort.grow (redrawn wr dq) osq = wz at *
      clear C a0 b0 a1 b1 a2 b2 a3 b3 a4 b4 a5 b5 a6 b6 a7 b7 a8 b8 a9 b9 a10 b10 a11 b11 HB HX
      by_cases hr0 : r < 0
      · go_wp2_with fail
        go_roundw
        case rel => exact ⟨j + 1, by omega, by go_num, HBwz, HXwz, put_next HLT.out HY.out (by rw [← HRR.out]; exact hr0)⟩
        case measure => simp [intOf]; omega
      · have HPE : Hid (r = 0 → PutL l x l) := fun h => ⟨j, by have h1 := HN.out; omega, HLT.out, .inl ⟨rfl, y, HY.out, by rw [← HRR.out]; exact h⟩⟩
        have HPZ : Hid (r ≠ 0 → ∀ zs, zs = l.take j ++ x :: l.drop j → PutL l x zs) := fun h zs hz => ⟨j, by have h1 := HN.out; omega, HLT.out, .inr ⟨hz, fun z hz => by
          rw [HY.out] at hz
          cases hz
          rw [← HRR.out]
          omega⟩⟩
        have HB : Hid _ := HBwz
        have HX : Hid _ := HXwz
        clear HBwz HXwz
        have hcy := fun d os => flatG_cells (l := l) (w := Go.Sort.grow (redrawn wz d) os) (g := gb) (off := 0) (fun q u hu => by rw [Nat.zero_add]; exact ((bl_trans HB.out (bl_regrownG (w := wz) d os)).cell (p := ⟨gb, q, none⟩) hgb).trans (HCL.out q u hu)) HY.out
        have hcx := fun d os => (HX.out.below (bl_regrownG (w := wz) d os)).c
        have a0 := fun d os => hcy d os 0 _ rfl
        have a1 := fun d os => hcy d os 1 _ rfl
        have a2 := fun d os => hcy d os 2 _ rfl
        have a3 := fun d os => hcy d os 3 _ rfl
        have a4 := fun d os => hcy d os 4 _ rfl
        have a5 := fun d os => hcy d os 5 _ rfl
        have a6 := fun d os => hcy d os 6 _ rfl
        have a7 := fun d os => hcy d os 7 _ rfl
        have a8 := fun d os => hcy d os 8 _ rfl
        have a9 := fun d os => hcy d os 9 _ rfl
        have a10 := fun d os => hcy d os 10 _ rfl
        have a11 := fun d os => hcy d os 11 _ rfl
        have b0 := fun d os => hcx d os 0 _ rfl
        have b1 := fun d os => hcx d os 1 _ rfl
        have b2 := fun d os => hcx d os 2 _ rfl
        have b3 := fun d os => hcx d os 3 _ rfl
        have b4 := fun d os => hcx d os 4 _ rfl
        have b5 := fun d os => hcx d os 5 _ rfl
        have b6 := fun d os => hcx d os 6 _ rfl
        have b7 := fun d os => hcx d os 7 _ rfl
        have b8 := fun d os => hcx d os 8 _ rfl
        have b9 := fun d os => hcx d os 9 _ rfl
        have b10 := fun d os => hcx d os 10 _ rfl
        have b11 := fun d os => hcx d os 11 _ rfl
        simp only [Nat.zero_add, Nat.add_zero] at a0 a1 a2 a3 a4 a5 a6 a7 a8 a9 a10 a11
        have C := fun d os => Calls.regrown_of (HCMP.out (Go.Sort.grow (redrawn wz d) os) y (List.mem_of_getElem? HY.out) (bl_trans HB.out (bl_regrownG (w := wz) d os)))
        clear hcy hcx
        rw [← HRR.out] at C
        go_wp2_with fail
        refine wp_region_quiet_below (by kernel_rfl) (by kernel_rfl) ?_
        quiet_step (fail)
        quiet_step (fail)
        quiet_step (fail)
        quiet_step (fail)
        quiet_step (fail)
        quiet_step (fail)
        quiet_step (fail)
        quiet_step (fail)
        quiet_step (fail)
        quiet_step (fail)
        quiet_step (exact C _ _)
        quiet_step (fail)
        quiet_step (fail)
        refine wpQuiet_nil ?_
        intro _ hw'
        obtain ⟨⟨dq, osq⟩, hw''⟩ := hw'
        subst hw''
        have HBwy : Hid (Below w.heap.size w (Go.Sort.grow (redrawn wz dq) osq)) := bl_trans HB.out (bl_regrownG (w := wz) dq osq)
        have HXwy : Hid (B12 (Go.Sort.grow (redrawn wz dq) osq) w.heap.size x.t x.u x.v) := HX.out.below (bl_regrownG (w := wz) dq osq)
        dsimp only
        generalize Go.Sort.grow (redrawn wz dq) osq = wy at *
        clear C a0 b0 a1 b1 a2 b2 a3 b3 a4 b4 a5 b5 a6 b6 a7 b7 a8 b8 a9 b9 a10 b10 a11 b11 HB HX
        have HB : Hid _ := HBwy
        have HX : Hid _ := HXwy
        clear HBwy HXwy
        by_cases hre : r = 0
        · go_wp2_with fail
          go_ret
          exact ⟨_, l, rfl, HOW.out.below HB.out, HPE.out hre, HB.out⟩
        · by_cases hj0 : j = 0
          · subst hj0
            obtain ⟨H, hH⟩ : ∃ H, H = wy.heap.size := ⟨_, rfl⟩
            have hxl : w.heap.size < H := by rw [hH]; exact HX.out.lt
            have HWB : Hid (Below H wy wy) := Below.refl _ _
            have H0 : Hid (OwnG wy H (.slice none 0 0) []) := OwnG.nil _ _
            have hBW : H ≤ wy.heap.size := by rw [hH]; exact Nat.le_refl _
            have hxc := HX.out.c
            have x0 := hxc 0 _ rfl
            have x1 := hxc 1 _ rfl
            have x2 := hxc 2 _ rfl
            have x3 := hxc 3 _ rfl
            have x4 := hxc 4 _ rfl
            have x5 := hxc 5 _ rfl
            have x6 := hxc 6 _ rfl
            have x7 := hxc 7 _ rfl
            have x8 := hxc 8 _ rfl
            have x9 := hxc 9 _ rfl
            have x10 := hxc 10 _ rfl
            have x11 := hxc 11 _ rfl
            clear hxc
            have HO1a : Hid (OwnG (wy.alloc (.cells #[.int .i64 x.t.k, .slice x.t.a x.t.len x.t.cap, .int .i64 x.t.n, .int .i64 x.t.s, .int .i64 x.u.k, .slice x.u.a x.u.len x.u.cap, .int .i64 x.u.n, .int .i64 x.u.s, .int .i64 x.v.k, .slice x.v.a x.v.len x.v.cap, .int .i64 x.v.n, .int .i64 x.v.s] 36)) H (.slice none 0 0) []) := H0.out.below (bl_a _)
            have HNA : Hid (∀ q u, (flatG [x])[q]? = some u → (wy.alloc (.cells #[.int .i64 x.t.k, .slice x.t.a x.t.len x.t.cap, .int .i64 x.t.n, .int .i64 x.t.s, .int .i64 x.u.k, .slice x.u.a x.u.len x.u.cap, .int .i64 x.u.n, .int .i64 x.u.s, .int .i64 x.v.k, .slice x.v.a x.v.len x.v.cap, .int .i64 x.v.n, .int .i64 x.v.s] 36)).cell? ((⟨wy.heap.size, 0, none⟩ : Addr).add q) = some u) := fun q u hu => World.news_of_block (Go.heap_alloc_new _ _) q u (by simpa [flatG, eG, e12] using hu)
            have hBW0 : wy.heap.size ≤ H := by rw [hH]; exact Nat.le_refl _
            have HL3 : Hid (l.length = n) := HN.out.symm
            go_wp2_with (first | (refine appG0 rfl (.tmp 36) (.tmp 39) rfl none 0 0 (Nat.le_refl _) rfl _ _ rfl ?_) | (refine appGs rfl (.tmp 41) (.tmp 43) rfl H (.slice none 0 0) [] rfl HO1a ⟨wy.heap.size, 0, none⟩ 1 1 [x] rfl rfl HNA (by omega) 1 (by simp) [x] rfl (by omega) (by simp; omega) ?_; intro g2 c2 w2 HO2 _ HB2; have HE2 : Hid (Below H wy w2) := (HWB.out.trans (((bl_a _).mono hBW).trans HB2.out)); clear HB2 HNA; have hBW2 : H ≤ w2.heap.size := Nat.le_trans hBW HE2.out.size; have HN3 : Hid (∀ q u, (flatG l)[q]? = some u → w2.cell? ((⟨gb, 0, none⟩ : Addr).add q) = some u) := fun q u hu => by rw [addr_addG, Nat.zero_add]; exact (HE2.out.cell (p := ⟨gb, q, none⟩) (Nat.lt_of_lt_of_le hgb (Nat.le_trans HB.out.size hBW0))).trans ((HB.out.cell (p := ⟨gb, q, none⟩) hgb).trans (HCL.out _ u hu))) | (refine appGs rfl (.tmp 45) (.tmp 48) rfl H (.slice (some ⟨g2, 0, none⟩) 1 c2) [x] rfl HO2 ⟨gb, 0, none⟩ n cap l rfl HL3.out HN3 (by omega) (1 + n) (rfl) ([x] ++ l) rfl (by omega) hBW2 ?_; intro g3 c3 w3 HO3 _ HB3))
            all_goals go_ret
            all_goals exact ⟨_, [x] ++ l, rfl, HO3.out.base (Nat.le_trans hB (Nat.le_of_lt hxl)), HPZ.out hre _ (by simp), HB.out.trans ((HE2.out.mono (Nat.le_of_lt hxl)).trans (HB3.out.mono (Nat.le_of_lt hxl)))⟩
          · skip
            obtain ⟨H, hH⟩ : ∃ H, H = wy.heap.size := ⟨_, rfl⟩
            have hxl : w.heap.size < H := by rw [hH]; exact HX.out.lt
            have HWB : Hid (Below H wy wy) := Below.refl _ _
            have H0 : Hid (OwnG wy H (.slice none 0 0) []) := OwnG.nil _ _
            have hBW : H ≤ wy.heap.size := by rw [hH]; exact Nat.le_refl _
            have hxc := HX.out.c
            have x0 := hxc 0 _ rfl
            have x1 := hxc 1 _ rfl
            have x2 := hxc 2 _ rfl
            have x3 := hxc 3 _ rfl
            have x4 := hxc 4 _ rfl
            have x5 := hxc 5 _ rfl
            have x6 := hxc 6 _ rfl
            have x7 := hxc 7 _ rfl
            have x8 := hxc 8 _ rfl
            have x9 := hxc 9 _ rfl
            have x10 := hxc 10 _ rfl
            have x11 := hxc 11 _ rfl
            clear hxc
            have hjn : j ≤ cap := by have h1 := HN.out; omega
            have hjz : (j : Int) ≤ (cap : Int) := by omega
            have hjp : 0 < j := by omega
            have hjc : ¬ j = cap := by have h1 := HN.out; omega
            have HL1 : Hid ((l.take j).length = j) := (by rw [List.length_take, ← HN.out]; omega : (l.take j).length = j)
            have HN1 : Hid (∀ q u, (flatG (l.take j))[q]? = some u → wy.cell? ((⟨gb, 0, none⟩ : Addr).add q) = some u) := fun q u hu => by
              rw [addr_addG, Nat.zero_add]
              have h1 := flatG_piece (l := l) (f := 0) (m := j) (j := q) (u := u) (by rw [List.drop_zero]; exact hu)
              rw [Nat.zero_mul, Nat.zero_add] at h1
              exact (HB.out.cell (p := ⟨gb, q, none⟩) hgb).trans (HCL.out q u h1)
            have hBW0 : wy.heap.size ≤ H := by rw [hH]; exact Nat.le_refl _
            have HL3 : Hid ((l.drop j).length = n - j) := (by rw [List.length_drop, ← HN.out] : (l.drop j).length = n - j)
            go_wp2_with (first | (refine appGs rfl (.tmp 36) (.tmp 39) rfl H (.slice none 0 0) [] rfl H0 ⟨gb, 0, none⟩ j cap (l.take j) rfl HL1.out HN1 (by omega) j (by simp) (l.take j) (by simp) (by omega) hBW ?_; intro g1 c1 w1 HO1 _ HB1; have HE1 : Hid (Below H wy w1) := HB1.out; clear HB1 H0 HN1; have x0 := (HE1.out.cell (p := ⟨w.heap.size, 0, none⟩) hxl).trans x0; have x1 := (HE1.out.cell (p := ⟨w.heap.size, 1, none⟩) hxl).trans x1; have x2 := (HE1.out.cell (p := ⟨w.heap.size, 2, none⟩) hxl).trans x2; have x3 := (HE1.out.cell (p := ⟨w.heap.size, 3, none⟩) hxl).trans x3; have x4 := (HE1.out.cell (p := ⟨w.heap.size, 4, none⟩) hxl).trans x4; have x5 := (HE1.out.cell (p := ⟨w.heap.size, 5, none⟩) hxl).trans x5; have x6 := (HE1.out.cell (p := ⟨w.heap.size, 6, none⟩) hxl).trans x6; have x7 := (HE1.out.cell (p := ⟨w.heap.size, 7, none⟩) hxl).trans x7; have x8 := (HE1.out.cell (p := ⟨w.heap.size, 8, none⟩) hxl).trans x8; have x9 := (HE1.out.cell (p := ⟨w.heap.size, 9, none⟩) hxl).trans x9; have x10 := (HE1.out.cell (p := ⟨w.heap.size, 10, none⟩) hxl).trans x10; have x11 := (HE1.out.cell (p := ⟨w.heap.size, 11, none⟩) hxl).trans x11; have hBW1 : H ≤ w1.heap.size := Nat.le_trans hBW HE1.out.size; have HO1a : Hid (OwnG (w1.alloc (.cells #[.int .i64 x.t.k, .slice x.t.a x.t.len x.t.cap, .int .i64 x.t.n, .int .i64 x.t.s, .int .i64 x.u.k, .slice x.u.a x.u.len x.u.cap, .int .i64 x.u.n, .int .i64 x.u.s, .int .i64 x.v.k, .slice x.v.a x.v.len x.v.cap, .int .i64 x.v.n, .int .i64 x.v.s] 36)) H (.slice (some ⟨g1, 0, none⟩) j c1) (l.take j)) := HO1.out.below (bl_a _); have HNA : Hid (∀ q u, (flatG [x])[q]? = some u → (w1.alloc (.cells #[.int .i64 x.t.k, .slice x.t.a x.t.len x.t.cap, .int .i64 x.t.n, .int .i64 x.t.s, .int .i64 x.u.k, .slice x.u.a x.u.len x.u.cap, .int .i64 x.u.n, .int .i64 x.u.s, .int .i64 x.v.k, .slice x.v.a x.v.len x.v.cap, .int .i64 x.v.n, .int .i64 x.v.s] 36)).cell? ((⟨w1.heap.size, 0, none⟩ : Addr).add q) = some u) := fun q u hu => World.news_of_block (Go.heap_alloc_new _ _) q u (by simpa [flatG, eG, e12] using hu)) | (refine appGs rfl (.tmp 41) (.tmp 43) rfl H (.slice (some ⟨g1, 0, none⟩) j c1) (l.take j) rfl HO1a ⟨w1.heap.size, 0, none⟩ 1 1 [x] rfl rfl HNA (by omega) (j + 1) (by rw [HL1.out]) (l.take j ++ [x]) rfl (by omega) (by simp; omega) ?_; intro g2 c2 w2 HO2 _ HB2; have HE2 : Hid (Below H wy w2) := (HE1.out.trans (((bl_a _).mono hBW1).trans HB2.out)); clear HB2 HNA; have hBW2 : H ≤ w2.heap.size := Nat.le_trans hBW HE2.out.size; have HN3 : Hid (∀ q u, (flatG (l.drop j))[q]? = some u → w2.cell? ((⟨gb, j * 12, none⟩ : Addr).add q) = some u) := fun q u hu => by rw [addr_addG]; exact (HE2.out.cell (p := ⟨gb, j * 12 + q, none⟩) (Nat.lt_of_lt_of_le hgb (Nat.le_trans HB.out.size hBW0))).trans ((HB.out.cell (p := ⟨gb, j * 12 + q, none⟩) hgb).trans (HCL.out _ u (flatG_piece (l := l) (f := j) (m := l.length) (by rw [List.take_of_length_le (by rw [List.length_drop]; omega)]; exact hu))))) | (refine appGs rfl (.tmp 45) (.tmp 48) rfl H (.slice (some ⟨g2, 0, none⟩) (j + 1) c2) (l.take j ++ [x]) rfl HO2 ⟨gb, j * 12, none⟩ (n - j) (cap - j) (l.drop j) rfl HL3.out HN3 (by omega) ((j + 1) + (n - j)) ((by rw [List.length_append, HL1.out]; rfl)) ((l.take j ++ [x]) ++ l.drop j) rfl (by omega) hBW2 ?_; intro g3 c3 w3 HO3 _ HB3))
            all_goals go_ret
            all_goals exact ⟨_, l.take j ++ [x] ++ l.drop j, rfl, HO3.out.base (Nat.le_trans hB (Nat.le_of_lt hxl)), HPZ.out hre _ (by simp), HB.out.trans ((HE2.out.mono (Nat.le_of_lt hxl)).trans (HB3.out.mono (Nat.le_of_lt hxl)))⟩
    · obtain rfl : j = n := by omega
      have hltz : ¬ (j : Int) < (j : Int) := by omega
      have HPZ : Hid (∀ zs, zs = l.take j ++ [x] → PutL l x zs) := fun zs hz => ⟨j, by have h1 := HN.out; omega, HLT.out, .inr ⟨by rw [hz, List.drop_eq_nil_of_le (by have h1 := HN.out; omega)], fun z hz => by
        rw [List.getElem?_eq_none (by have h1 := HN.out; omega)] at hz
        cases hz⟩⟩
      go_wp2_with fail
      refine wp_region_held_drew (S := fun w' => Below wr.heap.size wr w') (by kernel_rfl) ?_ (fun hHeld => ?_)
      · exact Below.drew (Below.refl _ _)
      refine take_at (i := 0) 7 (v := ?v1) rfl rfl (by kernel_rfl) (by kernel_rfl) (by kernel_rfl) (fun _ _ _ h => h) (Or.inl ⟨by rfl, ?y1⟩) hHeld ?r1
      case y1 => (intro w' hSw; skip; go_simp; (try with_reducible rfl))
      try simp only [Act.put, List.setIfInBounds_toArray, List.set_cons_zero, List.set_cons_succ]
      refine take_at (i := 1) 8 (v := ?v2) rfl rfl (by kernel_rfl) (by kernel_rfl) (by kernel_rfl) (fun _ _ _ h => h) (Or.inl ⟨by rfl, ?y2⟩) hHeld ?r2
      case y2 => (intro w' hSw; skip; go_simp; (try with_reducible rfl))
      try simp only [Act.put, List.setIfInBounds_toArray, List.set_cons_zero, List.set_cons_succ]
      refine take_at (i := 2) 9 (v := ?v3) rfl rfl (by kernel_rfl) (by kernel_rfl) (by kernel_rfl) (fun _ _ _ h => h) (Or.inl ⟨by rfl, ?y3⟩) hHeld ?r3
      case y3 => (intro w' hSw; skip; go_simp; (try with_reducible rfl))
      try simp only [Act.put, List.setIfInBounds_toArray, List.set_cons_zero, List.set_cons_succ]
      refine take_at (i := 3) 10 (v := ?v4) rfl rfl (by kernel_rfl) (by kernel_rfl) (by kernel_rfl) (fun _ _ _ h => h) (Or.inl ⟨by rfl, ?y4⟩) hHeld ?r4
      case y4 => (intro w' hSw; skip; go_simp; (try with_reducible rfl))
      try simp only [Act.put, List.setIfInBounds_toArray, List.set_cons_zero, List.set_cons_succ]
      refine take_at (i := 4) 11 (v := ?v5) rfl rfl (by kernel_rfl) (by kernel_rfl) (by kernel_rfl) (fun _ _ _ h => h) (Or.inl ⟨by rfl, ?y5⟩) hHeld ?r5
      case y5 => (intro w' hSw; skip; go_simp; (try with_reducible rfl))
      try simp only [Act.put, List.setIfInBounds_toArray, List.set_cons_zero, List.set_cons_succ]
      refine take_at (i := 5) 12 (v := undef) rfl rfl (by kernel_rfl) (by kernel_rfl) (by kernel_rfl) (fun _ _ _ h => h) (Or.inr ⟨by rfl, rfl⟩) hHeld ?_
      try simp only [Act.put, List.setIfInBounds_toArray, List.set_cons_zero, List.set_cons_succ]
      refine take_at (i := 6) 13 (v := undef) rfl rfl (by kernel_rfl) (by kernel_rfl) (by kernel_rfl) (fun _ _ _ h => h) (Or.inr ⟨by rfl, rfl⟩) hHeld ?_
      try simp only [Act.put, List.setIfInBounds_toArray, List.set_cons_zero, List.set_cons_succ]
      refine take_at (i := 7) 14 (v := undef) rfl rfl (by kernel_rfl) (by kernel_rfl) (by kernel_rfl) (fun _ _ _ h => h) (Or.inr ⟨by rfl, rfl⟩) hHeld ?_
      try simp only [Act.put, List.setIfInBounds_toArray, List.set_cons_zero, List.set_cons_succ]
      refine take_at (i := 8) 15 (v := undef) rfl rfl (by kernel_rfl) (by kernel_rfl) (by kernel_rfl) (fun _ _ _ h => h) (Or.inr ⟨by rfl, rfl⟩) hHeld ?_
      try simp only [Act.put, List.setIfInBounds_toArray, List.set_cons_zero, List.set_cons_succ]
      refine take_at (i := 9) 16 (v := undef) rfl rfl (by kernel_rfl) (by kernel_rfl) (by kernel_rfl) (fun _ _ _ h => h) (Or.inr ⟨by rfl, rfl⟩) hHeld ?_
      try simp only [Act.put, List.setIfInBounds_toArray, List.set_cons_zero, List.set_cons_succ]
      refine take_at (i := 10) 17 (v := undef) rfl rfl (by kernel_rfl) (by kernel_rfl) (by kernel_rfl) (fun _ _ _ h => h) (Or.inr ⟨by rfl, rfl⟩) hHeld ?_
      try simp only [Act.put, List.setIfInBounds_toArray, List.set_cons_zero, List.set_cons_succ]
      refine take_at (i := 11) 18 (v := undef) rfl rfl (by kernel_rfl) (by kernel_rfl) (by kernel_rfl) (fun _ _ _ h => h) (Or.inr ⟨by rfl, rfl⟩) hHeld ?_
      try simp only [Act.put, List.setIfInBounds_toArray, List.set_cons_zero, List.set_cons_succ]
      refine take_at (i := 12) 19 (v := ?v6) rfl rfl (by kernel_rfl) (by kernel_rfl) (by kernel_rfl) (fun _ _ _ h => h) (Or.inl ⟨by rfl, ?y6⟩) hHeld ?r6
      case y6 => (intro w' hSw; skip; go_simp; (try with_reducible rfl))
      try simp only [Act.put, List.setIfInBounds_toArray, List.set_cons_zero, List.set_cons_succ]
      refine wpAnyH_done (by kernel_rfl) ?_ _
      have HBwz : Hid (Below w.heap.size w wr.drew) := Below.drew HB.out
      have HXwz : Hid (B12 wr.drew w.heap.size x.t x.u x.v) := HX.out.below (Below.drew (Below.refl _ _))
      clear hHeld
      generalize wr.drew = wz at *
      have HB : Hid _ := HBwz
      have HX : Hid _ := HXwz
      clear HBwz HXwz
      go_wp2_with fail
      refine wp_region_held_drew (S := fun w' => Below wz.heap.size wz w') (by kernel_rfl) ?_ (fun hHeld => ?_)
      · exact Below.drew (Below.refl _ _)
      refine take_at (i := 0) 22 (v := ?v7) rfl rfl (by kernel_rfl) (by kernel_rfl) (by kernel_rfl) (fun _ _ _ h => h) (Or.inl ⟨by rfl, ?y7⟩) hHeld ?r7
      case y7 => (intro w' hSw; skip; go_simp; (try with_reducible rfl))
      try simp only [Act.put, List.setIfInBounds_toArray, List.set_cons_zero, List.set_cons_succ]
      refine take_at (i := 1) 23 (v := ?v8) rfl rfl (by kernel_rfl) (by kernel_rfl) (by kernel_rfl) (fun _ _ _ h => h) (Or.inl ⟨by rfl, ?y8⟩) hHeld ?r8
      case y8 => (intro w' hSw; skip; go_simp; (try with_reducible rfl))
      try simp only [Act.put, List.setIfInBounds_toArray, List.set_cons_zero, List.set_cons_succ]
      refine take_at (i := 2) 24 (v := ?v9) rfl rfl (by kernel_rfl) (by kernel_rfl) (by kernel_rfl) (fun _ _ _ h => h) (Or.inl ⟨by rfl, ?y9⟩) hHeld ?r9
      case y9 => (intro w' hSw; skip; go_simp; (try with_reducible rfl))
      try simp only [Act.put, List.setIfInBounds_toArray, List.set_cons_zero, List.set_cons_succ]
      refine take_at (i := 3) 25 (v := ?v10) rfl rfl (by kernel_rfl) (by kernel_rfl) (by kernel_rfl) (fun _ _ _ h => h) (Or.inl ⟨by rfl, ?y10⟩) hHeld ?r10
      case y10 => (intro w' hSw; skip; go_simp; (try with_reducible rfl))
      try simp only [Act.put, List.setIfInBounds_toArray, List.set_cons_zero, List.set_cons_succ]
      refine take_at (i := 4) 26 (v := ?v11) rfl rfl (by kernel_rfl) (by kernel_rfl) (by kernel_rfl) (fun _ _ _ h => h) (Or.inl ⟨by rfl, ?y11⟩) hHeld ?r11
      case y11 => (intro w' hSw; skip; go_simp; (try with_reducible rfl))
      try simp only [Act.put, List.setIfInBounds_toArray, List.set_cons_zero, List.set_cons_succ]
      refine take_at (i := 5) 27 (v := undef) rfl rfl (by kernel_rfl) (by kernel_rfl) (by kernel_rfl) (fun _ _ _ h => h) (Or.inr ⟨by rfl, rfl⟩) hHeld ?_
      try simp only [Act.put, List.setIfInBounds_toArray, List.set_cons_zero, List.set_cons_succ]
      refine take_at (i := 6) 28 (v := undef) rfl rfl (by kernel_rfl) (by kernel_rfl) (by kernel_rfl) (fun _ _ _ h => h) (Or.inr ⟨by rfl, rfl⟩) hHeld ?_
      try simp only [Act.put, List.setIfInBounds_toArray, List.set_cons_zero, List.set_cons_succ]
      refine take_at (i := 7) 29 (v := undef) rfl rfl (by kernel_rfl) (by kernel_rfl) (by kernel_rfl) (fun _ _ _ h => h) (Or.inr ⟨by rfl, rfl⟩) hHeld ?_
      try simp only [Act.put, List.setIfInBounds_toArray, List.set_cons_zero, List.set_cons_succ]
      refine take_at (i := 8) 30 (v := undef) rfl rfl (by kernel_rfl) (by kernel_rfl) (by kernel_rfl) (fun _ _ _ h => h) (Or.inr ⟨by rfl, rfl⟩) hHeld ?_
      try simp only [Act.put, List.setIfInBounds_toArray, List.set_cons_zero, List.set_cons_succ]
      refine take_at (i := 9) 31 (v := undef) rfl rfl (by kernel_rfl) (by kernel_rfl) (by kernel_rfl) (fun _ _ _ h => h) (Or.inr ⟨by rfl, rfl⟩) hHeld ?_
      try simp only [Act.put, List.setIfInBounds_toArray, List.set_cons_zero, List.set_cons_succ]
      refine take_at (i := 10) 32 (v := undef) rfl rfl (by kernel_rfl) (by kernel_rfl) (by kernel_rfl) (fun _ _ _ h => h) (Or.inr ⟨by rfl, rfl⟩) hHeld ?_
      try simp only [Act.put, List.setIfInBounds_toArray, List.set_cons_zero, List.set_cons_succ]
      refine take_at (i := 11) 33 (v := undef) rfl rfl (by kernel_rfl) (by kernel_rfl) (by kernel_rfl) (fun _ _ _ h => h) (Or.inr ⟨by rfl, rfl⟩) hHeld ?_
      try simp only [Act.put, List.setIfInBounds_toArray, List.set_cons_zero, List.set_cons_succ]
      refine take_at (i := 12) 34 (v := ?v12) rfl rfl (by kernel_rfl) (by kernel_rfl) (by kernel_rfl) (fun _ _ _ h => h) (Or.inl ⟨by rfl, ?y12⟩) hHeld ?r12
      case y12 => (intro w' hSw; skip; go_simp; (try with_reducible rfl))
      try simp only [Act.put, List.setIfInBounds_toArray, List.set_cons_zero, List.set_cons_succ]
      refine wpAnyH_done (by kernel_rfl) ?_ _
      have HBwy : Hid (Below w.heap.size w wz.drew) := Below.drew HB.out
      have HXwy : Hid (B12 wz.drew w.heap.size x.t x.u x.v) := HX.out.below (Below.drew (Below.refl _ _))
      clear hHeld
      generalize wz.drew = wy at *
      have HB : Hid _ := HBwy
      have HX : Hid _ := HXwy
      clear HBwy HXwy
      by_cases hj0 : j = 0
      · subst hj0
        obtain ⟨H, hH⟩ : ∃ H, H = wy.heap.size := ⟨_, rfl⟩
        have hxl : w.heap.size < H := by rw [hH]; exact HX.out.lt
        have HWB : Hid (Below H wy wy) := Below.refl _ _
        have H0 : Hid (OwnG wy H (.slice none 0 0) []) := OwnG.nil _ _
        have hBW : H ≤ wy.heap.size := by rw [hH]; exact Nat.le_refl _
        have hxc := HX.out.c
        have x0 := hxc 0 _ rfl
        have x1 := hxc 1 _ rfl
        have x2 := hxc 2 _ rfl
        have x3 := hxc 3 _ rfl
        have x4 := hxc 4 _ rfl
        have x5 := hxc 5 _ rfl
        have x6 := hxc 6 _ rfl
        have x7 := hxc 7 _ rfl
        have x8 := hxc 8 _ rfl
        have x9 := hxc 9 _ rfl
        have x10 := hxc 10 _ rfl
        have x11 := hxc 11 _ rfl
        clear hxc
        have HO1a : Hid (OwnG (wy.alloc (.cells #[.int .i64 x.t.k, .slice x.t.a x.t.len x.t.cap, .int .i64 x.t.n, .int .i64 x.t.s, .int .i64 x.u.k, .slice x.u.a x.u.len x.u.cap, .int .i64 x.u.n, .int .i64 x.u.s, .int .i64 x.v.k, .slice x.v.a x.v.len x.v.cap, .int .i64 x.v.n, .int .i64 x.v.s] 36)) H (.slice none 0 0) []) := H0.out.below (bl_a _)
        have HNA : Hid (∀ q u, (flatG [x])[q]? = some u → (wy.alloc (.cells #[.int .i64 x.t.k, .slice x.t.a x.t.len x.t.cap, .int .i64 x.t.n, .int .i64 x.t.s, .int .i64 x.u.k, .slice x.u.a x.u.len x.u.cap, .int .i64 x.u.n, .int .i64 x.u.s, .int .i64 x.v.k, .slice x.v.a x.v.len x.v.cap, .int .i64 x.v.n, .int .i64 x.v.s] 36)).cell? ((⟨wy.heap.size, 0, none⟩ : Addr).add q) = some u) := fun q u hu => World.news_of_block (Go.heap_alloc_new _ _) q u (by simpa [flatG, eG, e12] using hu)
        go_wp2_with (first | (refine appG0 rfl (.tmp 36) (.tmp 39) rfl none 0 0 (Nat.le_refl _) rfl _ _ rfl ?_) | (refine appGs rfl (.tmp 41) (.tmp 43) rfl H (.slice none 0 0) [] rfl HO1a ⟨wy.heap.size, 0, none⟩ 1 1 [x] rfl rfl HNA (by omega) 1 (by simp) [x] rfl (by omega) (by simp; omega) ?_; intro g2 c2 w2 HO2 _ HB2; have HE2 : Hid (Below H wy w2) := (HWB.out.trans (((bl_a _).mono hBW).trans HB2.out)); clear HB2 HNA; have hBW2 : H ≤ w2.heap.size := Nat.le_trans hBW HE2.out.size) | (refine appG0 rfl (.tmp 45) (.tmp 48) rfl (some ⟨g2, 0, none⟩) 1 c2 HO2.out.cap_le rfl _ _ rfl ?_))
        all_goals go_ret
        all_goals exact ⟨_, [x], rfl, HO2.out.base (Nat.le_trans hB (Nat.le_of_lt hxl)), HPZ.out _ (by simp), HB.out.trans (HE2.out.mono (Nat.le_of_lt hxl))⟩
      · obtain ⟨gb, rfl, hgb, hcap, hcl⟩ := HFM.out.resolve_left (fun e => by have h1 := HN.out; rw [e] at h1; simp at h1; omega)
        have HCL : Hid (∀ j u, (flatG l)[j]? = some u → w.cell? ⟨gb, j, none⟩ = some u) := hcl
        clear hcl
        obtain ⟨H, hH⟩ : ∃ H, H = wy.heap.size := ⟨_, rfl⟩
        have hxl : w.heap.size < H := by rw [hH]; exact HX.out.lt
        have HWB : Hid (Below H wy wy) := Below.refl _ _
        have H0 : Hid (OwnG wy H (.slice none 0 0) []) := OwnG.nil _ _
        have hBW : H ≤ wy.heap.size := by rw [hH]; exact Nat.le_refl _
        have hxc := HX.out.c
        have x0 := hxc 0 _ rfl
        have x1 := hxc 1 _ rfl
        have x2 := hxc 2 _ rfl
        have x3 := hxc 3 _ rfl
        have x4 := hxc 4 _ rfl
        have x5 := hxc 5 _ rfl
        have x6 := hxc 6 _ rfl
        have x7 := hxc 7 _ rfl
        have x8 := hxc 8 _ rfl
        have x9 := hxc 9 _ rfl
        have x10 := hxc 10 _ rfl
        have x11 := hxc 11 _ rfl
        clear hxc
        have hjn : j ≤ cap := by have h1 := HN.out; omega
        have hjz : (j : Int) ≤ (cap : Int) := by omega
        have hjp : 0 < j := by omega
        have HL1 : Hid ((l.take j).length = j) := (by rw [List.length_take, ← HN.out]; omega : (l.take j).length = j)
        have HN1 : Hid (∀ q u, (flatG (l.take j))[q]? = some u → wy.cell? ((⟨gb, 0, none⟩ : Addr).add q) = some u) := fun q u hu => by
          rw [addr_addG, Nat.zero_add]
          have h1 := flatG_piece (l := l) (f := 0) (m := j) (j := q) (u := u) (by rw [List.drop_zero]; exact hu)
          rw [Nat.zero_mul, Nat.zero_add] at h1
          exact (HB.out.cell (p := ⟨gb, q, none⟩) hgb).trans (HCL.out q u h1)
        go_wp2_with (first | (refine appGs rfl (.tmp 36) (.tmp 39) rfl H (.slice none 0 0) [] rfl H0 ⟨gb, 0, none⟩ j cap (l.take j) rfl HL1.out HN1 (by omega) j (by simp) (l.take j) (by simp) (by omega) hBW ?_; intro g1 c1 w1 HO1 _ HB1; have HE1 : Hid (Below H wy w1) := HB1.out; clear HB1 H0 HN1; have x0 := (HE1.out.cell (p := ⟨w.heap.size, 0, none⟩) hxl).trans x0; have x1 := (HE1.out.cell (p := ⟨w.heap.size, 1, none⟩) hxl).trans x1; have x2 := (HE1.out.cell (p := ⟨w.heap.size, 2, none⟩) hxl).trans x2; have x3 := (HE1.out.cell (p := ⟨w.heap.size, 3, none⟩) hxl).trans x3; have x4 := (HE1.out.cell (p := ⟨w.heap.size, 4, none⟩) hxl).trans x4; have x5 := (HE1.out.cell (p := ⟨w.heap.size, 5, none⟩) hxl).trans x5; have x6 := (HE1.out.cell (p := ⟨w.heap.size, 6, none⟩) hxl).trans x6; have x7 := (HE1.out.cell (p := ⟨w.heap.size, 7, none⟩) hxl).trans x7; have x8 := (HE1.out.cell (p := ⟨w.heap.size, 8, none⟩) hxl).trans x8; have x9 := (HE1.out.cell (p := ⟨w.heap.size, 9, none⟩) hxl).trans x9; have x10 := (HE1.out.cell (p := ⟨w.heap.size, 10, none⟩) hxl).trans x10; have x11 := (HE1.out.cell (p := ⟨w.heap.size, 11, none⟩) hxl).trans x11; have hBW1 : H ≤ w1.heap.size := Nat.le_trans hBW HE1.out.size; have HO1a : Hid (OwnG (w1.alloc (.cells #[.int .i64 x.t.k, .slice x.t.a x.t.len x.t.cap, .int .i64 x.t.n, .int .i64 x.t.s, .int .i64 x.u.k, .slice x.u.a x.u.len x.u.cap, .int .i64 x.u.n, .int .i64 x.u.s, .int .i64 x.v.k, .slice x.v.a x.v.len x.v.cap, .int .i64 x.v.n, .int .i64 x.v.s] 36)) H (.slice (some ⟨g1, 0, none⟩) j c1) (l.take j)) := HO1.out.below (bl_a _); have HNA : Hid (∀ q u, (flatG [x])[q]? = some u → (w1.alloc (.cells #[.int .i64 x.t.k, .slice x.t.a x.t.len x.t.cap, .int .i64 x.t.n, .int .i64 x.t.s, .int .i64 x.u.k, .slice x.u.a x.u.len x.u.cap, .int .i64 x.u.n, .int .i64 x.u.s, .int .i64 x.v.k, .slice x.v.a x.v.len x.v.cap, .int .i64 x.v.n, .int .i64 x.v.s] 36)).cell? ((⟨w1.heap.size, 0, none⟩ : Addr).add q) = some u) := fun q u hu => World.news_of_block (Go.heap_alloc_new _ _) q u (by simpa [flatG, eG, e12] using hu)) | (refine appGs rfl (.tmp 41) (.tmp 43) rfl H (.slice (some ⟨g1, 0, none⟩) j c1) (l.take j) rfl HO1a ⟨w1.heap.size, 0, none⟩ 1 1 [x] rfl rfl HNA (by omega) (j + 1) (by rw [HL1.out]) (l.take j ++ [x]) rfl (by omega) (by simp; omega) ?_; intro g2 c2 w2 HO2 _ HB2; have HE2 : Hid (Below H wy w2) := (HE1.out.trans (((bl_a _).mono hBW1).trans HB2.out)); clear HB2 HNA; have hBW2 : H ≤ w2.heap.size := Nat.le_trans hBW HE2.out.size) | (refine appG0 rfl (.tmp 45) (.tmp 48) rfl (some ⟨g2, 0, none⟩) (j + 1) c2 HO2.out.cap_le rfl _ _ rfl ?_))
        all_goals go_ret
        all_goals exact ⟨_, l.take j ++ [x], rfl, HO2.out.base (Nat.le_trans hB (Nat.le_of_lt hxl)), HPZ.out _ rfl, HB.out.trans (HE2.out.mono (Nat.le_of_lt hxl))⟩
end Go.Proofs.YtoclingolfdfeaaGreatDoor

/- LxB -/
namespace Go.Proofs.YtoclingolfdfeaaGreatDoor
open Go.RowKit Go.Deep
set_option maxRecDepth 100000

/-- What the loop over a number's bytes comes to. -/
def numF : List Int → Nat → Nat → Bool → Option (Nat × Nat)
  | [], n, s, _ => some (n, s)
  | b :: r, n, s, p => if b = 46 ∧ p = false then numF r n s true else if b < 48 ∨ 57 < b ∨ 1000000000000000 < n then none else numF r (n * 10 + (b - 48).toNat) (if p = true then s + 1 else s) p
theorem valL_cons (b : Int) (r : List Int) : valL (b :: r) = (b - 48).toNat * 10 ^ r.length + valL r := by
  have := valL_append [b] r
  rw [show [b] ++ r = b :: r from rfl, show valL [b] = (b - 48).toNat by simp [valL]] at this
  exact this
theorem numF_digits : ∀ (ds r : List Int) (n s : Nat) (p : Bool), (∀ x ∈ ds, 48 ≤ x ∧ x ≤ 57) → n * 10 ^ ds.length + valL ds ≤ 1000000000000000 → numF (ds ++ r) n s p = numF r (n * 10 ^ ds.length + valL ds) (if p = true then s + ds.length else s) p
  | [], r, n, s, p, _, _ => by
    simp [valL]
  | b :: ds, r, n, s, p, hd, hv => by
    have hb := hd b (List.mem_cons_self ..)
    rw [valL_cons, List.length_cons, Nat.pow_succ] at hv
    have hp : 1 ≤ 10 ^ ds.length := Nat.pow_pos (by omega)
    have hv2 : (n * 10 + (b - 48).toNat) * 10 ^ ds.length + valL ds ≤ 1000000000000000 := by
      rw [Nat.add_mul, Nat.mul_assoc, Nat.mul_comm 10]
      omega
    have hn : n ≤ 1000000000000000 := by
      have h1 : n * 1 ≤ n * (10 ^ ds.length * 10) := Nat.mul_le_mul_left n (by omega)
      omega
    rw [List.cons_append, numF, if_neg (by omega), if_neg (by omega), numF_digits ds r _ _ _ (fun x hx => hd x (List.mem_cons_of_mem _ hx)) hv2, valL_cons, List.length_cons, Nat.pow_succ]
    congr 1
    · rw [Nat.add_mul, Nat.mul_assoc, Nat.mul_comm 10 (10 ^ ds.length)]
      omega
    · cases p
      · simp
      · simp
        omega
/-- The body of a number that is shown. -/
theorem numF_num (m : Int) (k : Nat) (h0 : 0 ≤ m) (h1 : m ≤ 1000000000000000) : numF (numL m k) 0 0 false = some (m.toNat, k) := by
  obtain ⟨_, hd, hv, hl⟩ := num_parts m k h0
  have hcut := numL_cut m k
  rw [hcut] at hd hv hl
  simp only at hd hv hl
  unfold numL
  by_cases hk : k = 0
  · subst hk
    rw [if_pos rfl] at hd hv ⊢
    rw [List.append_nil] at hd hv
    have h2 := numF_digits (digitsL (m / p10 0).toNat) [] 0 0 false hd (by rw [Nat.zero_mul]; omega)
    rw [h2, Nat.zero_mul, numF]
    simp
    omega
  · rw [if_neg hk] at hd hv hl ⊢
    rw [valL_append] at hv
    obtain ⟨A, hA⟩ : ∃ A, A = digitsL (m / p10 k).toNat := ⟨_, rfl⟩
    obtain ⟨F, hF⟩ : ∃ F, F = List.replicate (k - (digitsL (m % p10 k).toNat).length) (48 : Int) ++ digitsL (m % p10 k).toNat := ⟨_, rfl⟩
    rw [← hA, ← hF] at hd hv ⊢
    rw [← hF] at hl
    have hp : 1 ≤ 10 ^ F.length := Nat.pow_pos (by omega)
    have hA1 : valL A * 1 ≤ valL A * 10 ^ F.length := Nat.mul_le_mul_left _ hp
    rw [numF_digits A (46 :: F) 0 0 false (fun x hx => hd x (List.mem_append_left _ hx)) (by rw [Nat.zero_mul]; omega), numF, if_pos ⟨rfl, rfl⟩]
    have h2 := numF_digits F [] (0 * 10 ^ A.length + valL A) 0 true (fun x hx => hd x (List.mem_append_right _ hx)) (by rw [Nat.zero_mul, Nat.zero_add]; omega)
    rw [List.append_nil] at h2
    simp only [Bool.false_eq_true, if_false, if_true] at h2 ⊢
    rw [h2, numF, Nat.zero_mul, Nat.zero_add]
    simp only [Option.some.injEq, Prod.mk.injEq]
    omega
/-- A piece that begins with no minus. -/
theorem numOf_plain {raw : List Int} (h : raw[0]? ≠ some 45) : (numF raw 0 0 false = none → numOf raw = none) ∧ ∀ m s : Nat, numF raw 0 0 false = some (m, s) → (numOf raw = some ((m : Int), (s : Int)) ∧ numOk m s = true ∧ showL 3 m s [] = raw) ∨ (numOf raw = none ∧ (numOk m s = false ∨ showL 3 m s [] ≠ raw)) := by
  have key : ∀ n t : Int, numOf raw = some (n, t) → numF raw 0 0 false = some (n.toNat, t.toNat) ∧ 0 ≤ n ∧ 0 ≤ t := fun n t hx => by
    obtain ⟨h1, h2⟩ := numOf_some.1 hx
    have hb := numOk_bounds h1
    have hn : 0 ≤ n := by
      apply Int.not_lt.1
      intro hn
      apply h
      rw [← h2]
      simp [showL, hn]
    have e : showL 3 n t [] = numL n t.toNat := by simp [showL]; omega
    rw [← h2, e, numF_num n t.toNat hn (by omega)]
    exact ⟨rfl, hn, hb.1⟩
  refine ⟨fun hx => ?_, fun m s hx => ?_⟩
  · cases hq : numOf raw with
    | none => rfl
    | some q =>
      rw [(key q.1 q.2 hq).1] at hx
      cases hx
  · cases hq : numOf raw with
    | none =>
      right
      refine ⟨rfl, ?_⟩
      cases hk : numOk (m : Int) (s : Int) with
      | false => exact .inl rfl
      | true =>
        right
        intro hs
        have := numOf_some.2 ⟨hk, hs⟩
        rw [hq] at this
        cases this
    | some q =>
      obtain ⟨h1, h2, h3⟩ := key q.1 q.2 hq
      rw [hx] at h1
      simp only [Option.some.injEq, Prod.mk.injEq] at h1
      have e : q = ((m : Int), (s : Int)) := Prod.ext (by show q.1 = _; omega) (by show q.2 = _; omega)
      rw [e] at hq
      obtain ⟨h4, h5⟩ := numOf_some.1 hq
      exact .inl ⟨by rw [e], h4, h5⟩
/-- A piece that begins with a minus. -/
theorem numOf_minus {r : List Int} : (numF r 0 0 false = none → numOf (45 :: r) = none) ∧ ∀ m s : Nat, numF r 0 0 false = some (m, s) → (numOf (45 :: r) = some (-(m : Int), (s : Int)) ∧ r ≠ [] ∧ numOk (-(m : Int)) s = true ∧ showL 3 (-(m : Int)) s [] = 45 :: r) ∨ (numOf (45 :: r) = none ∧ (r = [] ∨ numOk (-(m : Int)) s = false ∨ showL 3 (-(m : Int)) s [] ≠ 45 :: r)) := by
  have key : ∀ n t : Int, numOf (45 :: r) = some (n, t) → numF r 0 0 false = some ((-n).toNat, t.toNat) ∧ n < 0 ∧ 0 ≤ t ∧ r ≠ [] := fun n t hx => by
    obtain ⟨h1, h2⟩ := numOf_some.1 hx
    have hb := numOk_bounds h1
    have hn : n < 0 := by
      apply Int.not_le.1
      intro hn
      have e : showL 3 n t [] = numL n t.toNat := by simp [showL]; omega
      obtain ⟨d, l, e2, hd⟩ := num_head n t.toNat
      rw [e, e2] at h2
      simp only [List.cons.injEq] at h2
      omega
    have e : showL 3 n t [] = 45 :: numL (-n) t.toNat := by simp [showL, hn]
    rw [e] at h2
    simp only [List.cons.injEq, true_and] at h2
    obtain ⟨d, l, e2, hd⟩ := num_head (-n) t.toNat
    rw [← h2, numF_num (-n) t.toNat (by omega) (by omega)]
    exact ⟨rfl, hn, hb.1, by rw [e2]; simp⟩
  refine ⟨fun hx => ?_, fun m s hx => ?_⟩
  · cases hq : numOf (45 :: r) with
    | none => rfl
    | some q =>
      rw [(key q.1 q.2 hq).1] at hx
      cases hx
  · cases hq : numOf (45 :: r) with
    | none =>
      right
      refine ⟨rfl, ?_⟩
      cases hk : numOk (-(m : Int)) (s : Int) with
      | false => exact .inr (.inl rfl)
      | true =>
        right
        right
        intro hs
        have := numOf_some.2 ⟨hk, hs⟩
        rw [hq] at this
        cases this
    | some q =>
      obtain ⟨h1, h2, h3, h4⟩ := key q.1 q.2 hq
      rw [hx] at h1
      simp only [Option.some.injEq, Prod.mk.injEq] at h1
      have e : q = (-(m : Int), (s : Int)) := Prod.ext (by show q.1 = _; omega) (by show q.2 = _; omega)
      rw [e] at hq
      obtain ⟨h5, h6⟩ := numOf_some.1 hq
      exact .inl ⟨by rw [e], h4, h5, h6⟩
end Go.Proofs.YtoclingolfdfeaaGreatDoor
