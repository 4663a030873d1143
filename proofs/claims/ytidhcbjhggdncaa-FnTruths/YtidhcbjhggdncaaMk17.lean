/- Texts put together: TvS -/
import Derived.Test.YtidhcbjhggdncaaMk16
/- TvS -/
namespace Go.Proofs.Ytidhcbjhggdncaa
open Go.RowKit Go.Deep
set_option maxRecDepth 100000

set_option maxHeartbeats 8000000 in
theorem draw_step (g : Nat) (a : Option Addr) (len cap : Nat) (m : Int) (n : Nat) (w : World) (hlen : len ≤ 9223372036854775807) (h1 : 1 ≤ m) (h3 : m ≤ 3) (hC : Cur w g a len cap) (IH : ∀ W, Cur W g a len cap → Calls Try.prog 16 #[.pointer (some ⟨g, 0, none⟩), .int .i64 (m - 1)] W (ExprDrawn g a len cap n W)) : Calls Try.prog 16 #[.pointer (some ⟨g, 0, none⟩), .int .i64 m] w (ExprDrawn g a len cap (n + 1) w) := by
  have hm0 : ¬ m ≤ 0 := by omega
  have O := hid (fun W (n : Nat) (h : Cur W g a len cap) (h1 : 1 ≤ n) (h2 : n ≤ 256) => l1Once_any g a len cap n W hlen h h1 h2)
  have B := hid (fun W (h : Cur W g a len cap) => l1Below_any g a len cap 7 W hlen h (by omega) (by omega))
  have B8 := hid (fun W (h : Cur W g a len cap) => l1Below_any g a len cap 8 W hlen h (by omega) (by omega))
  have LT := hid (fun W (h : Cur W g a len cap) => l1term_any g a len cap W hlen h)
  have LN := hid (fun W (h : Cur W g a len cap) => l4name_any g a len cap W hlen h)
  have HM := hid (DM.new hC 29)
  have HC := hid hC
  have HI := hid IH
  have g1 : -9223372036854775808 ≤ m - 1 := by omega
  have g2 : m - 1 ≤ 9223372036854775807 := by omega
  have HWR : Hid (IntKind.i64.wrap (m - 1) = m - 1) := (show _ = _ by rw [IntKind.wrap_i64]; omega)
  clear hC IH
  go_in
  go_upto_region 1 with fail
  generalize (w.alloc (.cells #[.int .i64 0, .int .i64 0, .slice none 0 0, .int .i64 0, .slice none 0 0, .int .i64 0, .int .i64 0, .slice none 0 0] 29)) = W1 at *
  go_wp2_with fail
  refine (O.out _ 4 HM.out.c (by omega) (by omega)).mono ?_
  rintro e w2 ⟨p2, rfl, hP2, hC2⟩
  have HM2 := hid (HM.out.past hP2 hC2)
  clear hP2 hC2 HM
  cases p2 with
  | true =>
    go_wp2_with fail
    refine (O.out _ 2 HM2.out.c (by omega) (by omega)).mono ?_
    rintro e w8 ⟨p8, rfl, hP8, hC8⟩
    have HM8 := hid (HM2.out.past hP8 hC8)
    clear hP8 hC8 HM2
    cases p8 with
    | true =>
      go_wp2_with fail
      refine (LT.out _ HM8.out.c).mono ?_
      rintro e w9 ⟨⟨tk, tn, ts, ta, tl, tc, bs, rfl, hn, hs, _, hT⟩, hP9, hC9⟩
      have HM9 := hid (HM8.out.past hP9 hC9)
      have HL : Hid ((ET.mk ⟨1, 0, ⟨none, 0, 0, []⟩, ⟨⟨tk, ta, tl, tc, tn, ts⟩, bs⟩, none, 0, 0⟩ (fun _ => .nil)).lies (w.heap.size + 1) w9) := ⟨bsf0 _ _, hT.bsfV HM8.out.r.1, ⟨hn.1, hn.2, by have := hs.1; show -9223372036854775808 ≤ ts; omega, by have := hs.2; show ts ≤ 9223372036854775807; omega⟩, Nat.zero_le _, .inl rfl, fun i hi => absurd hi (Nat.not_lt_zero _)⟩
      clear hP9 hC9 HM8 hT hn hs
      have st : w9.there w.heap.size 0 8 := HM9.out.r.there 0 8 (by simp)
      have on : (#[.int .i64 1, .int .i64 0, .slice none 0 0, .int .i64 tk, .slice ta tl tc, .int .i64 tn, .int .i64 ts, .slice none 0 0] : Array Value).all (·.oneCell') = true := all_oneCell_toArray (cs := [.int .i64 1, .int .i64 0, .slice none 0 0, .int .i64 tk, .slice ta tl tc, .int .i64 tn, .int .i64 ts, .slice none 0 0]) (by simp [Value.oneCell'])
      have hrd : (w9.setCells w.heap.size 0 [.int .i64 1, .int .i64 0, .slice none 0 0, .int .i64 tk, .slice ta tl tc, .int .i64 tn, .int .i64 ts, .slice none 0 0]).rangeAt w.heap.size 0 [.int .i64 1, .int .i64 0, .slice none 0 0, .int .i64 tk, .slice ta tl tc, .int .i64 tn, .int .i64 ts, .slice none 0 0] := World.rangeAt_setCells_same _ _ _ _ st
      go_wp2_with (with_reducible refine wpv_at ?_; refine store_stopV 29 (.tmp 4) (.tmp 19) rfl ?_)
      change wpList _ _ _ _ _ _
      refine wpList_store_mid rfl 29 _ _ rfl w.heap.size 0 #[.int .i64 1, .int .i64 0, .slice none 0 0, .int .i64 tk, .slice ta tl tc, .int .i64 tn, .int .i64 ts, .slice none 0 0] rfl rfl st (by kernel_rfl) on ?_
      try simp only [Act.put]
      go_wp2
      try simp only [Exit.inBlock, Exit.then]
      refine bodyPost_ret (v := .agg #[.int .i64 1, .int .i64 0, .slice none 0 0, .int .i64 tk, .slice ta tl tc, .int .i64 tn, .int .i64 ts, .slice none 0 0]) ?hrbt rfl ?hpbt
      case hrbt => exact results_cell rfl rfl (run_loadVar_mid (P := Try.prog) _ w.heap.size 0 29 [.int .i64 1, .int .i64 0, .slice none 0 0, .int .i64 tk, .slice ta tl tc, .int .i64 tn, .int .i64 ts, .slice none 0 0] _ hrd Try.underlying29 rfl (by kernel_rfl))
      exact de_end HC.out HM9.out (ET.mk ⟨1, 0, ⟨none, 0, 0, []⟩, ⟨⟨tk, ta, tl, tc, tn, ts⟩, bs⟩, none, 0, 0⟩ (fun _ => .nil)) HL.out ⟨Nat.succ_pos _, Nat.zero_le _, .inl rfl, fun i hi => absurd hi (Nat.not_lt_zero _)⟩ (OwnK.leaf _ _ _ _ _ _) _ _ rfl
    | false =>
      go_wp2_with fail
      refine (LN.out _ HM8.out.c).mono ?_
      rintro e w9 ⟨y, rfl, hy, hT, hP9, hC9⟩
      have HM9 := hid (HM8.out.past hP9 hC9)
      have HY := hid hy
      have HL : Hid ((ET.mk ⟨0, 0, y, ⟨⟨0, none, 0, 0, 0, 0⟩, []⟩, none, 0, 0⟩ (fun _ => .nil)).lies (w.heap.size + 1) w9) := ⟨hT.base HM8.out.r.1, bsf0 _ _, fits0, Nat.zero_le _, .inl rfl, fun i hi => absurd hi (Nat.not_lt_zero _)⟩
      clear hP9 hC9 HM8 hT hy
      have st : w9.there w.heap.size 0 8 := HM9.out.r.there 0 8 (by simp)
      have on : (#[.int .i64 0, .int .i64 0, .slice y.a y.len y.cap, .int .i64 0, .slice none 0 0, .int .i64 0, .int .i64 0, .slice none 0 0] : Array Value).all (·.oneCell') = true := all_oneCell_toArray (cs := [.int .i64 0, .int .i64 0, .slice y.a y.len y.cap, .int .i64 0, .slice none 0 0, .int .i64 0, .int .i64 0, .slice none 0 0]) (by simp [Value.oneCell'])
      have hrd : (w9.setCells w.heap.size 0 [.int .i64 0, .int .i64 0, .slice y.a y.len y.cap, .int .i64 0, .slice none 0 0, .int .i64 0, .int .i64 0, .slice none 0 0]).rangeAt w.heap.size 0 [.int .i64 0, .int .i64 0, .slice y.a y.len y.cap, .int .i64 0, .slice none 0 0, .int .i64 0, .int .i64 0, .slice none 0 0] := World.rangeAt_setCells_same _ _ _ _ st
      go_wp2_with (with_reducible refine wpv_at ?_; refine store_stopV 29 (.tmp 4) (.tmp 22) rfl ?_)
      change wpList _ _ _ _ _ _
      refine wpList_store_mid rfl 29 _ _ rfl w.heap.size 0 #[.int .i64 0, .int .i64 0, .slice y.a y.len y.cap, .int .i64 0, .slice none 0 0, .int .i64 0, .int .i64 0, .slice none 0 0] rfl rfl st (by kernel_rfl) on ?_
      try simp only [Act.put]
      go_wp2
      try simp only [Exit.inBlock, Exit.then]
      refine bodyPost_ret (v := .agg #[.int .i64 0, .int .i64 0, .slice y.a y.len y.cap, .int .i64 0, .slice none 0 0, .int .i64 0, .int .i64 0, .slice none 0 0]) ?hrbn rfl ?hpbn
      case hrbn => exact results_cell rfl rfl (run_loadVar_mid (P := Try.prog) _ w.heap.size 0 29 [.int .i64 0, .int .i64 0, .slice y.a y.len y.cap, .int .i64 0, .slice none 0 0, .int .i64 0, .int .i64 0, .slice none 0 0] _ hrd Try.underlying29 rfl (by kernel_rfl))
      exact de_end HC.out HM9.out (ET.mk ⟨0, 0, y, ⟨⟨0, none, 0, 0, 0, 0⟩, []⟩, none, 0, 0⟩ (fun _ => .nil)) HL.out ⟨Nat.succ_pos _, Nat.zero_le _, .inr HY.out, fun i hi => absurd hi (Nat.not_lt_zero _)⟩ (OwnK.leaf _ _ _ _ _ _) _ _ rfl
  | false =>
    go_wp2_with fail
    refine (B.out _ HM2.out.c).mono ?_
    rintro e w3 ⟨x, rfl, hx, hP3, hC3⟩
    have HM3 := hid (HM2.out.past hP3 hC3)
    clear hP3 hC3 HM2 B O LT
    have hxx : x = 0 ∨ x = 1 ∨ x = 2 ∨ x = 3 ∨ x = 4 ∨ x = 5 ∨ x = 6 := by omega
    clear hx
    rcases hxx with rfl | rfl | rfl | rfl | rfl | rfl | rfl
    · go_wp2_with fail
      refine (HI.out _ HM3.out.c).mono ?_
      rintro e w4 ⟨x0, rfl, hl_x0, hv_x0, hP, hC, _⟩
      have HM_x0 := hid (HM3.out.past hP hC)
      have HL_x0 : Hid (x0.lies (w.heap.size + 1) w4) := hl_x0.base HM3.out.r.1
      have HV_x0 := hid hv_x0
      have HP_x0 := hid hP
      clear hP hC hl_x0 hv_x0
      have HX := hid (mkE 3 0 [x0] (by simp) (fun x hx => by rw [List.mem_singleton.1 hx]; exact ⟨HL_x0.out, HV_x0.out⟩) HM_x0.out.r.1 #[.int .i64 x0.d.k, .int .i64 x0.d.op, .slice x0.d.v.a x0.d.v.len x0.d.v.cap, .int .i64 x0.d.t.t.k, .slice x0.d.t.t.a x0.d.t.t.len x0.d.t.t.cap, .int .i64 x0.d.t.t.n, .int .i64 x0.d.t.t.s, .slice x0.d.ka x0.d.n x0.d.kc] 29 rfl rfl)
      have HM5 := hid (HM_x0.out.below (bl_a (.cells #[.int .i64 x0.d.k, .int .i64 x0.d.op, .slice x0.d.v.a x0.d.v.len x0.d.v.cap, .int .i64 x0.d.t.t.k, .slice x0.d.t.t.a x0.d.t.t.len x0.d.t.t.cap, .int .i64 x0.d.t.t.n, .int .i64 x0.d.t.t.s, .slice x0.d.ka x0.d.n x0.d.kc] 29)))
      clear HL_x0 HV_x0 HP_x0
      have st : (w4.alloc (.cells #[.int .i64 x0.d.k, .int .i64 x0.d.op, .slice x0.d.v.a x0.d.v.len x0.d.v.cap, .int .i64 x0.d.t.t.k, .slice x0.d.t.t.a x0.d.t.t.len x0.d.t.t.cap, .int .i64 x0.d.t.t.n, .int .i64 x0.d.t.t.s, .slice x0.d.ka x0.d.n x0.d.kc] 29)).there w.heap.size 0 8 := HM5.out.r.there 0 8 (by simp)
      have on : (#[.int .i64 3, .int .i64 0, .slice none 0 0, .int .i64 0, .slice none 0 0, .int .i64 0, .int .i64 0, .slice (some ⟨w4.heap.size, 0, none⟩) 1 1] : Array Value).all (·.oneCell') = true := all_oneCell_toArray (cs := [.int .i64 3, .int .i64 0, .slice none 0 0, .int .i64 0, .slice none 0 0, .int .i64 0, .int .i64 0, .slice (some ⟨w4.heap.size, 0, none⟩) 1 1]) (by simp [Value.oneCell'])
      have hrd : ((w4.alloc (.cells #[.int .i64 x0.d.k, .int .i64 x0.d.op, .slice x0.d.v.a x0.d.v.len x0.d.v.cap, .int .i64 x0.d.t.t.k, .slice x0.d.t.t.a x0.d.t.t.len x0.d.t.t.cap, .int .i64 x0.d.t.t.n, .int .i64 x0.d.t.t.s, .slice x0.d.ka x0.d.n x0.d.kc] 29)).setCells w.heap.size 0 [.int .i64 3, .int .i64 0, .slice none 0 0, .int .i64 0, .slice none 0 0, .int .i64 0, .int .i64 0, .slice (some ⟨w4.heap.size, 0, none⟩) 1 1]).rangeAt w.heap.size 0 [.int .i64 3, .int .i64 0, .slice none 0 0, .int .i64 0, .slice none 0 0, .int .i64 0, .int .i64 0, .slice (some ⟨w4.heap.size, 0, none⟩) 1 1] := World.rangeAt_setCells_same _ _ _ _ st
      go_wp2_with (with_reducible refine wpv_at ?_; refine store_stopV 29 (.tmp 4) (.tmp 32) rfl ?_)
      change wpList _ _ _ _ _ _
      refine wpList_store_mid rfl 29 _ _ rfl w.heap.size 0 #[.int .i64 3, .int .i64 0, .slice none 0 0, .int .i64 0, .slice none 0 0, .int .i64 0, .int .i64 0, .slice (some ⟨w4.heap.size, 0, none⟩) 1 1] rfl rfl st (by kernel_rfl) on ?_
      try simp only [Act.put]
      go_wp2
      try simp only [Exit.inBlock, Exit.then]
      refine bodyPost_ret (v := .agg #[.int .i64 3, .int .i64 0, .slice none 0 0, .int .i64 0, .slice none 0 0, .int .i64 0, .int .i64 0, .slice (some ⟨w4.heap.size, 0, none⟩) 1 1]) ?hrno rfl ?hpno
      case hrno => exact results_cell rfl rfl (run_loadVar_mid (P := Try.prog) _ w.heap.size 0 29 [.int .i64 3, .int .i64 0, .slice none 0 0, .int .i64 0, .slice none 0 0, .int .i64 0, .int .i64 0, .slice (some ⟨w4.heap.size, 0, none⟩) 1 1] _ hrd Try.underlying29 rfl (by kernel_rfl))
      exact de_end HC.out HM5.out (ET.mk ⟨3, 0, ⟨none, 0, 0, []⟩, ⟨⟨0, none, 0, 0, 0, 0⟩, []⟩, some ⟨w4.heap.size, 0, none⟩, 1, 1⟩ (fun i => ([x0] : List ET)[i]?.getD .nil)) HX.out.1 HX.out.2.1 HX.out.2.2 _ _ rfl
    · go_wp2_with fail
      refine (LN.out _ HM3.out.c).mono ?_
      rintro e w9 ⟨y, rfl, hy, hT, hP9, hC9⟩
      have HM9 := hid (HM3.out.past hP9 hC9)
      have HY := hid hy
      have HL : Hid ((ET.mk ⟨4, 0, y, ⟨⟨0, none, 0, 0, 0, 0⟩, []⟩, none, 0, 0⟩ (fun _ => .nil)).lies (w.heap.size + 1) w9) := ⟨hT.base HM3.out.r.1, bsf0 _ _, fits0, Nat.zero_le _, .inl rfl, fun i hi => absurd hi (Nat.not_lt_zero _)⟩
      clear hP9 hC9 HM3 hT hy
      have st : w9.there w.heap.size 0 8 := HM9.out.r.there 0 8 (by simp)
      have on : (#[.int .i64 4, .int .i64 0, .slice y.a y.len y.cap, .int .i64 0, .slice none 0 0, .int .i64 0, .int .i64 0, .slice none 0 0] : Array Value).all (·.oneCell') = true := all_oneCell_toArray (cs := [.int .i64 4, .int .i64 0, .slice y.a y.len y.cap, .int .i64 0, .slice none 0 0, .int .i64 0, .int .i64 0, .slice none 0 0]) (by simp [Value.oneCell'])
      have hrd : (w9.setCells w.heap.size 0 [.int .i64 4, .int .i64 0, .slice y.a y.len y.cap, .int .i64 0, .slice none 0 0, .int .i64 0, .int .i64 0, .slice none 0 0]).rangeAt w.heap.size 0 [.int .i64 4, .int .i64 0, .slice y.a y.len y.cap, .int .i64 0, .slice none 0 0, .int .i64 0, .int .i64 0, .slice none 0 0] := World.rangeAt_setCells_same _ _ _ _ st
      go_wp2_with (with_reducible refine wpv_at ?_; refine store_stopV 29 (.tmp 4) (.tmp 37) rfl ?_)
      change wpList _ _ _ _ _ _
      refine wpList_store_mid rfl 29 _ _ rfl w.heap.size 0 #[.int .i64 4, .int .i64 0, .slice y.a y.len y.cap, .int .i64 0, .slice none 0 0, .int .i64 0, .int .i64 0, .slice none 0 0] rfl rfl st (by kernel_rfl) on ?_
      try simp only [Act.put]
      go_wp2
      try simp only [Exit.inBlock, Exit.then]
      refine bodyPost_ret (v := .agg #[.int .i64 4, .int .i64 0, .slice y.a y.len y.cap, .int .i64 0, .slice none 0 0, .int .i64 0, .int .i64 0, .slice none 0 0]) ?hrbd rfl ?hpbd
      case hrbd => exact results_cell rfl rfl (run_loadVar_mid (P := Try.prog) _ w.heap.size 0 29 [.int .i64 4, .int .i64 0, .slice y.a y.len y.cap, .int .i64 0, .slice none 0 0, .int .i64 0, .int .i64 0, .slice none 0 0] _ hrd Try.underlying29 rfl (by kernel_rfl))
      exact de_end HC.out HM9.out (ET.mk ⟨4, 0, y, ⟨⟨0, none, 0, 0, 0, 0⟩, []⟩, none, 0, 0⟩ (fun _ => .nil)) HL.out ⟨Nat.succ_pos _, Nat.zero_le _, .inr HY.out, fun i hi => absurd hi (Nat.not_lt_zero _)⟩ (OwnK.leaf _ _ _ _ _ _) _ _ rfl
    · go_wp2_with fail
      refine (HI.out _ HM3.out.c).mono ?_
      rintro e w4 ⟨x0, rfl, hl_x0, hv_x0, hP, hC, _⟩
      have HM_x0 := hid (HM3.out.past hP hC)
      have HL_x0 : Hid (x0.lies (w.heap.size + 1) w4) := hl_x0.base HM3.out.r.1
      have HV_x0 := hid hv_x0
      have HP_x0 := hid hP
      clear hP hC hl_x0 hv_x0
      have HMb_x0 := hid (HM_x0.out.below (bl_a (.cells #[.int .i64 x0.d.k, .int .i64 x0.d.op, .slice x0.d.v.a x0.d.v.len x0.d.v.cap, .int .i64 x0.d.t.t.k, .slice x0.d.t.t.a x0.d.t.t.len x0.d.t.t.cap, .int .i64 x0.d.t.t.n, .int .i64 x0.d.t.t.s, .slice x0.d.ka x0.d.n x0.d.kc] 29)))
      have HX_x0 := hid (Box.new w4 #[.int .i64 x0.d.k, .int .i64 x0.d.op, .slice x0.d.v.a x0.d.v.len x0.d.v.cap, .int .i64 x0.d.t.t.k, .slice x0.d.t.t.a x0.d.t.t.len x0.d.t.t.cap, .int .i64 x0.d.t.t.n, .int .i64 x0.d.t.t.s, .slice x0.d.ka x0.d.n x0.d.kc] 29 (0, 0))
      have HLb_x0 := hid (ET.lies.below HL_x0.out (bl_a (.cells #[.int .i64 x0.d.k, .int .i64 x0.d.op, .slice x0.d.v.a x0.d.v.len x0.d.v.cap, .int .i64 x0.d.t.t.k, .slice x0.d.t.t.a x0.d.t.t.len x0.d.t.t.cap, .int .i64 x0.d.t.t.n, .int .i64 x0.d.t.t.s, .slice x0.d.ka x0.d.n x0.d.kc] 29)))
      have hw_x0 : w.heap.size < w4.heap.size := HM_x0.out.r.1
      go_upto_region 12 with fail
      obtain ⟨b0, he_x0⟩ : ∃ b, b = w4.heap.size := ⟨_, rfl⟩
      rw [← he_x0] at HX_x0 hw_x0 ⊢
      generalize w4.alloc (.cells #[.int .i64 x0.d.k, .int .i64 x0.d.op, .slice x0.d.v.a x0.d.v.len x0.d.v.cap, .int .i64 x0.d.t.t.k, .slice x0.d.t.t.a x0.d.t.t.len x0.d.t.t.cap, .int .i64 x0.d.t.t.n, .int .i64 x0.d.t.t.s, .slice x0.d.ka x0.d.n x0.d.kc] 29) = W5 at *
      clear HM_x0 HL_x0 HP_x0 he_x0 HM3
      go_wp2_with fail
      refine (HI.out _ HMb_x0.out.c).mono ?_
      rintro e w6 ⟨x1, rfl, hl_x1, hv_x1, hP, hC, _⟩
      have HM_x1 := hid (HMb_x0.out.past hP hC)
      have HL_x1 : Hid (x1.lies (w.heap.size + 1) w6) := hl_x1.base HMb_x0.out.r.1
      have HV_x1 := hid hv_x1
      have HP_x1 := hid hP
      clear hP hC hl_x1 hv_x1
      have HY_x0 := hid ((HX_x0.out.past HP_x1.out (by have := HM_x1.out.g; omega)).below (bl_a (.cells #[.int .i64 x1.d.k, .int .i64 x1.d.op, .slice x1.d.v.a x1.d.v.len x1.d.v.cap, .int .i64 x1.d.t.t.k, .slice x1.d.t.t.a x1.d.t.t.len x1.d.t.t.cap, .int .i64 x1.d.t.t.n, .int .i64 x1.d.t.t.s, .slice x1.d.ka x1.d.n x1.d.kc] 29)))
      have HLc_x0 := hid (ET.lies.below (ET.lies.upper (HP_x1.out.upper (by have := HM_x1.out.g; omega)) HLb_x0.out) (bl_a (.cells #[.int .i64 x1.d.k, .int .i64 x1.d.op, .slice x1.d.v.a x1.d.v.len x1.d.v.cap, .int .i64 x1.d.t.t.k, .slice x1.d.t.t.a x1.d.t.t.len x1.d.t.t.cap, .int .i64 x1.d.t.t.n, .int .i64 x1.d.t.t.s, .slice x1.d.ka x1.d.n x1.d.kc] 29)))
      clear HX_x0 HLb_x0
      have HMb_x1 := hid (HM_x1.out.below (bl_a (.cells #[.int .i64 x1.d.k, .int .i64 x1.d.op, .slice x1.d.v.a x1.d.v.len x1.d.v.cap, .int .i64 x1.d.t.t.k, .slice x1.d.t.t.a x1.d.t.t.len x1.d.t.t.cap, .int .i64 x1.d.t.t.n, .int .i64 x1.d.t.t.s, .slice x1.d.ka x1.d.n x1.d.kc] 29)))
      have HX_x1 := hid (Box.new w6 #[.int .i64 x1.d.k, .int .i64 x1.d.op, .slice x1.d.v.a x1.d.v.len x1.d.v.cap, .int .i64 x1.d.t.t.k, .slice x1.d.t.t.a x1.d.t.t.len x1.d.t.t.cap, .int .i64 x1.d.t.t.n, .int .i64 x1.d.t.t.s, .slice x1.d.ka x1.d.n x1.d.kc] 29 (0, 0))
      have HLb_x1 := hid (ET.lies.below HL_x1.out (bl_a (.cells #[.int .i64 x1.d.k, .int .i64 x1.d.op, .slice x1.d.v.a x1.d.v.len x1.d.v.cap, .int .i64 x1.d.t.t.k, .slice x1.d.t.t.a x1.d.t.t.len x1.d.t.t.cap, .int .i64 x1.d.t.t.n, .int .i64 x1.d.t.t.s, .slice x1.d.ka x1.d.n x1.d.kc] 29)))
      have hw_x1 : w.heap.size < w6.heap.size := HM_x1.out.r.1
      go_upto_region 13 with fail
      obtain ⟨b1, he_x1⟩ : ∃ b, b = w6.heap.size := ⟨_, rfl⟩
      rw [← he_x1] at HX_x1 hw_x1 ⊢
      generalize w6.alloc (.cells #[.int .i64 x1.d.k, .int .i64 x1.d.op, .slice x1.d.v.a x1.d.v.len x1.d.v.cap, .int .i64 x1.d.t.t.k, .slice x1.d.t.t.a x1.d.t.t.len x1.d.t.t.cap, .int .i64 x1.d.t.t.n, .int .i64 x1.d.t.t.s, .slice x1.d.ka x1.d.n x1.d.kc] 29) = W7 at *
      clear HM_x1 HL_x1 HP_x1 he_x1 HMb_x0
      go_wp2_with fail
      refine wqd (fun w' => Box w' b0 [.int .i64 x0.d.k, .int .i64 x0.d.op, .slice x0.d.v.a x0.d.v.len x0.d.v.cap, .int .i64 x0.d.t.t.k, .slice x0.d.t.t.a x0.d.t.t.len x0.d.t.t.cap, .int .i64 x0.d.t.t.n, .int .i64 x0.d.t.t.s, .slice x0.d.ka x0.d.n x0.d.kc] ∧ Box w' b1 [.int .i64 x1.d.k, .int .i64 x1.d.op, .slice x1.d.v.a x1.d.v.len x1.d.v.cap, .int .i64 x1.d.t.t.k, .slice x1.d.t.t.a x1.d.t.t.len x1.d.t.t.cap, .int .i64 x1.d.t.t.n, .int .i64 x1.d.t.t.s, .slice x1.d.ka x1.d.n x1.d.kc]) ?_ fun hHeld => ?_
      · exact ⟨HY_x0.out.below (Below.drew (Below.refl _ _)), HX_x1.out.below (Below.drew (Below.refl _ _))⟩
      refine ldq 0 48 Try.underlying29 (fun w' h => h.1.range 0 [.int .i64 x0.d.k, .int .i64 x0.d.op, .slice x0.d.v.a x0.d.v.len x0.d.v.cap, .int .i64 x0.d.t.t.k, .slice x0.d.t.t.a x0.d.t.t.len x0.d.t.t.cap, .int .i64 x0.d.t.t.n, .int .i64 x0.d.t.t.s, .slice x0.d.ka x0.d.n x0.d.kc] rfl) ?_
      refine ldq 1 49 Try.underlying29 (fun w' h => h.2.range 0 [.int .i64 x1.d.k, .int .i64 x1.d.op, .slice x1.d.v.a x1.d.v.len x1.d.v.cap, .int .i64 x1.d.t.t.k, .slice x1.d.t.t.a x1.d.t.t.len x1.d.t.t.cap, .int .i64 x1.d.t.t.n, .int .i64 x1.d.t.t.s, .slice x1.d.ka x1.d.n x1.d.kc] rfl) ?_
      refine tqB 2 50 ?_
      refine tqB 3 51 ?_
      refine tqB 4 52 (v := .int .i64 (m - 1)) (hy := by intro w' hSw; go_simp; exact HWR.out) ?_
      have HMd := hid (HMb_x1.out.below (Below.drew (Below.refl _ _)))
      have HLd0 := hid (ET.lies.below HLc_x0.out (Below.drew (Below.refl _ _)))
      have HLd1 := hid (ET.lies.below HLb_x1.out (Below.drew (Below.refl _ _)))
      refine rqA 5 fun K hK => ?_
      go_simp
      refine (HI.out _ HMd.out.c).mono ?_
      rintro e w8 ⟨x2, rfl, hl_x2, hv_x2, hP, hC, _⟩
      have HM_x2 := hid (HMd.out.past hP hC)
      have HL_x2 : Hid (x2.lies (w.heap.size + 1) w8) := hl_x2.base HMd.out.r.1
      have HV_x2 := hid hv_x2
      have HP_x2 := hid hP
      clear hP hC hl_x2 hv_x2
      have HXd := hid (And.intro (hHeld.1.past HP_x2.out (by have := HMd.out.g; omega)) (hHeld.2.past HP_x2.out (by have := HMd.out.g; omega)))
      have HLe0 : Hid (x0.lies (w.heap.size + 1) w8) := ET.lies.upper (HP_x2.out.upper (by have := HMd.out.g; omega)) HLd0.out
      have HLe1 : Hid (x1.lies (w.heap.size + 1) w8) := ET.lies.upper (HP_x2.out.upper (by have := HMd.out.g; omega)) HLd1.out
      clear hHeld HMb_x1 HLb_x1 HLc_x0 HMd HLd0 HLd1 HX_x1 HY_x0
      go_wp2_with fail
      refine hK.out _ _ ?_ (fun hHeld => ?_)
      · exact HXd.out
      clear hK K
      try simp only [Act.put, List.setIfInBounds_toArray, List.set_cons_zero, List.set_cons_succ]
      refine rqA 6 fun K hK => ?_
      go_simp
      refine hK.out _ _ ?_ (fun hHeld => ?_)
      · exact ⟨HXd.out.1.below (bl_a _), HXd.out.2.below (bl_a _)⟩
      clear hK K
      try simp only [Act.put, List.setIfInBounds_toArray, List.set_cons_zero, List.set_cons_succ]
      refine tqB 7 55 ?_
      have HX := hid (mkE 5 0 [x0, x1, x2] (by simp) (mem3 ⟨HLe0.out, HV_x0.out⟩ ⟨HLe1.out, HV_x1.out⟩ ⟨HL_x2.out, HV_x2.out⟩) HM_x2.out.r.1 #[.int .i64 x0.d.k, .int .i64 x0.d.op, .slice x0.d.v.a x0.d.v.len x0.d.v.cap, .int .i64 x0.d.t.t.k, .slice x0.d.t.t.a x0.d.t.t.len x0.d.t.t.cap, .int .i64 x0.d.t.t.n, .int .i64 x0.d.t.t.s, .slice x0.d.ka x0.d.n x0.d.kc, .int .i64 x1.d.k, .int .i64 x1.d.op, .slice x1.d.v.a x1.d.v.len x1.d.v.cap, .int .i64 x1.d.t.t.k, .slice x1.d.t.t.a x1.d.t.t.len x1.d.t.t.cap, .int .i64 x1.d.t.t.n, .int .i64 x1.d.t.t.s, .slice x1.d.ka x1.d.n x1.d.kc, .int .i64 x2.d.k, .int .i64 x2.d.op, .slice x2.d.v.a x2.d.v.len x2.d.v.cap, .int .i64 x2.d.t.t.k, .slice x2.d.t.t.a x2.d.t.t.len x2.d.t.t.cap, .int .i64 x2.d.t.t.n, .int .i64 x2.d.t.t.s, .slice x2.d.ka x2.d.n x2.d.kc] 29 rfl rfl)
      have HM5 := hid (HM_x2.out.below (bl_a (.cells #[.int .i64 x0.d.k, .int .i64 x0.d.op, .slice x0.d.v.a x0.d.v.len x0.d.v.cap, .int .i64 x0.d.t.t.k, .slice x0.d.t.t.a x0.d.t.t.len x0.d.t.t.cap, .int .i64 x0.d.t.t.n, .int .i64 x0.d.t.t.s, .slice x0.d.ka x0.d.n x0.d.kc, .int .i64 x1.d.k, .int .i64 x1.d.op, .slice x1.d.v.a x1.d.v.len x1.d.v.cap, .int .i64 x1.d.t.t.k, .slice x1.d.t.t.a x1.d.t.t.len x1.d.t.t.cap, .int .i64 x1.d.t.t.n, .int .i64 x1.d.t.t.s, .slice x1.d.ka x1.d.n x1.d.kc, .int .i64 x2.d.k, .int .i64 x2.d.op, .slice x2.d.v.a x2.d.v.len x2.d.v.cap, .int .i64 x2.d.t.t.k, .slice x2.d.t.t.a x2.d.t.t.len x2.d.t.t.cap, .int .i64 x2.d.t.t.n, .int .i64 x2.d.t.t.s, .slice x2.d.ka x2.d.n x2.d.kc] 29)))
      have HXf := hid (And.intro ((HXd.out.1.below (bl_a (.cells #[.int .i64 x0.d.k, .int .i64 x0.d.op, .slice x0.d.v.a x0.d.v.len x0.d.v.cap, .int .i64 x0.d.t.t.k, .slice x0.d.t.t.a x0.d.t.t.len x0.d.t.t.cap, .int .i64 x0.d.t.t.n, .int .i64 x0.d.t.t.s, .slice x0.d.ka x0.d.n x0.d.kc, .int .i64 x1.d.k, .int .i64 x1.d.op, .slice x1.d.v.a x1.d.v.len x1.d.v.cap, .int .i64 x1.d.t.t.k, .slice x1.d.t.t.a x1.d.t.t.len x1.d.t.t.cap, .int .i64 x1.d.t.t.n, .int .i64 x1.d.t.t.s, .slice x1.d.ka x1.d.n x1.d.kc, .int .i64 x2.d.k, .int .i64 x2.d.op, .slice x2.d.v.a x2.d.v.len x2.d.v.cap, .int .i64 x2.d.t.t.k, .slice x2.d.t.t.a x2.d.t.t.len x2.d.t.t.cap, .int .i64 x2.d.t.t.n, .int .i64 x2.d.t.t.s, .slice x2.d.ka x2.d.n x2.d.kc] 29))).upper (but_sets w.heap.size [.int .i64 5, .int .i64 0, .slice none 0 0, .int .i64 0, .slice none 0 0, .int .i64 0, .int .i64 0, .slice (some ⟨w8.heap.size, 0, none⟩) 3 3] 0 (w8.alloc (.cells #[.int .i64 x0.d.k, .int .i64 x0.d.op, .slice x0.d.v.a x0.d.v.len x0.d.v.cap, .int .i64 x0.d.t.t.k, .slice x0.d.t.t.a x0.d.t.t.len x0.d.t.t.cap, .int .i64 x0.d.t.t.n, .int .i64 x0.d.t.t.s, .slice x0.d.ka x0.d.n x0.d.kc, .int .i64 x1.d.k, .int .i64 x1.d.op, .slice x1.d.v.a x1.d.v.len x1.d.v.cap, .int .i64 x1.d.t.t.k, .slice x1.d.t.t.a x1.d.t.t.len x1.d.t.t.cap, .int .i64 x1.d.t.t.n, .int .i64 x1.d.t.t.s, .slice x1.d.ka x1.d.n x1.d.kc, .int .i64 x2.d.k, .int .i64 x2.d.op, .slice x2.d.v.a x2.d.v.len x2.d.v.cap, .int .i64 x2.d.t.t.k, .slice x2.d.t.t.a x2.d.t.t.len x2.d.t.t.cap, .int .i64 x2.d.t.t.n, .int .i64 x2.d.t.t.s, .slice x2.d.ka x2.d.n x2.d.kc] 29))) (by omega)) ((HXd.out.2.below (bl_a (.cells #[.int .i64 x0.d.k, .int .i64 x0.d.op, .slice x0.d.v.a x0.d.v.len x0.d.v.cap, .int .i64 x0.d.t.t.k, .slice x0.d.t.t.a x0.d.t.t.len x0.d.t.t.cap, .int .i64 x0.d.t.t.n, .int .i64 x0.d.t.t.s, .slice x0.d.ka x0.d.n x0.d.kc, .int .i64 x1.d.k, .int .i64 x1.d.op, .slice x1.d.v.a x1.d.v.len x1.d.v.cap, .int .i64 x1.d.t.t.k, .slice x1.d.t.t.a x1.d.t.t.len x1.d.t.t.cap, .int .i64 x1.d.t.t.n, .int .i64 x1.d.t.t.s, .slice x1.d.ka x1.d.n x1.d.kc, .int .i64 x2.d.k, .int .i64 x2.d.op, .slice x2.d.v.a x2.d.v.len x2.d.v.cap, .int .i64 x2.d.t.t.k, .slice x2.d.t.t.a x2.d.t.t.len x2.d.t.t.cap, .int .i64 x2.d.t.t.n, .int .i64 x2.d.t.t.s, .slice x2.d.ka x2.d.n x2.d.kc] 29))).upper (but_sets w.heap.size [.int .i64 5, .int .i64 0, .slice none 0 0, .int .i64 0, .slice none 0 0, .int .i64 0, .int .i64 0, .slice (some ⟨w8.heap.size, 0, none⟩) 3 3] 0 (w8.alloc (.cells #[.int .i64 x0.d.k, .int .i64 x0.d.op, .slice x0.d.v.a x0.d.v.len x0.d.v.cap, .int .i64 x0.d.t.t.k, .slice x0.d.t.t.a x0.d.t.t.len x0.d.t.t.cap, .int .i64 x0.d.t.t.n, .int .i64 x0.d.t.t.s, .slice x0.d.ka x0.d.n x0.d.kc, .int .i64 x1.d.k, .int .i64 x1.d.op, .slice x1.d.v.a x1.d.v.len x1.d.v.cap, .int .i64 x1.d.t.t.k, .slice x1.d.t.t.a x1.d.t.t.len x1.d.t.t.cap, .int .i64 x1.d.t.t.n, .int .i64 x1.d.t.t.s, .slice x1.d.ka x1.d.n x1.d.kc, .int .i64 x2.d.k, .int .i64 x2.d.op, .slice x2.d.v.a x2.d.v.len x2.d.v.cap, .int .i64 x2.d.t.t.k, .slice x2.d.t.t.a x2.d.t.t.len x2.d.t.t.cap, .int .i64 x2.d.t.t.n, .int .i64 x2.d.t.t.s, .slice x2.d.ka x2.d.n x2.d.kc] 29))) (by omega)))
      have st : (w8.alloc (.cells #[.int .i64 x0.d.k, .int .i64 x0.d.op, .slice x0.d.v.a x0.d.v.len x0.d.v.cap, .int .i64 x0.d.t.t.k, .slice x0.d.t.t.a x0.d.t.t.len x0.d.t.t.cap, .int .i64 x0.d.t.t.n, .int .i64 x0.d.t.t.s, .slice x0.d.ka x0.d.n x0.d.kc, .int .i64 x1.d.k, .int .i64 x1.d.op, .slice x1.d.v.a x1.d.v.len x1.d.v.cap, .int .i64 x1.d.t.t.k, .slice x1.d.t.t.a x1.d.t.t.len x1.d.t.t.cap, .int .i64 x1.d.t.t.n, .int .i64 x1.d.t.t.s, .slice x1.d.ka x1.d.n x1.d.kc, .int .i64 x2.d.k, .int .i64 x2.d.op, .slice x2.d.v.a x2.d.v.len x2.d.v.cap, .int .i64 x2.d.t.t.k, .slice x2.d.t.t.a x2.d.t.t.len x2.d.t.t.cap, .int .i64 x2.d.t.t.n, .int .i64 x2.d.t.t.s, .slice x2.d.ka x2.d.n x2.d.kc] 29)).there w.heap.size 0 8 := HM5.out.r.there 0 8 (by simp)
      have on : (#[.int .i64 5, .int .i64 0, .slice none 0 0, .int .i64 0, .slice none 0 0, .int .i64 0, .int .i64 0, .slice (some ⟨w8.heap.size, 0, none⟩) 3 3] : Array Value).all (·.oneCell') = true := all_oneCell_toArray (cs := [.int .i64 5, .int .i64 0, .slice none 0 0, .int .i64 0, .slice none 0 0, .int .i64 0, .int .i64 0, .slice (some ⟨w8.heap.size, 0, none⟩) 3 3]) (by simp [Value.oneCell'])
      have hrd : ((w8.alloc (.cells #[.int .i64 x0.d.k, .int .i64 x0.d.op, .slice x0.d.v.a x0.d.v.len x0.d.v.cap, .int .i64 x0.d.t.t.k, .slice x0.d.t.t.a x0.d.t.t.len x0.d.t.t.cap, .int .i64 x0.d.t.t.n, .int .i64 x0.d.t.t.s, .slice x0.d.ka x0.d.n x0.d.kc, .int .i64 x1.d.k, .int .i64 x1.d.op, .slice x1.d.v.a x1.d.v.len x1.d.v.cap, .int .i64 x1.d.t.t.k, .slice x1.d.t.t.a x1.d.t.t.len x1.d.t.t.cap, .int .i64 x1.d.t.t.n, .int .i64 x1.d.t.t.s, .slice x1.d.ka x1.d.n x1.d.kc, .int .i64 x2.d.k, .int .i64 x2.d.op, .slice x2.d.v.a x2.d.v.len x2.d.v.cap, .int .i64 x2.d.t.t.k, .slice x2.d.t.t.a x2.d.t.t.len x2.d.t.t.cap, .int .i64 x2.d.t.t.n, .int .i64 x2.d.t.t.s, .slice x2.d.ka x2.d.n x2.d.kc] 29)).setCells w.heap.size 0 [.int .i64 5, .int .i64 0, .slice none 0 0, .int .i64 0, .slice none 0 0, .int .i64 0, .int .i64 0, .slice (some ⟨w8.heap.size, 0, none⟩) 3 3]).rangeAt w.heap.size 0 [.int .i64 5, .int .i64 0, .slice none 0 0, .int .i64 0, .slice none 0 0, .int .i64 0, .int .i64 0, .slice (some ⟨w8.heap.size, 0, none⟩) 3 3] := World.rangeAt_setCells_same _ _ _ _ st
      refine rqA 8 fun K hK => ?_
      refine step_storeV 29 w.heap.size 0 #[.int .i64 5, .int .i64 0, .slice none 0 0, .int .i64 0, .slice none 0 0, .int .i64 0, .int .i64 0, .slice (some ⟨w8.heap.size, 0, none⟩) 3 3] st on ?_
      refine hK.out _ _ ?_ (fun hHeld => ?_)
      · exact HXf.out
      clear hK K st on hHeld
      try simp only [Act.put]
      refine wpAnyH_done (by kernel_rfl) ?_ _
      go_wp2
      try simp only [Exit.inBlock, Exit.then]
      refine bodyPost_ret (v := .agg #[.int .i64 5, .int .i64 0, .slice none 0 0, .int .i64 0, .slice none 0 0, .int .i64 0, .int .i64 0, .slice (some ⟨w8.heap.size, 0, none⟩) 3 3]) ?hri rfl ?hpi
      case hri => exact results_cell rfl rfl (run_loadVar_mid (P := Try.prog) _ w.heap.size 0 29 [.int .i64 5, .int .i64 0, .slice none 0 0, .int .i64 0, .slice none 0 0, .int .i64 0, .int .i64 0, .slice (some ⟨w8.heap.size, 0, none⟩) 3 3] _ hrd Try.underlying29 rfl (by kernel_rfl))
      exact de_end HC.out HM5.out (ET.mk ⟨5, 0, ⟨none, 0, 0, []⟩, ⟨⟨0, none, 0, 0, 0, 0⟩, []⟩, some ⟨w8.heap.size, 0, none⟩, 3, 3⟩ (fun i => ([x0, x1, x2] : List ET)[i]?.getD .nil)) HX.out.1 HX.out.2.1 HX.out.2.2 _ _ rfl
    · go_wp2_with fail
      refine (HI.out _ HM3.out.c).mono ?_
      rintro e w4 ⟨x0, rfl, hl_x0, hv_x0, hP, hC, _⟩
      have HM_x0 := hid (HM3.out.past hP hC)
      have HL_x0 : Hid (x0.lies (w.heap.size + 1) w4) := hl_x0.base HM3.out.r.1
      have HV_x0 := hid hv_x0
      have HP_x0 := hid hP
      clear hP hC hl_x0 hv_x0
      have HMb := hid (HM_x0.out.below (bl_a (.cells #[.int .i64 x0.d.k, .int .i64 x0.d.op, .slice x0.d.v.a x0.d.v.len x0.d.v.cap, .int .i64 x0.d.t.t.k, .slice x0.d.t.t.a x0.d.t.t.len x0.d.t.t.cap, .int .i64 x0.d.t.t.n, .int .i64 x0.d.t.t.s, .slice x0.d.ka x0.d.n x0.d.kc] 29)))
      have HX0 := hid (Box.new w4 #[.int .i64 x0.d.k, .int .i64 x0.d.op, .slice x0.d.v.a x0.d.v.len x0.d.v.cap, .int .i64 x0.d.t.t.k, .slice x0.d.t.t.a x0.d.t.t.len x0.d.t.t.cap, .int .i64 x0.d.t.t.n, .int .i64 x0.d.t.t.s, .slice x0.d.ka x0.d.n x0.d.kc] 29 (0, 0))
      have HLb := hid (ET.lies.below HL_x0.out (bl_a (.cells #[.int .i64 x0.d.k, .int .i64 x0.d.op, .slice x0.d.v.a x0.d.v.len x0.d.v.cap, .int .i64 x0.d.t.t.k, .slice x0.d.t.t.a x0.d.t.t.len x0.d.t.t.cap, .int .i64 x0.d.t.t.n, .int .i64 x0.d.t.t.s, .slice x0.d.ka x0.d.n x0.d.kc] 29)))
      have hb0 : w.heap.size < w4.heap.size := HM_x0.out.r.1
      go_upto_region 16 with fail
      obtain ⟨b0, hb0e⟩ : ∃ b, b = w4.heap.size := ⟨_, rfl⟩
      rw [← hb0e] at HX0 hb0 ⊢
      generalize w4.alloc (.cells #[.int .i64 x0.d.k, .int .i64 x0.d.op, .slice x0.d.v.a x0.d.v.len x0.d.v.cap, .int .i64 x0.d.t.t.k, .slice x0.d.t.t.a x0.d.t.t.len x0.d.t.t.cap, .int .i64 x0.d.t.t.n, .int .i64 x0.d.t.t.s, .slice x0.d.ka x0.d.n x0.d.kc] 29) = W5 at *
      clear HM_x0 HL_x0 HP_x0 HM3 hb0e
      go_wp2_with fail
      refine wqd (fun w' => Box w' b0 [.int .i64 x0.d.k, .int .i64 x0.d.op, .slice x0.d.v.a x0.d.v.len x0.d.v.cap, .int .i64 x0.d.t.t.k, .slice x0.d.t.t.a x0.d.t.t.len x0.d.t.t.cap, .int .i64 x0.d.t.t.n, .int .i64 x0.d.t.t.s, .slice x0.d.ka x0.d.n x0.d.kc]) ?_ fun hHeld => ?_
      · exact HX0.out.below (Below.drew (Below.refl _ _))
      refine ldq 0 62 Try.underlying29 (fun w' h => h.range 0 [.int .i64 x0.d.k, .int .i64 x0.d.op, .slice x0.d.v.a x0.d.v.len x0.d.v.cap, .int .i64 x0.d.t.t.k, .slice x0.d.t.t.a x0.d.t.t.len x0.d.t.t.cap, .int .i64 x0.d.t.t.n, .int .i64 x0.d.t.t.s, .slice x0.d.ka x0.d.n x0.d.kc] rfl) ?_
      refine tqB 1 63 ?_
      refine tqB 2 64 ?_
      refine tqB 3 65 (v := .int .i64 (m - 1)) (hy := by intro w' hSw; go_simp; exact HWR.out) ?_
      have HMd := hid (HMb.out.below (Below.drew (Below.refl _ _)))
      have HLd := hid (ET.lies.below HLb.out (Below.drew (Below.refl _ _)))
      refine rqA 4 fun K hK => ?_
      go_simp
      refine (HI.out _ HMd.out.c).mono ?_
      rintro e w6 ⟨x1, rfl, hl_x1, hv_x1, hP, hC, _⟩
      have HM_x1 := hid (HMd.out.past hP hC)
      have HL_x1 : Hid (x1.lies (w.heap.size + 1) w6) := hl_x1.base HMd.out.r.1
      have HV_x1 := hid hv_x1
      have HP_x1 := hid hP
      clear hP hC hl_x1 hv_x1
      have HXd := hid (hHeld.past HP_x1.out (by have := HMd.out.g; omega))
      have HLe : Hid (x0.lies (w.heap.size + 1) w6) := ET.lies.upper (HP_x1.out.upper (by have := HMd.out.g; omega)) HLd.out
      clear hHeld HMb HLb HMd HLd HX0
      go_wp2_with fail
      refine hK.out _ _ ?_ (fun hHeld => ?_)
      · exact HXd.out
      clear hK K
      try simp only [Act.put, List.setIfInBounds_toArray, List.set_cons_zero, List.set_cons_succ]
      refine rqA 5 fun K hK => ?_
      go_simp
      refine hK.out _ _ ?_ (fun hHeld => ?_)
      · exact HXd.out.below (bl_a _)
      clear hK K
      try simp only [Act.put, List.setIfInBounds_toArray, List.set_cons_zero, List.set_cons_succ]
      refine tqB 6 68 ?_
      have HX := hid (mkE 6 0 [x0, x1] (by simp) (mem2 ⟨HLe.out, HV_x0.out⟩ ⟨HL_x1.out, HV_x1.out⟩) HM_x1.out.r.1 #[.int .i64 x0.d.k, .int .i64 x0.d.op, .slice x0.d.v.a x0.d.v.len x0.d.v.cap, .int .i64 x0.d.t.t.k, .slice x0.d.t.t.a x0.d.t.t.len x0.d.t.t.cap, .int .i64 x0.d.t.t.n, .int .i64 x0.d.t.t.s, .slice x0.d.ka x0.d.n x0.d.kc, .int .i64 x1.d.k, .int .i64 x1.d.op, .slice x1.d.v.a x1.d.v.len x1.d.v.cap, .int .i64 x1.d.t.t.k, .slice x1.d.t.t.a x1.d.t.t.len x1.d.t.t.cap, .int .i64 x1.d.t.t.n, .int .i64 x1.d.t.t.s, .slice x1.d.ka x1.d.n x1.d.kc] 29 rfl rfl)
      have HM5 := hid (HM_x1.out.below (bl_a (.cells #[.int .i64 x0.d.k, .int .i64 x0.d.op, .slice x0.d.v.a x0.d.v.len x0.d.v.cap, .int .i64 x0.d.t.t.k, .slice x0.d.t.t.a x0.d.t.t.len x0.d.t.t.cap, .int .i64 x0.d.t.t.n, .int .i64 x0.d.t.t.s, .slice x0.d.ka x0.d.n x0.d.kc, .int .i64 x1.d.k, .int .i64 x1.d.op, .slice x1.d.v.a x1.d.v.len x1.d.v.cap, .int .i64 x1.d.t.t.k, .slice x1.d.t.t.a x1.d.t.t.len x1.d.t.t.cap, .int .i64 x1.d.t.t.n, .int .i64 x1.d.t.t.s, .slice x1.d.ka x1.d.n x1.d.kc] 29)))
      have HXf := hid ((HXd.out.below (bl_a (.cells #[.int .i64 x0.d.k, .int .i64 x0.d.op, .slice x0.d.v.a x0.d.v.len x0.d.v.cap, .int .i64 x0.d.t.t.k, .slice x0.d.t.t.a x0.d.t.t.len x0.d.t.t.cap, .int .i64 x0.d.t.t.n, .int .i64 x0.d.t.t.s, .slice x0.d.ka x0.d.n x0.d.kc, .int .i64 x1.d.k, .int .i64 x1.d.op, .slice x1.d.v.a x1.d.v.len x1.d.v.cap, .int .i64 x1.d.t.t.k, .slice x1.d.t.t.a x1.d.t.t.len x1.d.t.t.cap, .int .i64 x1.d.t.t.n, .int .i64 x1.d.t.t.s, .slice x1.d.ka x1.d.n x1.d.kc] 29))).upper (but_sets w.heap.size [.int .i64 6, .int .i64 0, .slice none 0 0, .int .i64 0, .slice none 0 0, .int .i64 0, .int .i64 0, .slice (some ⟨w6.heap.size, 0, none⟩) 2 2] 0 (w6.alloc (.cells #[.int .i64 x0.d.k, .int .i64 x0.d.op, .slice x0.d.v.a x0.d.v.len x0.d.v.cap, .int .i64 x0.d.t.t.k, .slice x0.d.t.t.a x0.d.t.t.len x0.d.t.t.cap, .int .i64 x0.d.t.t.n, .int .i64 x0.d.t.t.s, .slice x0.d.ka x0.d.n x0.d.kc, .int .i64 x1.d.k, .int .i64 x1.d.op, .slice x1.d.v.a x1.d.v.len x1.d.v.cap, .int .i64 x1.d.t.t.k, .slice x1.d.t.t.a x1.d.t.t.len x1.d.t.t.cap, .int .i64 x1.d.t.t.n, .int .i64 x1.d.t.t.s, .slice x1.d.ka x1.d.n x1.d.kc] 29))) (by omega))
      have st : (w6.alloc (.cells #[.int .i64 x0.d.k, .int .i64 x0.d.op, .slice x0.d.v.a x0.d.v.len x0.d.v.cap, .int .i64 x0.d.t.t.k, .slice x0.d.t.t.a x0.d.t.t.len x0.d.t.t.cap, .int .i64 x0.d.t.t.n, .int .i64 x0.d.t.t.s, .slice x0.d.ka x0.d.n x0.d.kc, .int .i64 x1.d.k, .int .i64 x1.d.op, .slice x1.d.v.a x1.d.v.len x1.d.v.cap, .int .i64 x1.d.t.t.k, .slice x1.d.t.t.a x1.d.t.t.len x1.d.t.t.cap, .int .i64 x1.d.t.t.n, .int .i64 x1.d.t.t.s, .slice x1.d.ka x1.d.n x1.d.kc] 29)).there w.heap.size 0 8 := HM5.out.r.there 0 8 (by simp)
      have on : (#[.int .i64 6, .int .i64 0, .slice none 0 0, .int .i64 0, .slice none 0 0, .int .i64 0, .int .i64 0, .slice (some ⟨w6.heap.size, 0, none⟩) 2 2] : Array Value).all (·.oneCell') = true := all_oneCell_toArray (cs := [.int .i64 6, .int .i64 0, .slice none 0 0, .int .i64 0, .slice none 0 0, .int .i64 0, .int .i64 0, .slice (some ⟨w6.heap.size, 0, none⟩) 2 2]) (by simp [Value.oneCell'])
      have hrd : ((w6.alloc (.cells #[.int .i64 x0.d.k, .int .i64 x0.d.op, .slice x0.d.v.a x0.d.v.len x0.d.v.cap, .int .i64 x0.d.t.t.k, .slice x0.d.t.t.a x0.d.t.t.len x0.d.t.t.cap, .int .i64 x0.d.t.t.n, .int .i64 x0.d.t.t.s, .slice x0.d.ka x0.d.n x0.d.kc, .int .i64 x1.d.k, .int .i64 x1.d.op, .slice x1.d.v.a x1.d.v.len x1.d.v.cap, .int .i64 x1.d.t.t.k, .slice x1.d.t.t.a x1.d.t.t.len x1.d.t.t.cap, .int .i64 x1.d.t.t.n, .int .i64 x1.d.t.t.s, .slice x1.d.ka x1.d.n x1.d.kc] 29)).setCells w.heap.size 0 [.int .i64 6, .int .i64 0, .slice none 0 0, .int .i64 0, .slice none 0 0, .int .i64 0, .int .i64 0, .slice (some ⟨w6.heap.size, 0, none⟩) 2 2]).rangeAt w.heap.size 0 [.int .i64 6, .int .i64 0, .slice none 0 0, .int .i64 0, .slice none 0 0, .int .i64 0, .int .i64 0, .slice (some ⟨w6.heap.size, 0, none⟩) 2 2] := World.rangeAt_setCells_same _ _ _ _ st
      refine rqA 7 fun K hK => ?_
      refine step_storeV 29 w.heap.size 0 #[.int .i64 6, .int .i64 0, .slice none 0 0, .int .i64 0, .slice none 0 0, .int .i64 0, .int .i64 0, .slice (some ⟨w6.heap.size, 0, none⟩) 2 2] st on ?_
      refine hK.out _ _ ?_ (fun hHeld => ?_)
      · exact HXf.out
      clear hK K st on hHeld
      try simp only [Act.put]
      refine wpAnyH_done (by kernel_rfl) ?_ _
      go_wp2
      try simp only [Exit.inBlock, Exit.then]
      refine bodyPost_ret (v := .agg #[.int .i64 6, .int .i64 0, .slice none 0 0, .int .i64 0, .slice none 0 0, .int .i64 0, .int .i64 0, .slice (some ⟨w6.heap.size, 0, none⟩) 2 2]) ?hrc rfl ?hpc
      case hrc => exact results_cell rfl rfl (run_loadVar_mid (P := Try.prog) _ w.heap.size 0 29 [.int .i64 6, .int .i64 0, .slice none 0 0, .int .i64 0, .slice none 0 0, .int .i64 0, .int .i64 0, .slice (some ⟨w6.heap.size, 0, none⟩) 2 2] _ hrd Try.underlying29 rfl (by kernel_rfl))
      exact de_end HC.out HM5.out (ET.mk ⟨6, 0, ⟨none, 0, 0, []⟩, ⟨⟨0, none, 0, 0, 0, 0⟩, []⟩, some ⟨w6.heap.size, 0, none⟩, 2, 2⟩ (fun i => ([x0, x1] : List ET)[i]?.getD .nil)) HX.out.1 HX.out.2.1 HX.out.2.2 _ _ rfl
    · go_wp2_with fail
      refine (HI.out _ HM3.out.c).mono ?_
      rintro e w4 ⟨x0, rfl, hl_x0, hv_x0, hP, hC, _⟩
      have HM_x0 := hid (HM3.out.past hP hC)
      have HL_x0 : Hid (x0.lies (w.heap.size + 1) w4) := hl_x0.base HM3.out.r.1
      have HV_x0 := hid hv_x0
      have HP_x0 := hid hP
      clear hP hC hl_x0 hv_x0
      have HX := hid (mkE 7 0 [x0] (by simp) (fun x hx => by rw [List.mem_singleton.1 hx]; exact ⟨HL_x0.out, HV_x0.out⟩) HM_x0.out.r.1 #[.int .i64 x0.d.k, .int .i64 x0.d.op, .slice x0.d.v.a x0.d.v.len x0.d.v.cap, .int .i64 x0.d.t.t.k, .slice x0.d.t.t.a x0.d.t.t.len x0.d.t.t.cap, .int .i64 x0.d.t.t.n, .int .i64 x0.d.t.t.s, .slice x0.d.ka x0.d.n x0.d.kc] 29 rfl rfl)
      have HM5 := hid (HM_x0.out.below (bl_a (.cells #[.int .i64 x0.d.k, .int .i64 x0.d.op, .slice x0.d.v.a x0.d.v.len x0.d.v.cap, .int .i64 x0.d.t.t.k, .slice x0.d.t.t.a x0.d.t.t.len x0.d.t.t.cap, .int .i64 x0.d.t.t.n, .int .i64 x0.d.t.t.s, .slice x0.d.ka x0.d.n x0.d.kc] 29)))
      clear HL_x0 HV_x0 HP_x0
      have st : (w4.alloc (.cells #[.int .i64 x0.d.k, .int .i64 x0.d.op, .slice x0.d.v.a x0.d.v.len x0.d.v.cap, .int .i64 x0.d.t.t.k, .slice x0.d.t.t.a x0.d.t.t.len x0.d.t.t.cap, .int .i64 x0.d.t.t.n, .int .i64 x0.d.t.t.s, .slice x0.d.ka x0.d.n x0.d.kc] 29)).there w.heap.size 0 8 := HM5.out.r.there 0 8 (by simp)
      have on : (#[.int .i64 7, .int .i64 0, .slice none 0 0, .int .i64 0, .slice none 0 0, .int .i64 0, .int .i64 0, .slice (some ⟨w4.heap.size, 0, none⟩) 1 1] : Array Value).all (·.oneCell') = true := all_oneCell_toArray (cs := [.int .i64 7, .int .i64 0, .slice none 0 0, .int .i64 0, .slice none 0 0, .int .i64 0, .int .i64 0, .slice (some ⟨w4.heap.size, 0, none⟩) 1 1]) (by simp [Value.oneCell'])
      have hrd : ((w4.alloc (.cells #[.int .i64 x0.d.k, .int .i64 x0.d.op, .slice x0.d.v.a x0.d.v.len x0.d.v.cap, .int .i64 x0.d.t.t.k, .slice x0.d.t.t.a x0.d.t.t.len x0.d.t.t.cap, .int .i64 x0.d.t.t.n, .int .i64 x0.d.t.t.s, .slice x0.d.ka x0.d.n x0.d.kc] 29)).setCells w.heap.size 0 [.int .i64 7, .int .i64 0, .slice none 0 0, .int .i64 0, .slice none 0 0, .int .i64 0, .int .i64 0, .slice (some ⟨w4.heap.size, 0, none⟩) 1 1]).rangeAt w.heap.size 0 [.int .i64 7, .int .i64 0, .slice none 0 0, .int .i64 0, .slice none 0 0, .int .i64 0, .int .i64 0, .slice (some ⟨w4.heap.size, 0, none⟩) 1 1] := World.rangeAt_setCells_same _ _ _ _ st
      go_wp2_with (with_reducible refine wpv_at ?_; refine store_stopV 29 (.tmp 4) (.tmp 76) rfl ?_)
      change wpList _ _ _ _ _ _
      refine wpList_store_mid rfl 29 _ _ rfl w.heap.size 0 #[.int .i64 7, .int .i64 0, .slice none 0 0, .int .i64 0, .slice none 0 0, .int .i64 0, .int .i64 0, .slice (some ⟨w4.heap.size, 0, none⟩) 1 1] rfl rfl st (by kernel_rfl) on ?_
      try simp only [Act.put]
      go_wp2
      try simp only [Exit.inBlock, Exit.then]
      refine bodyPost_ret (v := .agg #[.int .i64 7, .int .i64 0, .slice none 0 0, .int .i64 0, .slice none 0 0, .int .i64 0, .int .i64 0, .slice (some ⟨w4.heap.size, 0, none⟩) 1 1]) ?hrle rfl ?hple
      case hrle => exact results_cell rfl rfl (run_loadVar_mid (P := Try.prog) _ w.heap.size 0 29 [.int .i64 7, .int .i64 0, .slice none 0 0, .int .i64 0, .slice none 0 0, .int .i64 0, .int .i64 0, .slice (some ⟨w4.heap.size, 0, none⟩) 1 1] _ hrd Try.underlying29 rfl (by kernel_rfl))
      exact de_end HC.out HM5.out (ET.mk ⟨7, 0, ⟨none, 0, 0, []⟩, ⟨⟨0, none, 0, 0, 0, 0⟩, []⟩, some ⟨w4.heap.size, 0, none⟩, 1, 1⟩ (fun i => ([x0] : List ET)[i]?.getD .nil)) HX.out.1 HX.out.2.1 HX.out.2.2 _ _ rfl
    · go_wp2_with fail
      refine (HI.out _ HM3.out.c).mono ?_
      rintro e w4 ⟨x0, rfl, hl_x0, hv_x0, hP, hC, _⟩
      have HM_x0 := hid (HM3.out.past hP hC)
      have HL_x0 : Hid (x0.lies (w.heap.size + 1) w4) := hl_x0.base HM3.out.r.1
      have HV_x0 := hid hv_x0
      have HP_x0 := hid hP
      clear hP hC hl_x0 hv_x0
      have HMb_x0 := hid (HM_x0.out.below (bl_a (.cells #[.int .i64 x0.d.k, .int .i64 x0.d.op, .slice x0.d.v.a x0.d.v.len x0.d.v.cap, .int .i64 x0.d.t.t.k, .slice x0.d.t.t.a x0.d.t.t.len x0.d.t.t.cap, .int .i64 x0.d.t.t.n, .int .i64 x0.d.t.t.s, .slice x0.d.ka x0.d.n x0.d.kc] 29)))
      have HX_x0 := hid (Box.new w4 #[.int .i64 x0.d.k, .int .i64 x0.d.op, .slice x0.d.v.a x0.d.v.len x0.d.v.cap, .int .i64 x0.d.t.t.k, .slice x0.d.t.t.a x0.d.t.t.len x0.d.t.t.cap, .int .i64 x0.d.t.t.n, .int .i64 x0.d.t.t.s, .slice x0.d.ka x0.d.n x0.d.kc] 29 (0, 0))
      have HLb_x0 := hid (ET.lies.below HL_x0.out (bl_a (.cells #[.int .i64 x0.d.k, .int .i64 x0.d.op, .slice x0.d.v.a x0.d.v.len x0.d.v.cap, .int .i64 x0.d.t.t.k, .slice x0.d.t.t.a x0.d.t.t.len x0.d.t.t.cap, .int .i64 x0.d.t.t.n, .int .i64 x0.d.t.t.s, .slice x0.d.ka x0.d.n x0.d.kc] 29)))
      have hw_x0 : w.heap.size < w4.heap.size := HM_x0.out.r.1
      go_upto_region 20 with fail
      obtain ⟨b0, he_x0⟩ : ∃ b, b = w4.heap.size := ⟨_, rfl⟩
      rw [← he_x0] at HX_x0 hw_x0 ⊢
      generalize w4.alloc (.cells #[.int .i64 x0.d.k, .int .i64 x0.d.op, .slice x0.d.v.a x0.d.v.len x0.d.v.cap, .int .i64 x0.d.t.t.k, .slice x0.d.t.t.a x0.d.t.t.len x0.d.t.t.cap, .int .i64 x0.d.t.t.n, .int .i64 x0.d.t.t.s, .slice x0.d.ka x0.d.n x0.d.kc] 29) = W5 at *
      clear HM_x0 HL_x0 HP_x0 he_x0 HM3
      go_wp2_with fail
      refine wqd (fun w' => Box w' b0 [.int .i64 x0.d.k, .int .i64 x0.d.op, .slice x0.d.v.a x0.d.v.len x0.d.v.cap, .int .i64 x0.d.t.t.k, .slice x0.d.t.t.a x0.d.t.t.len x0.d.t.t.cap, .int .i64 x0.d.t.t.n, .int .i64 x0.d.t.t.s, .slice x0.d.ka x0.d.n x0.d.kc]) ?_ fun hHeld => ?_
      · exact HX_x0.out.below (Below.drew (Below.refl _ _))
      refine tqB 0 81 ?_
      refine ldq 2 83 Try.underlying29 (fun w' h => h.range 0 [.int .i64 x0.d.k, .int .i64 x0.d.op, .slice x0.d.v.a x0.d.v.len x0.d.v.cap, .int .i64 x0.d.t.t.k, .slice x0.d.t.t.a x0.d.t.t.len x0.d.t.t.cap, .int .i64 x0.d.t.t.n, .int .i64 x0.d.t.t.s, .slice x0.d.ka x0.d.n x0.d.kc] rfl) ?_
      refine tqB 3 84 ?_
      refine tqB 4 85 ?_
      refine tqB 5 86 (v := .int .i64 (m - 1)) (hy := by intro w' hSw; go_simp; exact HWR.out) ?_
      have HMd := hid (HMb_x0.out.below (Below.drew (Below.refl _ _)))
      have HLd := hid (ET.lies.below HLb_x0.out (Below.drew (Below.refl _ _)))
      refine rqA 1 fun K hK => ?_
      go_simp
      refine (B8.out _ HMd.out.c).mono ?_
      rintro e w6 ⟨y, rfl, hy, hP6, hC6⟩
      have HM6 := hid (HMd.out.past hP6 hC6)
      have HXc := hid (hHeld.past hP6 (by have := HMd.out.g; omega))
      have HLc : Hid (x0.lies (w.heap.size + 1) w6) := ET.lies.upper (hP6.upper (by have := HMd.out.g; omega)) HLd.out
      clear hHeld hP6 hC6 HMd HLd HMb_x0 HLb_x0 HX_x0
      go_wp2_with fail
      refine hK.out _ _ ?_ (fun hHeld => ?_)
      · exact HXc.out
      clear hK K
      try simp only [Act.put, List.setIfInBounds_toArray, List.set_cons_zero, List.set_cons_succ]
      refine rqA 6 fun K hK => ?_
      go_simp
      refine (HI.out _ HM6.out.c).mono ?_
      rintro e w8 ⟨x1, rfl, hl_x1, hv_x1, hP, hC, _⟩
      have HM_x1 := hid (HM6.out.past hP hC)
      have HL_x1 : Hid (x1.lies (w.heap.size + 1) w8) := hl_x1.base HM6.out.r.1
      have HV_x1 := hid hv_x1
      have HP_x1 := hid hP
      clear hP hC hl_x1 hv_x1
      have HXd := hid (HXc.out.past HP_x1.out (by have := HM6.out.g; omega))
      have HLe : Hid (x0.lies (w.heap.size + 1) w8) := ET.lies.upper (HP_x1.out.upper (by have := HM6.out.g; omega)) HLc.out
      clear hHeld HXc HLc HM6
      go_wp2_with fail
      refine hK.out _ _ ?_ (fun hHeld => ?_)
      · exact HXd.out
      clear hK K
      try simp only [Act.put, List.setIfInBounds_toArray, List.set_cons_zero, List.set_cons_succ]
      refine rqA 7 fun K hK => ?_
      go_simp
      refine hK.out _ _ ?_ (fun hHeld => ?_)
      · exact HXd.out.below (bl_a _)
      clear hK K
      try simp only [Act.put, List.setIfInBounds_toArray, List.set_cons_zero, List.set_cons_succ]
      refine tqB 8 89 ?_
      have HX := hid (mkE 2 (y : Int) [x0, x1] (by simp) (mem2 ⟨HLe.out, HV_x0.out⟩ ⟨HL_x1.out, HV_x1.out⟩) HM_x1.out.r.1 #[.int .i64 x0.d.k, .int .i64 x0.d.op, .slice x0.d.v.a x0.d.v.len x0.d.v.cap, .int .i64 x0.d.t.t.k, .slice x0.d.t.t.a x0.d.t.t.len x0.d.t.t.cap, .int .i64 x0.d.t.t.n, .int .i64 x0.d.t.t.s, .slice x0.d.ka x0.d.n x0.d.kc, .int .i64 x1.d.k, .int .i64 x1.d.op, .slice x1.d.v.a x1.d.v.len x1.d.v.cap, .int .i64 x1.d.t.t.k, .slice x1.d.t.t.a x1.d.t.t.len x1.d.t.t.cap, .int .i64 x1.d.t.t.n, .int .i64 x1.d.t.t.s, .slice x1.d.ka x1.d.n x1.d.kc] 29 rfl rfl)
      have HM5 := hid (HM_x1.out.below (bl_a (.cells #[.int .i64 x0.d.k, .int .i64 x0.d.op, .slice x0.d.v.a x0.d.v.len x0.d.v.cap, .int .i64 x0.d.t.t.k, .slice x0.d.t.t.a x0.d.t.t.len x0.d.t.t.cap, .int .i64 x0.d.t.t.n, .int .i64 x0.d.t.t.s, .slice x0.d.ka x0.d.n x0.d.kc, .int .i64 x1.d.k, .int .i64 x1.d.op, .slice x1.d.v.a x1.d.v.len x1.d.v.cap, .int .i64 x1.d.t.t.k, .slice x1.d.t.t.a x1.d.t.t.len x1.d.t.t.cap, .int .i64 x1.d.t.t.n, .int .i64 x1.d.t.t.s, .slice x1.d.ka x1.d.n x1.d.kc] 29)))
      have HXf := hid ((HXd.out.below (bl_a (.cells #[.int .i64 x0.d.k, .int .i64 x0.d.op, .slice x0.d.v.a x0.d.v.len x0.d.v.cap, .int .i64 x0.d.t.t.k, .slice x0.d.t.t.a x0.d.t.t.len x0.d.t.t.cap, .int .i64 x0.d.t.t.n, .int .i64 x0.d.t.t.s, .slice x0.d.ka x0.d.n x0.d.kc, .int .i64 x1.d.k, .int .i64 x1.d.op, .slice x1.d.v.a x1.d.v.len x1.d.v.cap, .int .i64 x1.d.t.t.k, .slice x1.d.t.t.a x1.d.t.t.len x1.d.t.t.cap, .int .i64 x1.d.t.t.n, .int .i64 x1.d.t.t.s, .slice x1.d.ka x1.d.n x1.d.kc] 29))).upper (but_sets w.heap.size [.int .i64 2, .int .i64 y, .slice none 0 0, .int .i64 0, .slice none 0 0, .int .i64 0, .int .i64 0, .slice (some ⟨w8.heap.size, 0, none⟩) 2 2] 0 (w8.alloc (.cells #[.int .i64 x0.d.k, .int .i64 x0.d.op, .slice x0.d.v.a x0.d.v.len x0.d.v.cap, .int .i64 x0.d.t.t.k, .slice x0.d.t.t.a x0.d.t.t.len x0.d.t.t.cap, .int .i64 x0.d.t.t.n, .int .i64 x0.d.t.t.s, .slice x0.d.ka x0.d.n x0.d.kc, .int .i64 x1.d.k, .int .i64 x1.d.op, .slice x1.d.v.a x1.d.v.len x1.d.v.cap, .int .i64 x1.d.t.t.k, .slice x1.d.t.t.a x1.d.t.t.len x1.d.t.t.cap, .int .i64 x1.d.t.t.n, .int .i64 x1.d.t.t.s, .slice x1.d.ka x1.d.n x1.d.kc] 29))) (by omega))
      have st : (w8.alloc (.cells #[.int .i64 x0.d.k, .int .i64 x0.d.op, .slice x0.d.v.a x0.d.v.len x0.d.v.cap, .int .i64 x0.d.t.t.k, .slice x0.d.t.t.a x0.d.t.t.len x0.d.t.t.cap, .int .i64 x0.d.t.t.n, .int .i64 x0.d.t.t.s, .slice x0.d.ka x0.d.n x0.d.kc, .int .i64 x1.d.k, .int .i64 x1.d.op, .slice x1.d.v.a x1.d.v.len x1.d.v.cap, .int .i64 x1.d.t.t.k, .slice x1.d.t.t.a x1.d.t.t.len x1.d.t.t.cap, .int .i64 x1.d.t.t.n, .int .i64 x1.d.t.t.s, .slice x1.d.ka x1.d.n x1.d.kc] 29)).there w.heap.size 0 8 := HM5.out.r.there 0 8 (by simp)
      have on : (#[.int .i64 2, .int .i64 y, .slice none 0 0, .int .i64 0, .slice none 0 0, .int .i64 0, .int .i64 0, .slice (some ⟨w8.heap.size, 0, none⟩) 2 2] : Array Value).all (·.oneCell') = true := all_oneCell_toArray (cs := [.int .i64 2, .int .i64 y, .slice none 0 0, .int .i64 0, .slice none 0 0, .int .i64 0, .int .i64 0, .slice (some ⟨w8.heap.size, 0, none⟩) 2 2]) (by simp [Value.oneCell'])
      have hrd : ((w8.alloc (.cells #[.int .i64 x0.d.k, .int .i64 x0.d.op, .slice x0.d.v.a x0.d.v.len x0.d.v.cap, .int .i64 x0.d.t.t.k, .slice x0.d.t.t.a x0.d.t.t.len x0.d.t.t.cap, .int .i64 x0.d.t.t.n, .int .i64 x0.d.t.t.s, .slice x0.d.ka x0.d.n x0.d.kc, .int .i64 x1.d.k, .int .i64 x1.d.op, .slice x1.d.v.a x1.d.v.len x1.d.v.cap, .int .i64 x1.d.t.t.k, .slice x1.d.t.t.a x1.d.t.t.len x1.d.t.t.cap, .int .i64 x1.d.t.t.n, .int .i64 x1.d.t.t.s, .slice x1.d.ka x1.d.n x1.d.kc] 29)).setCells w.heap.size 0 [.int .i64 2, .int .i64 y, .slice none 0 0, .int .i64 0, .slice none 0 0, .int .i64 0, .int .i64 0, .slice (some ⟨w8.heap.size, 0, none⟩) 2 2]).rangeAt w.heap.size 0 [.int .i64 2, .int .i64 y, .slice none 0 0, .int .i64 0, .slice none 0 0, .int .i64 0, .int .i64 0, .slice (some ⟨w8.heap.size, 0, none⟩) 2 2] := World.rangeAt_setCells_same _ _ _ _ st
      refine rqA 9 fun K hK => ?_
      refine step_storeV 29 w.heap.size 0 #[.int .i64 2, .int .i64 y, .slice none 0 0, .int .i64 0, .slice none 0 0, .int .i64 0, .int .i64 0, .slice (some ⟨w8.heap.size, 0, none⟩) 2 2] st on ?_
      refine hK.out _ _ ?_ (fun hHeld => ?_)
      · exact HXf.out
      clear hK K st on hHeld
      try simp only [Act.put]
      refine wpAnyH_done (by kernel_rfl) ?_ _
      go_wp2
      try simp only [Exit.inBlock, Exit.then]
      refine bodyPost_ret (v := .agg #[.int .i64 2, .int .i64 y, .slice none 0 0, .int .i64 0, .slice none 0 0, .int .i64 0, .int .i64 0, .slice (some ⟨w8.heap.size, 0, none⟩) 2 2]) ?hroa rfl ?hpoa
      case hroa => exact results_cell rfl rfl (run_loadVar_mid (P := Try.prog) _ w.heap.size 0 29 [.int .i64 2, .int .i64 y, .slice none 0 0, .int .i64 0, .slice none 0 0, .int .i64 0, .int .i64 0, .slice (some ⟨w8.heap.size, 0, none⟩) 2 2] _ hrd Try.underlying29 rfl (by kernel_rfl))
      exact de_end HC.out HM5.out (ET.mk ⟨2, (y : Int), ⟨none, 0, 0, []⟩, ⟨⟨0, none, 0, 0, 0, 0⟩, []⟩, some ⟨w8.heap.size, 0, none⟩, 2, 2⟩ (fun i => ([x0, x1] : List ET)[i]?.getD .nil)) HX.out.1 HX.out.2.1 HX.out.2.2 _ _ rfl
    · go_wp2_with fail
      refine (HI.out _ HM3.out.c).mono ?_
      rintro e w4 ⟨x0, rfl, hl_x0, hv_x0, hP, hC, _⟩
      have HM_x0 := hid (HM3.out.past hP hC)
      have HL_x0 : Hid (x0.lies (w.heap.size + 1) w4) := hl_x0.base HM3.out.r.1
      have HV_x0 := hid hv_x0
      have HP_x0 := hid hP
      clear hP hC hl_x0 hv_x0
      have HMb_x0 := hid (HM_x0.out.below (bl_a (.cells #[.int .i64 x0.d.k, .int .i64 x0.d.op, .slice x0.d.v.a x0.d.v.len x0.d.v.cap, .int .i64 x0.d.t.t.k, .slice x0.d.t.t.a x0.d.t.t.len x0.d.t.t.cap, .int .i64 x0.d.t.t.n, .int .i64 x0.d.t.t.s, .slice x0.d.ka x0.d.n x0.d.kc] 29)))
      have HX_x0 := hid (Box.new w4 #[.int .i64 x0.d.k, .int .i64 x0.d.op, .slice x0.d.v.a x0.d.v.len x0.d.v.cap, .int .i64 x0.d.t.t.k, .slice x0.d.t.t.a x0.d.t.t.len x0.d.t.t.cap, .int .i64 x0.d.t.t.n, .int .i64 x0.d.t.t.s, .slice x0.d.ka x0.d.n x0.d.kc] 29 (0, 0))
      have HLb_x0 := hid (ET.lies.below HL_x0.out (bl_a (.cells #[.int .i64 x0.d.k, .int .i64 x0.d.op, .slice x0.d.v.a x0.d.v.len x0.d.v.cap, .int .i64 x0.d.t.t.k, .slice x0.d.t.t.a x0.d.t.t.len x0.d.t.t.cap, .int .i64 x0.d.t.t.n, .int .i64 x0.d.t.t.s, .slice x0.d.ka x0.d.n x0.d.kc] 29)))
      have hw_x0 : w.heap.size < w4.heap.size := HM_x0.out.r.1
      go_upto_region 20 with fail
      obtain ⟨b0, he_x0⟩ : ∃ b, b = w4.heap.size := ⟨_, rfl⟩
      rw [← he_x0] at HX_x0 hw_x0 ⊢
      generalize w4.alloc (.cells #[.int .i64 x0.d.k, .int .i64 x0.d.op, .slice x0.d.v.a x0.d.v.len x0.d.v.cap, .int .i64 x0.d.t.t.k, .slice x0.d.t.t.a x0.d.t.t.len x0.d.t.t.cap, .int .i64 x0.d.t.t.n, .int .i64 x0.d.t.t.s, .slice x0.d.ka x0.d.n x0.d.kc] 29) = W5 at *
      clear HM_x0 HL_x0 HP_x0 he_x0 HM3
      go_wp2_with fail
      refine wqd (fun w' => Box w' b0 [.int .i64 x0.d.k, .int .i64 x0.d.op, .slice x0.d.v.a x0.d.v.len x0.d.v.cap, .int .i64 x0.d.t.t.k, .slice x0.d.t.t.a x0.d.t.t.len x0.d.t.t.cap, .int .i64 x0.d.t.t.n, .int .i64 x0.d.t.t.s, .slice x0.d.ka x0.d.n x0.d.kc]) ?_ fun hHeld => ?_
      · exact HX_x0.out.below (Below.drew (Below.refl _ _))
      refine tqB 0 81 ?_
      refine ldq 2 83 Try.underlying29 (fun w' h => h.range 0 [.int .i64 x0.d.k, .int .i64 x0.d.op, .slice x0.d.v.a x0.d.v.len x0.d.v.cap, .int .i64 x0.d.t.t.k, .slice x0.d.t.t.a x0.d.t.t.len x0.d.t.t.cap, .int .i64 x0.d.t.t.n, .int .i64 x0.d.t.t.s, .slice x0.d.ka x0.d.n x0.d.kc] rfl) ?_
      refine tqB 3 84 ?_
      refine tqB 4 85 ?_
      refine tqB 5 86 (v := .int .i64 (m - 1)) (hy := by intro w' hSw; go_simp; exact HWR.out) ?_
      have HMd := hid (HMb_x0.out.below (Below.drew (Below.refl _ _)))
      have HLd := hid (ET.lies.below HLb_x0.out (Below.drew (Below.refl _ _)))
      refine rqA 1 fun K hK => ?_
      go_simp
      refine (B8.out _ HMd.out.c).mono ?_
      rintro e w6 ⟨y, rfl, hy, hP6, hC6⟩
      have HM6 := hid (HMd.out.past hP6 hC6)
      have HXc := hid (hHeld.past hP6 (by have := HMd.out.g; omega))
      have HLc : Hid (x0.lies (w.heap.size + 1) w6) := ET.lies.upper (hP6.upper (by have := HMd.out.g; omega)) HLd.out
      clear hHeld hP6 hC6 HMd HLd HMb_x0 HLb_x0 HX_x0
      go_wp2_with fail
      refine hK.out _ _ ?_ (fun hHeld => ?_)
      · exact HXc.out
      clear hK K
      try simp only [Act.put, List.setIfInBounds_toArray, List.set_cons_zero, List.set_cons_succ]
      refine rqA 6 fun K hK => ?_
      go_simp
      refine (HI.out _ HM6.out.c).mono ?_
      rintro e w8 ⟨x1, rfl, hl_x1, hv_x1, hP, hC, _⟩
      have HM_x1 := hid (HM6.out.past hP hC)
      have HL_x1 : Hid (x1.lies (w.heap.size + 1) w8) := hl_x1.base HM6.out.r.1
      have HV_x1 := hid hv_x1
      have HP_x1 := hid hP
      clear hP hC hl_x1 hv_x1
      have HXd := hid (HXc.out.past HP_x1.out (by have := HM6.out.g; omega))
      have HLe : Hid (x0.lies (w.heap.size + 1) w8) := ET.lies.upper (HP_x1.out.upper (by have := HM6.out.g; omega)) HLc.out
      clear hHeld HXc HLc HM6
      go_wp2_with fail
      refine hK.out _ _ ?_ (fun hHeld => ?_)
      · exact HXd.out
      clear hK K
      try simp only [Act.put, List.setIfInBounds_toArray, List.set_cons_zero, List.set_cons_succ]
      refine rqA 7 fun K hK => ?_
      go_simp
      refine hK.out _ _ ?_ (fun hHeld => ?_)
      · exact HXd.out.below (bl_a _)
      clear hK K
      try simp only [Act.put, List.setIfInBounds_toArray, List.set_cons_zero, List.set_cons_succ]
      refine tqB 8 89 ?_
      have HX := hid (mkE 2 (y : Int) [x0, x1] (by simp) (mem2 ⟨HLe.out, HV_x0.out⟩ ⟨HL_x1.out, HV_x1.out⟩) HM_x1.out.r.1 #[.int .i64 x0.d.k, .int .i64 x0.d.op, .slice x0.d.v.a x0.d.v.len x0.d.v.cap, .int .i64 x0.d.t.t.k, .slice x0.d.t.t.a x0.d.t.t.len x0.d.t.t.cap, .int .i64 x0.d.t.t.n, .int .i64 x0.d.t.t.s, .slice x0.d.ka x0.d.n x0.d.kc, .int .i64 x1.d.k, .int .i64 x1.d.op, .slice x1.d.v.a x1.d.v.len x1.d.v.cap, .int .i64 x1.d.t.t.k, .slice x1.d.t.t.a x1.d.t.t.len x1.d.t.t.cap, .int .i64 x1.d.t.t.n, .int .i64 x1.d.t.t.s, .slice x1.d.ka x1.d.n x1.d.kc] 29 rfl rfl)
      have HM5 := hid (HM_x1.out.below (bl_a (.cells #[.int .i64 x0.d.k, .int .i64 x0.d.op, .slice x0.d.v.a x0.d.v.len x0.d.v.cap, .int .i64 x0.d.t.t.k, .slice x0.d.t.t.a x0.d.t.t.len x0.d.t.t.cap, .int .i64 x0.d.t.t.n, .int .i64 x0.d.t.t.s, .slice x0.d.ka x0.d.n x0.d.kc, .int .i64 x1.d.k, .int .i64 x1.d.op, .slice x1.d.v.a x1.d.v.len x1.d.v.cap, .int .i64 x1.d.t.t.k, .slice x1.d.t.t.a x1.d.t.t.len x1.d.t.t.cap, .int .i64 x1.d.t.t.n, .int .i64 x1.d.t.t.s, .slice x1.d.ka x1.d.n x1.d.kc] 29)))
      have HXf := hid ((HXd.out.below (bl_a (.cells #[.int .i64 x0.d.k, .int .i64 x0.d.op, .slice x0.d.v.a x0.d.v.len x0.d.v.cap, .int .i64 x0.d.t.t.k, .slice x0.d.t.t.a x0.d.t.t.len x0.d.t.t.cap, .int .i64 x0.d.t.t.n, .int .i64 x0.d.t.t.s, .slice x0.d.ka x0.d.n x0.d.kc, .int .i64 x1.d.k, .int .i64 x1.d.op, .slice x1.d.v.a x1.d.v.len x1.d.v.cap, .int .i64 x1.d.t.t.k, .slice x1.d.t.t.a x1.d.t.t.len x1.d.t.t.cap, .int .i64 x1.d.t.t.n, .int .i64 x1.d.t.t.s, .slice x1.d.ka x1.d.n x1.d.kc] 29))).upper (but_sets w.heap.size [.int .i64 2, .int .i64 y, .slice none 0 0, .int .i64 0, .slice none 0 0, .int .i64 0, .int .i64 0, .slice (some ⟨w8.heap.size, 0, none⟩) 2 2] 0 (w8.alloc (.cells #[.int .i64 x0.d.k, .int .i64 x0.d.op, .slice x0.d.v.a x0.d.v.len x0.d.v.cap, .int .i64 x0.d.t.t.k, .slice x0.d.t.t.a x0.d.t.t.len x0.d.t.t.cap, .int .i64 x0.d.t.t.n, .int .i64 x0.d.t.t.s, .slice x0.d.ka x0.d.n x0.d.kc, .int .i64 x1.d.k, .int .i64 x1.d.op, .slice x1.d.v.a x1.d.v.len x1.d.v.cap, .int .i64 x1.d.t.t.k, .slice x1.d.t.t.a x1.d.t.t.len x1.d.t.t.cap, .int .i64 x1.d.t.t.n, .int .i64 x1.d.t.t.s, .slice x1.d.ka x1.d.n x1.d.kc] 29))) (by omega))
      have st : (w8.alloc (.cells #[.int .i64 x0.d.k, .int .i64 x0.d.op, .slice x0.d.v.a x0.d.v.len x0.d.v.cap, .int .i64 x0.d.t.t.k, .slice x0.d.t.t.a x0.d.t.t.len x0.d.t.t.cap, .int .i64 x0.d.t.t.n, .int .i64 x0.d.t.t.s, .slice x0.d.ka x0.d.n x0.d.kc, .int .i64 x1.d.k, .int .i64 x1.d.op, .slice x1.d.v.a x1.d.v.len x1.d.v.cap, .int .i64 x1.d.t.t.k, .slice x1.d.t.t.a x1.d.t.t.len x1.d.t.t.cap, .int .i64 x1.d.t.t.n, .int .i64 x1.d.t.t.s, .slice x1.d.ka x1.d.n x1.d.kc] 29)).there w.heap.size 0 8 := HM5.out.r.there 0 8 (by simp)
      have on : (#[.int .i64 2, .int .i64 y, .slice none 0 0, .int .i64 0, .slice none 0 0, .int .i64 0, .int .i64 0, .slice (some ⟨w8.heap.size, 0, none⟩) 2 2] : Array Value).all (·.oneCell') = true := all_oneCell_toArray (cs := [.int .i64 2, .int .i64 y, .slice none 0 0, .int .i64 0, .slice none 0 0, .int .i64 0, .int .i64 0, .slice (some ⟨w8.heap.size, 0, none⟩) 2 2]) (by simp [Value.oneCell'])
      have hrd : ((w8.alloc (.cells #[.int .i64 x0.d.k, .int .i64 x0.d.op, .slice x0.d.v.a x0.d.v.len x0.d.v.cap, .int .i64 x0.d.t.t.k, .slice x0.d.t.t.a x0.d.t.t.len x0.d.t.t.cap, .int .i64 x0.d.t.t.n, .int .i64 x0.d.t.t.s, .slice x0.d.ka x0.d.n x0.d.kc, .int .i64 x1.d.k, .int .i64 x1.d.op, .slice x1.d.v.a x1.d.v.len x1.d.v.cap, .int .i64 x1.d.t.t.k, .slice x1.d.t.t.a x1.d.t.t.len x1.d.t.t.cap, .int .i64 x1.d.t.t.n, .int .i64 x1.d.t.t.s, .slice x1.d.ka x1.d.n x1.d.kc] 29)).setCells w.heap.size 0 [.int .i64 2, .int .i64 y, .slice none 0 0, .int .i64 0, .slice none 0 0, .int .i64 0, .int .i64 0, .slice (some ⟨w8.heap.size, 0, none⟩) 2 2]).rangeAt w.heap.size 0 [.int .i64 2, .int .i64 y, .slice none 0 0, .int .i64 0, .slice none 0 0, .int .i64 0, .int .i64 0, .slice (some ⟨w8.heap.size, 0, none⟩) 2 2] := World.rangeAt_setCells_same _ _ _ _ st
      refine rqA 9 fun K hK => ?_
      refine step_storeV 29 w.heap.size 0 #[.int .i64 2, .int .i64 y, .slice none 0 0, .int .i64 0, .slice none 0 0, .int .i64 0, .int .i64 0, .slice (some ⟨w8.heap.size, 0, none⟩) 2 2] st on ?_
      refine hK.out _ _ ?_ (fun hHeld => ?_)
      · exact HXf.out
      clear hK K st on hHeld
      try simp only [Act.put]
      refine wpAnyH_done (by kernel_rfl) ?_ _
      go_wp2
      try simp only [Exit.inBlock, Exit.then]
      refine bodyPost_ret (v := .agg #[.int .i64 2, .int .i64 y, .slice none 0 0, .int .i64 0, .slice none 0 0, .int .i64 0, .int .i64 0, .slice (some ⟨w8.heap.size, 0, none⟩) 2 2]) ?hrob rfl ?hpob
      case hrob => exact results_cell rfl rfl (run_loadVar_mid (P := Try.prog) _ w.heap.size 0 29 [.int .i64 2, .int .i64 y, .slice none 0 0, .int .i64 0, .slice none 0 0, .int .i64 0, .int .i64 0, .slice (some ⟨w8.heap.size, 0, none⟩) 2 2] _ hrd Try.underlying29 rfl (by kernel_rfl))
      exact de_end HC.out HM5.out (ET.mk ⟨2, (y : Int), ⟨none, 0, 0, []⟩, ⟨⟨0, none, 0, 0, 0, 0⟩, []⟩, some ⟨w8.heap.size, 0, none⟩, 2, 2⟩ (fun i => ([x0, x1] : List ET)[i]?.getD .nil)) HX.out.1 HX.out.2.1 HX.out.2.2 _ _ rfl
end Go.Proofs.Ytidhcbjhggdncaa
